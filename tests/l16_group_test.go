package tests

import (
	"math"
	"slices"
	"testing"

	"loop.example/g00028/impl"
)

// obsOf is what is told of operations of which only a code and an epoch are told.
func obsOf(pairs ...[2]int) []impl.GroupObs {
	var list []impl.GroupObs
	for _, p := range pairs {
		list = append(list, impl.GroupObs{Code: p[0], Epoch: p[1]})
	}
	return list
}

func TestP18GroupWrittenDown(t *testing.T) {
	ops := []impl.GroupOp{
		says(0, "first"), enters(3), says(3, ""), reads(3, 1), reads(3, 2), heals(3), says(0, "third"), leaves(0), says(0, "none"), reads(0, 3), says(3, "fourth"), reads(0, 4),
		leaves(3), robs(0), spies(3), spies(4), enters(0), reads(0, 4), says(0, "fifth"), spies(5), robs(0), spies(5), {Kind: 8},
	}
	want := []impl.GroupObs{
		{Id: 1}, {Epoch: 1}, {Epoch: 1, Id: 2}, {Code: impl.ErrDenied, Epoch: 1}, {Epoch: 1}, {Epoch: 2}, {Epoch: 2, Id: 3}, {Epoch: 3}, {Code: impl.ErrMissing, Epoch: 3}, {Epoch: 3, Text: "third"}, {Epoch: 3, Id: 4}, {Code: impl.ErrDenied, Epoch: 3},
		{Code: impl.ErrRange, Epoch: 3}, {Epoch: 3}, {Epoch: 3, Text: "third"}, {Code: impl.ErrDenied, Epoch: 3}, {Epoch: 4}, {Code: impl.ErrDenied, Epoch: 4}, {Epoch: 4, Id: 5}, {Code: impl.ErrDenied, Epoch: 4}, {Epoch: 4}, {Epoch: 4, Text: "fifth"}, {Code: impl.ErrBad, Epoch: 4},
	}
	for _, seed := range []string{"s", "seed", "\x00", letters(64), "\xff\x00\xfe"} {
		checkTold(t, "written down", []byte(seed), ops, want, impl.OK)
	}
}

func TestP18SeedsAndLengths(t *testing.T) {
	many := slices.Repeat([]impl.GroupOp{says(0, "x")}, 200)
	more := append(slices.Clone(many), enters(1))
	var all []impl.GroupObs
	for i := range many {
		all = append(all, impl.GroupObs{Id: i + 1})
	}
	for _, n := range []int{1, 2, 8, 63, 64} {
		checkTold(t, "no operations", someBytes(n), nil, nil, impl.OK)
		checkTold(t, "no operations", someBytes(n), []impl.GroupOp{}, nil, impl.OK)
		checkTold(t, "200 operations", someBytes(n), many, all, impl.OK)
		checkTold(t, "201 operations", someBytes(n), more, nil, impl.ErrMany)
	}
	for _, seed := range [][]byte{nil, {}, noughts(65), noughts(66), noughts(4097), noughts(impl.MaxBytes + 1)} {
		checkTold(t, "a wrong seed", seed, nil, nil, impl.ErrRange)
		checkTold(t, "a wrong seed", seed, many, nil, impl.ErrRange)
		checkTold(t, "a wrong seed and 201 operations", seed, more, nil, impl.ErrMany)
		checkTold(t, "a wrong seed and 4097 operations", seed, make([]impl.GroupOp, 4097), nil, impl.ErrMany)
	}
	checkTold(t, "4097 operations", []byte("s"), make([]impl.GroupOp, 4097), nil, impl.ErrMany)
}

// full is a group with all sixteen actors, in epoch 15.
func full() []impl.GroupOp {
	var ops []impl.GroupOp
	for actor := 1; actor < 16; actor++ {
		ops = append(ops, enters(actor))
	}
	return ops
}

func behind(ops []impl.GroupOp, more ...impl.GroupOp) []impl.GroupOp { return slices.Concat(ops, more) }

func allKinds() []int { return []int{1, 2, 3, 4, 5, 6, 7} }

func notKinds() []int { return []int{0, 8, -1, 9, 256, 257, math.MinInt, math.MaxInt} }

func notActors() []int { return []int{-1, 16, 17, -16, 256, math.MinInt, math.MaxInt} }

func TestP18KindsAndActorsThatAreNone(t *testing.T) {
	for _, ahead := range [][]impl.GroupOp{nil, {enters(5), says(5, "x"), robs(5)}, full(), {enters(5), leaves(0), says(5, "x")}} {
		told := checkGroup(t, "ahead", ahead...)
		epoch := 0
		if len(told) > 0 {
			epoch = told[len(told)-1].Epoch
		}
		bad := impl.GroupObs{Code: impl.ErrBad, Epoch: epoch}
		for _, kind := range notKinds() {
			for _, actor := range append(notActors(), 0, 5, 15) {
				checkEnd(t, "no Kind", bad, behind(ahead, impl.GroupOp{Kind: kind, Actor: actor, N: 1, Text: "x"})...)
			}
		}
		for _, kind := range allKinds() {
			for _, actor := range notActors() {
				for _, n := range []int{0, 1, 2, math.MaxInt} {
					checkEnd(t, "no actor", bad, behind(ahead, impl.GroupOp{Kind: kind, Actor: actor, N: n, Text: "x"})...)
					checkEnd(t, "no actor and a long text", bad, behind(ahead, impl.GroupOp{Kind: kind, Actor: actor, N: n, Text: letters(201)})...)
				}
			}
		}
	}
}

// What the chapter does not name for a Kind does not matter, and is not told.
func TestP18FieldsOfGroupsThatDoNotMatter(t *testing.T) {
	ahead := []impl.GroupOp{enters(1), enters(2), says(1, "x"), robs(1), says(2, "y")}
	for _, c := range []struct {
		op   impl.GroupOp
		want impl.GroupObs
	}{
		{enters(3), impl.GroupObs{Epoch: 3}}, {enters(2), impl.GroupObs{Code: impl.ErrExists, Epoch: 2}}, {leaves(2), impl.GroupObs{Epoch: 3}}, {leaves(4), impl.GroupObs{Code: impl.ErrMissing, Epoch: 2}},
		{heals(2), impl.GroupObs{Epoch: 3}}, {heals(4), impl.GroupObs{Code: impl.ErrMissing, Epoch: 2}}, {robs(2), impl.GroupObs{Epoch: 2}}, {robs(9), impl.GroupObs{Epoch: 2}},
	} {
		for _, n := range []int{0, 1, 2, 16, -1, math.MinInt, math.MaxInt} {
			for _, text := range []string{"", "x", letters(200), letters(201), letters(impl.MaxBytes + 1)} {
				op := c.op
				op.N, op.Text = n, text
				checkEnd(t, "N and Text", c.want, behind(ahead, op)...)
			}
		}
	}
	for _, n := range []int{0, 1, -1, math.MinInt, math.MaxInt} {
		checkEnd(t, "N of GSend", impl.GroupObs{Epoch: 2, Id: 3}, behind(ahead, impl.GroupOp{Kind: impl.GSend, Actor: 1, N: n, Text: "z"})...)
	}
	for _, text := range []string{"", "z", letters(201), letters(impl.MaxBytes + 1)} {
		checkEnd(t, "Text of GRead", impl.GroupObs{Epoch: 2, Text: "y"}, behind(ahead, impl.GroupOp{Kind: impl.GRead, Actor: 1, N: 2, Text: text})...)
		checkEnd(t, "Text of GRead", impl.GroupObs{Code: impl.ErrDenied, Epoch: 2}, behind(ahead, impl.GroupOp{Kind: impl.GRead, Actor: 5, N: 2, Text: text})...)
		for actor := range 16 {
			checkEnd(t, "Text and Actor of GSpy", impl.GroupObs{Epoch: 2, Text: "x"}, behind(ahead, impl.GroupOp{Kind: impl.GSpy, Actor: actor, N: 1, Text: text})...)
		}
	}
}

func TestP18Adding(t *testing.T) {
	checkEnd(t, "actor 0 at first", impl.GroupObs{Code: impl.ErrExists}, enters(0))
	for actor := 1; actor < 16; actor++ {
		checkTold(t, "one", []byte("s"), []impl.GroupOp{enters(actor), enters(actor), enters(0), says(actor, "x"), reads(0, 1)},
			[]impl.GroupObs{{Epoch: 1}, {Code: impl.ErrExists, Epoch: 1}, {Code: impl.ErrExists, Epoch: 1}, {Epoch: 1, Id: 1}, {Epoch: 1, Text: "x"}}, impl.OK)
		checkTold(t, "one that was removed", []byte("s"), []impl.GroupOp{enters(actor), leaves(actor), enters(actor), enters(actor), leaves(0), enters(0)},
			obsOf([2]int{0, 1}, [2]int{0, 2}, [2]int{0, 3}, [2]int{impl.ErrExists, 3}, [2]int{0, 4}, [2]int{0, 5}), impl.OK)
	}
	ops := full()
	for actor := range 16 {
		checkEnd(t, "all sixteen", impl.GroupObs{Code: impl.ErrExists, Epoch: 15}, behind(ops, enters(actor))...)
		checkEnd(t, "all sixteen", impl.GroupObs{Epoch: 15, Id: 1}, behind(ops, says(actor, "x"))...)
		for reader := range 16 {
			checkEnd(t, "all sixteen", impl.GroupObs{Epoch: 15, Text: "x"}, behind(ops, says(actor, "x"), reads(reader, 1))...)
		}
		checkEnd(t, "one of sixteen back", impl.GroupObs{Epoch: 17}, behind(ops, leaves(actor), enters(actor))...)
	}
}

func TestP18Removing(t *testing.T) {
	for actor := 1; actor < 16; actor++ {
		checkEnd(t, "no member", impl.GroupObs{Code: impl.ErrMissing}, leaves(actor))
		checkEnd(t, "twice", impl.GroupObs{Code: impl.ErrMissing, Epoch: 2}, enters(actor), leaves(actor), leaves(actor))
		checkEnd(t, "the only one", impl.GroupObs{Code: impl.ErrRange, Epoch: 2}, enters(actor), leaves(0), leaves(actor))
		checkEnd(t, "actor 0 that is gone", impl.GroupObs{Code: impl.ErrMissing, Epoch: 2}, enters(actor), leaves(0), leaves(0))
		checkEnd(t, "no member, of one", impl.GroupObs{Code: impl.ErrMissing, Epoch: 2}, enters(actor), leaves(actor), leaves(actor%15+1))
	}
	checkEnd(t, "the only one", impl.GroupObs{Code: impl.ErrRange}, leaves(0))
	checkEnd(t, "the only one is still there", impl.GroupObs{Id: 1}, leaves(0), says(0, "x"))
	checkEnd(t, "the only one is there once", impl.GroupObs{Code: impl.ErrExists}, leaves(0), enters(0))
	// From sixteen down to each one.
	for last := range 16 {
		ops := full()
		epoch := 15
		for actor := range 16 {
			if actor != last {
				epoch++
				ops = append(ops, leaves(actor))
				checkEnd(t, "down", impl.GroupObs{Epoch: epoch}, ops...)
			}
		}
		checkEnd(t, "the last one", impl.GroupObs{Code: impl.ErrRange, Epoch: 30}, behind(ops, leaves(last))...)
		checkEnd(t, "the last one", impl.GroupObs{Epoch: 31}, behind(ops, heals(last))...)
		checkEnd(t, "one that went", impl.GroupObs{Code: impl.ErrMissing, Epoch: 30}, behind(ops, leaves((last+1)%16))...)
	}
}

func TestP18Healing(t *testing.T) {
	checkTold(t, "the only one", []byte("s"), []impl.GroupOp{heals(0), heals(0), heals(1), heals(15), says(0, "x"), heals(0), reads(0, 1)},
		[]impl.GroupObs{{Epoch: 1}, {Epoch: 2}, {Code: impl.ErrMissing, Epoch: 2}, {Code: impl.ErrMissing, Epoch: 2}, {Epoch: 2, Id: 1}, {Epoch: 3}, {Epoch: 3, Text: "x"}}, impl.OK)
	for actor := 1; actor < 16; actor++ {
		checkEnd(t, "no member", impl.GroupObs{Code: impl.ErrMissing}, heals(actor))
		checkEnd(t, "a member", impl.GroupObs{Epoch: 2}, enters(actor), heals(actor))
		checkEnd(t, "one that was removed", impl.GroupObs{Code: impl.ErrMissing, Epoch: 2}, enters(actor), leaves(actor), heals(actor))
		checkEnd(t, "actor 0 that was removed", impl.GroupObs{Code: impl.ErrMissing, Epoch: 2}, enters(actor), leaves(0), heals(0))
		checkEnd(t, "nobody goes", impl.GroupObs{Epoch: 2, Id: 1}, enters(actor), heals(0), says(actor, "x"))
	}
	ops := slices.Repeat([]impl.GroupOp{heals(0)}, 200)
	told := checkGroup(t, "healed 200 times", ops...)
	if told[199] != (impl.GroupObs{Epoch: 200}) {
		t.Errorf("%v", told[199])
	}
}

func TestP18Sending(t *testing.T) {
	checkEnd(t, "no member", impl.GroupObs{Code: impl.ErrMissing}, says(1, "x"))
	checkEnd(t, "one that was removed", impl.GroupObs{Code: impl.ErrMissing, Epoch: 2}, enters(1), leaves(1), says(1, "x"))
	checkEnd(t, "actor 0 that was removed", impl.GroupObs{Code: impl.ErrMissing, Epoch: 2}, enters(1), leaves(0), says(0, "x"))
	for _, n := range []int{201, 202, 4097, impl.MaxBytes + 1} {
		checkEnd(t, "too long", impl.GroupObs{Code: impl.ErrRange}, says(0, letters(n)))
		checkEnd(t, "too long, and no member", impl.GroupObs{Code: impl.ErrMissing}, says(1, letters(n)))
		checkEnd(t, "too long, and one that was removed", impl.GroupObs{Code: impl.ErrMissing, Epoch: 2}, enters(1), leaves(1), says(1, letters(n)))
		checkEnd(t, "nothing was sent", impl.GroupObs{Code: impl.ErrRange}, says(0, letters(n)), reads(0, 1))
	}
	for _, text := range sealTexts() {
		checkEnd(t, "as it was", impl.GroupObs{Epoch: 1, Text: text}, enters(1), says(0, text), reads(1, 1))
		checkEnd(t, "as it was, and stolen", impl.GroupObs{Epoch: 1, Text: text}, enters(1), says(0, text), robs(1), spies(1))
	}
}

// Ids have no gaps, also where one that was refused stood between.
func TestP18IdsHaveNoGaps(t *testing.T) {
	ops := []impl.GroupOp{
		says(0, "a"), says(1, "x"), says(0, letters(201)), says(0, ""), enters(1), says(2, "x"), says(1, "c"), says(16, "x"), heals(0), says(1, letters(200)), leaves(0), says(0, "x"), says(1, "e"),
		reads(1, 3), reads(0, 3), says(1, "f"), reads(1, 6), reads(1, 5), reads(1, 4), reads(0, 2), reads(0, 1), reads(1, 7),
	}
	ids := map[int]int{0: 1, 3: 2, 6: 3, 9: 4, 12: 5, 15: 6}
	texts := map[int]string{13: "c", 14: "c", 16: "f", 17: "e", 18: letters(200), 20: "a"}
	for i, obs := range checkGroup(t, "gaps", ops...) {
		if obs.Id != ids[i] || obs.Text != texts[i] {
			t.Errorf("%d: %v", i, obs)
		}
	}
	// One text many times has an Id each.
	for i, obs := range checkGroup(t, "many times", slices.Repeat([]impl.GroupOp{says(0, "x")}, 200)...) {
		if obs != (impl.GroupObs{Id: i + 1}) {
			t.Errorf("%d: %v", i, obs)
		}
	}
}

// The epoch is told behind every operation, with a code too; only what changes the group goes to the next one.
func TestP18EpochsAreToldAlways(t *testing.T) {
	refused := []impl.GroupOp{enters(0), leaves(9), heals(9), says(9, "x"), says(0, letters(201)), reads(0, 0), reads(9, 1), spies(9), {Kind: 8}, {Kind: 0}, enters(16), enters(-1)}
	done := []impl.GroupOp{says(0, "x"), reads(0, 1), robs(9)}
	var ops []impl.GroupOp
	var want []int
	epoch := 0
	for _, step := range []impl.GroupOp{says(0, "x"), enters(1), heals(1), leaves(1), enters(1), heals(0), enters(2), leaves(2)} {
		ops = append(ops, step)
		if step.Kind <= impl.GHeal {
			epoch++
		}
		for range 1 + len(refused) + len(done) {
			want = append(want, epoch)
		}
		ops = behind(ops, append(slices.Clone(refused), done...)...)
	}
	for i, obs := range checkGroup(t, "epochs", ops...) {
		if obs.Epoch != want[i] {
			t.Errorf("%d: %v, want epoch %d", i, obs, want[i])
		}
	}
}
