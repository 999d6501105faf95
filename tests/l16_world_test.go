package tests

import (
	"math/rand"
	"slices"
	"testing"

	"loop.example/g00028/impl"
)

// someStep is an operation of a few actors, of messages that may be there.
func someStep(random *rand.Rand, actors, sent int) impl.GroupOp {
	actor := random.Intn(actors)
	switch random.Intn(17) {
	case 0, 1, 2:
		return enters(actor)
	case 3, 4:
		return leaves(actor)
	case 5:
		return heals(actor)
	case 6, 7, 8:
		return says(actor, string(someBytes(random.Intn(30))))
	case 15:
		return says(actor, letters(199+random.Intn(4)))
	case 9:
		return robs(actor)
	case 10, 11, 12:
		return reads(actor, random.Intn(sent+2))
	case 13:
		op := spies(random.Intn(sent + 2))
		op.Actor = actor
		return op
	case 14:
		return impl.GroupOp{Kind: random.Intn(10) - 1, Actor: random.Intn(20) - 2, N: random.Intn(sent+4) - 2, Text: letters(random.Intn(3) * 101)}
	}
	return spies(random.Intn(sent + 2))
}

// someRun has so many operations; how many messages there are is guessed.
func someRun(random *rand.Rand, actors, size int) []impl.GroupOp {
	var ops []impl.GroupOp
	for i := range size {
		ops = append(ops, someStep(random, actors, i/6))
	}
	return ops
}

func someSeed(random *rand.Rand) []byte {
	seed := make([]byte, 1+random.Intn(64))
	random.Read(seed)
	return seed
}

func TestP18WorldOfGroups(t *testing.T) {
	random := rand.New(rand.NewSource(160))
	codes := map[int]int{}
	for range 400 {
		seed, ops := someSeed(random), someRun(random, 2+random.Intn(5), random.Intn(120))
		want, code := groupOf(seed, ops)
		checkTold(t, "a world", seed, ops, want, code)
		for i, obs := range want {
			codes[100*ops[i].Kind+obs.Code]++
		}
	}
	for kind, of := range map[int][]int{
		impl.GAdd: {impl.OK, impl.ErrExists, impl.ErrBad}, impl.GRemove: {impl.OK, impl.ErrMissing, impl.ErrRange, impl.ErrBad}, impl.GHeal: {impl.OK, impl.ErrMissing, impl.ErrBad},
		impl.GSend: {impl.OK, impl.ErrMissing, impl.ErrRange, impl.ErrBad}, impl.GRead: {impl.OK, impl.ErrRange, impl.ErrDenied, impl.ErrBad}, impl.GSteal: {impl.OK, impl.ErrBad},
		impl.GSpy: {impl.OK, impl.ErrRange, impl.ErrDenied, impl.ErrBad}, 0: {impl.ErrBad}, 8: {impl.ErrBad}, -1: {impl.ErrBad},
	} {
		for _, code := range of {
			if codes[100*kind+code] < 20 {
				t.Errorf("Kind %d with code %d came %d times", kind, code, codes[100*kind+code])
			}
		}
	}
}

// Full runs of all sixteen actors.
func TestP18WorldOfGreatGroups(t *testing.T) {
	random := rand.New(rand.NewSource(161))
	for range 40 {
		seed, ops := someSeed(random), someRun(random, 16, 200)
		want, code := groupOf(seed, ops)
		checkTold(t, "a great world", seed, ops, want, code)
		checkTold(t, "one more", seed, append(ops, spies(1)), nil, impl.ErrMany)
	}
}

// All short runs of few steps.
func TestP18EveryShortRun(t *testing.T) {
	steps := []impl.GroupOp{enters(1), leaves(1), leaves(0), heals(0), robs(1), robs(0), enters(0)}
	runs := 0
	everyList(steps, 4, func(list []impl.GroupOp) {
		var ops []impl.GroupOp
		for _, step := range list {
			ops = append(ops, step, says(0, "of 0"), says(1, "of 1"))
		}
		for n := range 2 + 2*len(list) {
			ops = append(ops, spies(n), reads(0, n), reads(1, n), reads(2, n))
		}
		checkGroup(t, "a short run", ops...)
		runs++
	})
	if runs != 1+7+49+343+2401 {
		t.Errorf("%d runs", runs)
	}
}

// What P18 says, asked of random groups without another program: who held no key of an epoch reads nothing of it, a
// thief reads nothing new behind a healing.
func TestP18WorldOfThieves(t *testing.T) {
	random := rand.New(rand.NewSource(162))
	told := 0
	for range 60 {
		var ops []impl.GroupOp
		for _, op := range someRun(random, 5, 60) {
			if op.Kind != impl.GRead && op.Kind != impl.GSpy && op.Actor < 5 {
				ops = append(ops, op)
			}
		}
		before := seenBy(ops, spies)
		var healer int
		for actor := range 5 {
			if obs := lastTold(behind(ops, says(actor, "x"))); obs.Code == impl.OK {
				healer = actor
			}
		}
		ops = behind(ops, heals(healer))
		for _, actor := range []int{7, 8, 9, 10} {
			ops = behind(ops, enters(actor), says(actor, "new"), says(healer, "new"))
		}
		if after := seenBy(ops, spies); !slices.Equal(after, before) {
			t.Errorf("behind a healing the thief reads %v, ahead of it %v", after, before)
		}
		// Each of the new ones reads what came since, and nothing else.
		for i, actor := range []int{7, 8, 9, 10} {
			seen := seenBy(ops, func(n int) impl.GroupOp { return reads(actor, n) })
			if len(seen) != 8-2*i {
				t.Errorf("%d reads %v", actor, seen)
			}
		}
		if seen := seenBy(ops, func(n int) impl.GroupOp { return reads(11, n) }); len(seen) > 0 {
			t.Errorf("one that was never there reads %v", seen)
		}
		told += len(before)
	}
	if told < 100 {
		t.Errorf("only %d messages were spied", told)
	}
}

func lastTold(ops []impl.GroupOp) impl.GroupObs {
	told, _ := impl.GroupRun([]byte("s"), ops)
	return told[len(told)-1]
}

// seenBy tells which messages can be read behind some operations.
func seenBy(ops []impl.GroupOp, ask func(int) impl.GroupOp) []int {
	var seen []int
	for n := 1; ; n++ {
		switch lastTold(behind(ops, ask(n))).Code {
		case impl.OK:
			seen = append(seen, n)
		case impl.ErrRange:
			return seen
		}
	}
}

// A run tells of each operation the same, whatever comes behind it.
func TestP18LaterOperationsChangeNothing(t *testing.T) {
	random := rand.New(rand.NewSource(163))
	for range 30 {
		ops := someRun(random, 4, 60)
		whole, _ := impl.GroupRun([]byte("s"), ops)
		for end := range len(ops) {
			checkTold(t, "a beginning", []byte("s"), ops[:end], whole[:end], impl.OK)
		}
		// Nor does the seed matter for what is told.
		checkTold(t, "another seed", someSeed(random), ops, whole, impl.OK)
	}
}
