package tests

import (
	"fmt"
	"slices"
	"testing"

	"loop.example/g00028/impl"
)

// unlikes are pairs of what an operation says, unlike in one field alone; obj 70 is nobody else's.
func unlikes() map[string][2]impl.Op {
	set, put, gone := writes(70, "k", "v"), types(70, 'x', stamp(1, 1)), takes(70, stamp(1, 1))
	return map[string][2]impl.Op{
		"Kind, a map and a list":        {writes(70, "", ""), types(70, 0, start())},
		"Kind, a map and a counter":     {writes(70, "", ""), counts(70, 0)},
		"Kind, a list and a counter":    {types(70, 0, start()), counts(70, 0)},
		"Kind, put and taken away":      {types(70, 0, stamp(1, 1)), gone},
		"Obj of a map":                  {set, writes(71, "k", "v")},
		"Obj of a list":                 {put, types(71, 'x', stamp(1, 1))},
		"Obj of what is taken away":     {gone, takes(71, stamp(1, 1))},
		"Obj of a counter":              {counts(1, 3), counts(100, 3)},
		"N of a list":                   {put, types(70, 'y', stamp(1, 1))},
		"N of a counter":                {counts(70, 3), counts(70, 4)},
		"N below 0":                     {counts(70, 3), counts(70, -3)},
		"N of the most":                 {counts(70, impl.MaxTime), counts(70, -impl.MaxTime)},
		"N of 0":                        {counts(70, 0), counts(70, 1)},
		"At's Time":                     {put, types(70, 'x', stamp(2, 1))},
		"At's Actor":                    {put, types(70, 'x', stamp(1, 2))},
		"At, and none":                  {put, types(70, 'x', start())},
		"At's Time, of taking away":     {gone, takes(70, stamp(2, 1))},
		"At's Actor, of taking away":    {gone, takes(70, stamp(1, 2))},
		"At's Actor, of actor 0 and 15": {takes(70, stamp(1, 0)), takes(70, stamp(1, 15))},
		"Key":                           {set, writes(70, "l", "v")},
		"Key, a beginning":              {set, writes(70, "kk", "v")},
		"Key, empty":                    {set, writes(70, "", "v")},
		"Key, a byte 0":                 {writes(70, "", "v"), writes(70, "\x00", "v")},
		"Key, the last of 200 bytes":    {writes(70, letters(200), "v"), writes(70, letters(199)+"y", "v")},
		"Text":                          {set, writes(70, "k", "w")},
		"Text, a beginning":             {set, writes(70, "k", "vv")},
		"Text, empty":                   {set, writes(70, "k", "")},
		"Text, a byte 0":                {set, writes(70, "k", "v\x00")},
		"Text, no UTF-8":                {writes(70, "k", "\xff"), writes(70, "k", "\xfe")},
		"Text, the last of 200 bytes":   {writes(70, "k", letters(200)), writes(70, "k", letters(199)+"y")},
	}
}

// crowdWith is a log in which an actor did five things, a Time of ten apart, what stands in place at among them; each
// other one did one thing, at Time 1.
func crowdWith(actor, at int, op impl.Op) []impl.Op {
	var log []impl.Op
	for other := range 16 {
		if other != actor {
			log = append(log, opAdd(by(other, 1, 1), 9, 1))
		}
	}
	for seq := 1; seq <= 5; seq++ {
		own := opAdd(by(actor, seq, 90+10*seq), 9, 1)
		if seq == at {
			op.Actor, op.Seq = actor, seq
			own = op
		}
		log = append(log, own)
	}
	return inOrder(log)
}

// cutAt is a log without what an actor did behind a Seq.
func cutAt(log []impl.Op, actor, seq int) []impl.Op {
	return slices.DeleteFunc(copyLog(log), func(op impl.Op) bool { return op.Actor == actor && op.Seq > seq })
}

// checkForked asks of two logs that are unlike at one Actor and Seq, with what stands behind it on both sides, on one
// side and on none; without it they are not unlike.
func checkForked(t *testing.T, what string, actor, seq int, a, b []impl.Op) {
	t.Helper()
	if !validLog(a) || !validLog(b) || sameLog(a, b) || !sameLog(cutAt(a, actor, seq-1), cutAt(b, actor, seq-1)) {
		t.Fatalf("%s: the test is at odds with itself: %v and %v", what, a, b)
	}
	checkNotParted(t, what+", alike behind it", a, b, impl.ErrFork)
	for end := seq; end <= 5; end++ {
		checkNotParted(t, fmt.Sprint(what, ", the one up to ", end), cutAt(a, actor, end), b, impl.ErrFork)
		checkNotParted(t, fmt.Sprint(what, ", the other up to ", end), a, cutAt(b, actor, end), impl.ErrFork)
		checkNotParted(t, fmt.Sprint(what, ", both up to ", end), cutAt(a, actor, end), cutAt(b, actor, end), impl.ErrFork)
	}
	for _, log := range [][]impl.Op{a, b} {
		short := cutAt(log, actor, seq-1)
		checkParted(t, what+", ahead of it", short, log, parted{base: knownIn(short), right: aheadOf(log, short), merged: log})
	}
	// It is not asked of what is picked.
	own := a[slices.IndexFunc(a, func(op impl.Op) bool { return op.Actor == actor && op.Seq == seq })]
	for _, p := range []picking{{actor, seq, actor}, {actor, 5, 0}, {actor, 1, 15}, {actor, seq, 15 - actor}} {
		for _, c := range [][2][]impl.Op{{a, b}, {b, a}} {
			if code := checkPicking(t, what, c[0], c[1], p); code == impl.ErrFork {
				t.Errorf("%s: BranchPick %v: %v answers ErrFork", what, p, own)
			}
		}
	}
}

// Two operations of one Actor and Seq that are unlike in one field alone: at the first Seq, in the middle, at the last.
func TestP13UnlikeInOneField(t *testing.T) {
	for _, actor := range []int{0, 5, 15} {
		for _, seq := range []int{1, 3, 5} {
			base := by(actor, seq, 90+10*seq)
			at := fmt.Sprintf(" of operation %d of actor %d", seq, actor)
			pairs := unlikes()
			plain := counts(70, 3)
			plain.Time, plain.Deps = base.Time, base.Deps
			for what, pair := range pairs {
				for i := range pair {
					pair[i].Time, pair[i].Deps = base.Time, base.Deps
				}
				pairs[what] = pair
			}
			pairs["Time"] = [2]impl.Op{plain, opWith(plain, func(op *impl.Op) { op.Time++ })}
			pairs["Time, much less"] = [2]impl.Op{plain, opWith(plain, func(op *impl.Op) { op.Time -= 9 })}
			for other := range 16 {
				if other != actor {
					pairs[fmt.Sprint("Deps' count of ", other)] = [2]impl.Op{plain, opWith(plain, func(op *impl.Op) { op.Deps.Counts[other] = 1 })}
				}
			}
			for undo := 1; undo < seq; undo++ {
				pairs[fmt.Sprint("Undo of ", undo)] = [2]impl.Op{plain, undoes(undo, plain)}
				pairs[fmt.Sprint("Undo of 1 and of ", undo)] = [2]impl.Op{undoes(1, plain), undoes(undo, plain)}
			}
			delete(pairs, "Undo of 1 and of 1")
			for what, pair := range pairs {
				checkForked(t, what+at, actor, seq, crowdWith(actor, seq, pair[0]), crowdWith(actor, seq, pair[1]))
			}
		}
	}
}

// One that is unlike among all the others that are alike, wherever it stands.
func TestP13UnlikeAnywhere(t *testing.T) {
	s := inOrder(story())
	for i, op := range s {
		for name, twin := range twins(op) {
			other := logWith(s, i, func(op *impl.Op) { *op = twin })
			if !validLog(other) {
				continue
			}
			checkNotParted(t, fmt.Sprint(name, " of ", i), s, other, impl.ErrFork)
			checkNotParted(t, fmt.Sprint(name, " of ", i, ", with more"), logOf(s, diary(7, 9, counts(5, 1))), logOf(other, diary(8, 9, counts(5, 2))), impl.ErrFork)
		}
	}
	full := fullLog(impl.MaxLog)
	for _, i := range []int{0, 1, 68, 69, 512, impl.MaxLog - 2, impl.MaxLog - 1} {
		other := logWith(full, i, func(op *impl.Op) {
			switch op.Kind {
			case impl.OSet:
				op.Text = "other"
			case impl.OIns:
				op.N = 'Z'
			case impl.ODel:
				op.At = stamp(1, 1)
			case impl.OAdd:
				op.N = 5
			}
		})
		if sameLog(full, other) {
			t.Fatal("the test is at odds with itself")
		}
		checkNotParted(t, fmt.Sprint("a full log, unlike at ", i), full, other, impl.ErrFork)
	}
	// All of them are unlike.
	checkNotParted(t, "all unlike", diary(3, 1, counts(5, 1), counts(5, 2)), diary(3, 1, counts(5, 3), counts(5, 4)), impl.ErrFork)
	checkNotParted(t, "all unlike by their Times", diary(3, 1, counts(5, 1), counts(5, 2)), diary(3, 2, counts(5, 1), counts(5, 2)), impl.ErrFork)
}

// Two devices under one number: what both do at the same time is unlike, but where it is the very same.
func TestP13TwoDevicesUnderOneNumber(t *testing.T) {
	base := diary(3, 1, typed(3, 3, 1, "ab")...)
	here, there := withNext(base, 3, types(3, 'h', stamp(2, 3))), withNext(base, 3, types(3, 't', stamp(2, 3)))
	checkNotParted(t, "both typed", here, there, impl.ErrFork)
	checkNotParted(t, "both typed, and others more", withNext(here, 9, counts(5, 1)), withNext(there, 1, counts(5, 1)), impl.ErrFork)
	checkNotParted(t, "both typed, one more than the other", withNext(here, 3, types(3, 'e', stamp(3, 3))), there, impl.ErrFork)
	checkNotParted(t, "both typed, then the same", withNext(here, 3, counts(5, 1)), withNext(there, 3, counts(5, 1)), impl.ErrFork)
	checkNotParted(t, "one heard of another one first", here, withNext(withNext(base, 9, counts(5, 1)), 3, types(3, 'h', stamp(2, 3))), impl.ErrFork)
	// One of them did nothing yet: it only has less.
	checkParted(t, "one of them alone", here, base, parted{base: vectorOf(3, 2), left: here[2:], merged: here, text: "list 3 abh\n"})
	// The very same thing, told to both: it is there once.
	again := withNext(base, 3, types(3, 'h', stamp(2, 3)))
	checkParted(t, "the same thing", here, again, parted{base: vectorOf(3, 3), merged: here, text: "list 3 abh\n"})
	checkParted(t, "the same thing, one more", here, withNext(again, 3, types(3, 'i', stamp(3, 3))), parted{
		base: vectorOf(3, 3), right: diary(3, 1, typed(3, 3, 1, "abhi")...)[3:], merged: diary(3, 1, typed(3, 3, 1, "abhi")...), text: "list 3 abhi\n",
	})
	// Under another number nothing is unlike, also with the same Seq, Time and all it says.
	other := logOf(base, diary(4, 3, types(3, 'h', stamp(2, 3))))
	other[2].Deps.Counts[3] = 2
	checkParted(t, "under another number", here, other, parted{base: vectorOf(3, 2), left: here[2:], right: other[2:], merged: logOf(here, other[2:]), text: "list 3 abhh\n"})
	// What one of them did is picked onto the other's log, under its next number.
	checkPicked(t, "what the other did", there, here, picking{3, 3, 3}, nextDeed(here, 3, types(3, 't', stamp(2, 3))))
	checkPicked(t, "what the other did, by another actor", there, here, picking{3, 3, 4}, nextDeed(here, 4, types(3, 't', stamp(2, 3))))
}
