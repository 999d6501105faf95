package tests

import (
	"math"
	"slices"
	"testing"

	"loop.example/g00028/impl"
)

func TestP18ReadNumbers(t *testing.T) {
	numbers := []int{math.MinInt, -1 << 32, -2, -1, 0, 3, 4, 1 << 32, 1<<32 + 1, 1<<32 + 2, math.MaxInt - 1, math.MaxInt}
	ahead := []impl.GroupOp{enters(1), says(0, "a"), says(1, "b"), robs(1)}
	for _, n := range numbers {
		for _, actor := range []int{0, 1, 2, 15} {
			checkEnd(t, "no such message", impl.GroupObs{Code: impl.ErrRange, Epoch: 1}, behind(ahead, reads(actor, n))...)
			checkEnd(t, "no message at all", impl.GroupObs{Code: impl.ErrRange}, reads(actor, n))
		}
		checkEnd(t, "no such message", impl.GroupObs{Code: impl.ErrRange, Epoch: 1}, behind(ahead, spies(n))...)
		checkEnd(t, "no message at all", impl.GroupObs{Code: impl.ErrRange}, spies(n))
		checkEnd(t, "no message at all", impl.GroupObs{Code: impl.ErrRange}, robs(0), spies(n))
	}
	for _, n := range []int{0, 2, 3} {
		checkEnd(t, "not the only one", impl.GroupObs{Code: impl.ErrRange}, reads(0, n), says(0, "a"), reads(0, n))
	}
	told := checkGroup(t, "not sent yet", reads(0, 1), spies(1), says(0, "a"), reads(0, 1), reads(0, 2))
	for i, code := range []int{impl.ErrRange, impl.ErrRange, impl.OK, impl.OK, impl.ErrRange} {
		wantCode(t, "not sent yet", told[i].Code, code)
	}
	checkEnd(t, "the first one", impl.GroupObs{Text: "a"}, says(0, "a"), reads(0, 1))
	checkEnd(t, "ahead of the last one", impl.GroupObs{Code: impl.ErrRange}, says(0, "a"), reads(0, 2))
}

func TestP18ReadersThatWereNeverMembers(t *testing.T) {
	ops := []impl.GroupOp{says(0, "a"), enters(1), says(1, "b"), heals(1), says(0, "c"), leaves(1), says(0, "d"), enters(1), says(1, "e")}
	for actor := 2; actor < 16; actor++ {
		checkReads(t, "never a member", ops, actor)
		checkEnd(t, "never a member", impl.GroupObs{Code: impl.ErrDenied, Epoch: 4}, behind(ops, reads(actor, 5))...)
		checkEnd(t, "never a member", impl.GroupObs{Code: impl.ErrRange, Epoch: 4}, behind(ops, reads(actor, 6))...)
	}
	checkReads(t, "always a member", ops, 0, 1, 2, 3, 4, 5)
	checkReads(t, "at times a member", ops, 1, 2, 3, 5)
}

// Who comes later reads nothing that was sent ahead of that, and all that is sent behind it.
func TestP18ReadersThatCameLater(t *testing.T) {
	ops := []impl.GroupOp{says(0, "a"), enters(1), says(0, "b"), enters(2), says(1, "c"), heals(2), says(2, "d"), enters(3), says(3, "e")}
	checkReads(t, "actor 0", ops, 0, 1, 2, 3, 4, 5)
	checkReads(t, "actor 1", ops, 1, 2, 3, 4, 5)
	checkReads(t, "actor 2", ops, 2, 3, 4, 5)
	checkReads(t, "actor 3", ops, 3, 5)
	for actor := 1; actor < 16; actor++ {
		var ops []impl.GroupOp
		for other := 1; other < 16; other++ {
			ops = append(ops, says(0, "x"), enters(other))
		}
		ops = append(ops, says(0, "x"))
		var want []int
		for n := actor + 1; n <= 16; n++ {
			want = append(want, n)
		}
		checkReads(t, "one after the other", ops, actor, want...)
	}
}

func TestP18ReadersThatWereRemoved(t *testing.T) {
	ops := []impl.GroupOp{enters(1), enters(2), says(0, "a"), says(1, "b"), leaves(1), says(0, "c"), enters(3), says(3, "d"), heals(0), says(2, "e")}
	checkReads(t, "removed", ops, 1, 1, 2)
	checkReads(t, "stayed", ops, 2, 1, 2, 3, 4, 5)
	checkReads(t, "came behind it", ops, 3, 4, 5)
	checkReads(t, "actor 0", ops, 0, 1, 2, 3, 4, 5)
	// Also where an epoch of theirs was never written in, and where actor 0 is the one.
	ops = []impl.GroupOp{enters(1), leaves(0), says(1, "a"), enters(2), says(2, "b"), leaves(1), says(2, "c")}
	checkReads(t, "actor 0 that was removed", ops, 0)
	checkReads(t, "actor 1 that was removed", ops, 1, 1, 2)
	checkReads(t, "the last one", ops, 2, 2, 3)
	// What was sent ahead of the removing can still be read, whenever that is asked.
	checkEnd(t, "asked later", impl.GroupObs{Epoch: 3, Text: "a"}, says(0, "a"), enters(1), leaves(0), heals(1), reads(0, 1))
}

func TestP18ReadersThatCameBack(t *testing.T) {
	ops := []impl.GroupOp{
		says(0, "1"), enters(1), says(0, "2"), leaves(1), says(0, "3"), enters(2), says(0, "4"), enters(1), says(0, "5"), leaves(1), says(0, "6"), enters(1), says(1, "7"), leaves(0), says(1, "8"), enters(0), says(0, "9"),
	}
	checkReads(t, "came back", ops, 1, 2, 5, 7, 8, 9)
	checkReads(t, "stayed", ops, 2, 4, 5, 6, 7, 8, 9)
	checkReads(t, "actor 0 came back", ops, 0, 1, 2, 3, 4, 5, 6, 7, 9)
	checkReads(t, "never", ops, 3)
	// Many times away.
	ops = nil
	var want []int
	for i := range 20 {
		ops = append(ops, enters(7), says(7, "in"), leaves(7), says(0, "out"))
		want = append(want, 2*i+1)
	}
	checkReads(t, "many times", ops, 7, want...)
}

// One reads what one sent, whatever happened since.
func TestP18ReadersOfTheirOwn(t *testing.T) {
	ops := []impl.GroupOp{enters(1), says(1, "mine")}
	for _, more := range [][]impl.GroupOp{nil, {leaves(1)}, {heals(0)}, {heals(1)}, {enters(2)}, {leaves(0)}, {leaves(1), enters(1)}, {leaves(1), heals(0), enters(3), leaves(3)}} {
		told := checkGroup(t, "one's own", behind(behind(ops, more...), reads(1, 1))...)
		if last := told[len(told)-1]; last.Text != "mine" || last.Code != impl.OK {
			t.Errorf("behind %v: %v", more, last)
		}
	}
}

// Neither reading nor stealing changes who can read.
func TestP18AskingChangesNothing(t *testing.T) {
	ops := []impl.GroupOp{says(0, "a"), enters(1), says(0, "b"), leaves(1), says(0, "c")}
	asks := []impl.GroupOp{reads(1, 1), reads(1, 2), reads(1, 3), reads(0, 1), robs(0), robs(1), spies(1), spies(3), reads(2, 3), says(2, "x"), enters(0), leaves(2), heals(2)}
	plain := checkGroup(t, "plain", ops...)
	var mixedIn []impl.GroupOp
	for _, op := range ops {
		mixedIn = append(append(mixedIn, op), asks...)
	}
	told := checkGroup(t, "with questions", mixedIn...)
	for i := range ops {
		if at := i * (1 + len(asks)); told[at].Epoch != plain[i].Epoch || told[at].Id != plain[i].Id {
			t.Errorf("%d: %v, was %v", i, told[at], plain[i])
		}
	}
	checkReads(t, "plain", ops, 1, 2)
	checkReads(t, "with questions", slices.Clone(mixedIn), 1, 2)
	checkReads(t, "with questions", slices.Clone(mixedIn), 0, 1, 2, 3)
}
