package tests

import (
	"fmt"
	"slices"
	"testing"

	"loop.example/g00028/impl"
)

// checkWrote asks for what writing an operation behind a run answers, and that only code 0 changes something.
func checkWrote(t *testing.T, what string, ops []impl.Op, op impl.Op, want int) {
	t.Helper()
	size := sizeOfRecords(ops...)
	told := impl.StoreObs{Code: want, Ops: len(ops), Bytes: size}
	if want == impl.OK {
		told.Ops, told.Bytes = told.Ops+1, told.Bytes+sizeOfRecords(op)
	}
	checkLast(t, what, told, ops, op)
	told.Synced = size
	checkLast(t, what+", behind a sync", told, ops, synced(), op)
	checkLast(t, what+", behind a start", told, ops, crashed(size), started(), op)
	_, _, code := impl.LogAdd(inOrder(ops), []impl.Op{op})
	if code != want && (code != impl.OK || want != impl.ErrCause) {
		t.Errorf("%s: LogAdd has code %d, want %d", what, code, want)
	}
	// What was refused leaves nothing behind: a crash brings all that was written, and no more.
	told.Code, told.Synced = impl.OK, told.Bytes
	checkLast(t, what+", and a crash", told, ops, op, crashed(1<<30), started())
}

// checkNothingDone asks that an operation that is there already changes nothing and has no code.
func checkNothingDone(t *testing.T, what string, ops []impl.Op, op impl.Op) {
	t.Helper()
	size := sizeOfRecords(ops...)
	checkLast(t, what, impl.StoreObs{Ops: len(ops), Bytes: size}, ops, op)
	checkLast(t, what+", synced", impl.StoreObs{Ops: len(ops), Bytes: size, Synced: size}, ops, synced(), op)
	checkLast(t, what+", and back", impl.StoreObs{Ops: len(ops), Bytes: size, Synced: size}, ops, op, op, crashed(1<<30), started())
	checkLast(t, what+" behind a start", impl.StoreObs{Ops: len(ops), Bytes: size, Synced: size}, ops, crashed(1<<30), started(), op, op)
}

func TestP15WritesInTurn(t *testing.T) {
	s := story()
	for i, op := range s {
		checkWrote(t, fmt.Sprint("operation ", i), s[:i], op, impl.OK)
	}
	for name, op := range eachFirst() {
		checkWrote(t, name, nil, op, impl.OK)
		checkWrote(t, name, diary(9, 1, counts(90, 1)), op, impl.OK)
	}
	for name, op := range eachKind() {
		checkWrote(t, name+" without its causes", nil, op, impl.ErrCause)
	}
}

func TestP15WritesThatAreNotValid(t *testing.T) {
	for what, op := range wrongDeeds() {
		checkLast(t, what, impl.StoreObs{Code: impl.ErrBad}, op)
		checkLast(t, what+", behind others", impl.StoreObs{Code: impl.ErrBad, Ops: 2, Bytes: 54}, story()[:2], op)
		checkLast(t, what+", and on", impl.StoreObs{Ops: 2, Bytes: 54, Text: "map 1 a=one\nlist 3 x\n"}, story()[:1], op, story()[1], op, asked())
	}
	for i, op := range story() {
		wrong := opWith(op, func(op *impl.Op) { op.Obj = 0 })
		checkWrote(t, fmt.Sprint("operation ", i, " of no object"), story()[:i], wrong, impl.ErrBad)
		checkWrote(t, fmt.Sprint("operation ", i, " of no object, which is there"), story(), wrong, impl.ErrBad)
	}
}

// An operation that the log has is not written again; one that is unlike it is a fork.
func TestP15WritesThatAreThere(t *testing.T) {
	s := story()
	for i, op := range s {
		checkNothingDone(t, fmt.Sprint("operation ", i), s, op)
		checkNothingDone(t, fmt.Sprint("operation ", i, " in other memory"), s, opWith(op, func(*impl.Op) {}))
		checkNothingDone(t, fmt.Sprint("operation ", i, ", the last"), s[:i+1], op)
		for name, twin := range twins(op) {
			checkWrote(t, fmt.Sprint("operation ", i, " with another ", name), s, twin, impl.ErrFork)
			checkWrote(t, fmt.Sprint("operation ", i, " with another ", name, ", the last"), s[:i+1], twin, impl.ErrFork)
		}
	}
	// One and the same operation many times over.
	run := slices.Repeat([]impl.StoreOp{written(s[0])}, impl.MaxStore)
	told, code := impl.StoreRun(run)
	wantCode(t, "one many times", code, impl.OK)
	for _, obs := range told {
		if obs != (impl.StoreObs{Ops: 1, Bytes: 24}) {
			t.Fatalf("one many times: %+v", obs)
		}
	}
	// A fork of what was lost is none.
	twin := opWith(s[1], func(op *impl.Op) { op.N = 'z' })
	checkLast(t, "lost, and another one", impl.StoreObs{Ops: 2, Bytes: 54, Synced: 24, Text: "map 1 a=one\nlist 3 z\n"}, s[0], synced(), s[1], crashed(29), started(), twin, asked())
	checkLast(t, "another one, and what was lost", impl.StoreObs{Code: impl.ErrFork, Ops: 2, Bytes: 54, Synced: 24}, s[0], synced(), s[1], crashed(29), started(), twin, s[1])
	checkLast(t, "not lost, and another one", impl.StoreObs{Code: impl.ErrFork, Ops: 2, Bytes: 54, Synced: 54}, s[0], synced(), s[1], crashed(30), started(), twin)
}

func TestP15WritesOfAnotherKind(t *testing.T) {
	s := story()
	// The objects 1, 3 and 5 are a map, a list and a counter.
	for obj, fits := range map[int][]int{1: {impl.OSet}, 3: {impl.OIns, impl.ODel}, 5: {impl.OAdd}, 7: {impl.OSet, impl.OIns, impl.ODel, impl.OAdd}} {
		for _, op := range kindsOf(9, obj) {
			want := impl.ErrKind
			if slices.Contains(fits, op.Kind) {
				want = impl.OK
			}
			checkWrote(t, fmt.Sprint("Kind ", op.Kind, " upon object ", obj), s, op, want)
		}
	}
	// What an object was is lost with what was lost.
	number := opAdd(by(9, 1, 1), 3, 4)
	checkLast(t, "a list", impl.StoreObs{Code: impl.ErrKind, Ops: 2, Bytes: 54}, s[:2], number)
	checkLast(t, "a list that was lost", impl.StoreObs{Ops: 2, Bytes: 24 + sizeOfRecords(number), Synced: 24, Text: "map 1 a=one\ncount 3 4\n"}, s[0], synced(), s[1], crashed(20), started(), number, asked())
	checkLast(t, "what was a list", impl.StoreObs{Code: impl.ErrKind, Ops: 2, Bytes: 24 + sizeOfRecords(number), Synced: 24}, s[0], synced(), s[1], crashed(20), started(), number, s[1])
}

// An operation that would wait is not kept: it must come again behind its cause.
func TestP15WritesThatWouldWait(t *testing.T) {
	s := story()
	for i, op := range s {
		checkWrote(t, fmt.Sprint("operation ", i, " that has its causes"), s[:i], op, impl.OK)
		for j := range i {
			if without := s[:j]; !validLog(inOrder(slices.Concat(without, []impl.Op{op}))) {
				checkWrote(t, fmt.Sprint("operation ", i, " behind ", j), without, op, impl.ErrCause)
			}
		}
	}
	checkWrote(t, "its actor's own is missing", s[:1], opAdd(by(9, 2, 9), 90, 1), impl.ErrCause)
	checkWrote(t, "its actor's own is missing, the second", diary(9, 1, counts(90, 1)), opAdd(by(9, 3, 9), 90, 1), impl.ErrCause)
	checkWrote(t, "another actor's is missing", s[:1], opAdd(by(9, 1, 9, 2), 90, 1), impl.ErrCause)
	checkWrote(t, "another actor's first is missing", s[:1], opAdd(by(9, 1, 9, 0, 1), 90, 1), impl.ErrCause)
	checkWrote(t, "as far as can be", s, opAdd(by(0, impl.MaxTime, impl.MaxTime, 0, impl.MaxTime), 90, 1), impl.ErrCause)
	// It does not come in by itself when its cause does.
	checkLast(t, "its cause comes", impl.StoreObs{Ops: 1, Bytes: 24}, s[1], s[0])
	checkLast(t, "it comes again", impl.StoreObs{Ops: 2, Bytes: 54, Text: "map 1 a=one\nlist 3 x\n"}, s[1], s[0], s[1], asked())
	checkLast(t, "all turned over", impl.StoreObs{Ops: 1, Bytes: 24}, s[3], s[2], s[1], s[0])
	checkLast(t, "all turned over again and again", impl.StoreObs{Ops: 4, Bytes: 113}, s[3], s[2], s[1], s[0], s[3], s[2], s[1], s[3], s[2], s[3])
	checkLast(t, "a sync and a crash bring nothing", impl.StoreObs{Ops: 1, Bytes: 24, Synced: 24}, s[1], s[0], synced(), crashed(99), started())
	// What waited does not stand against another one of its Actor and Seq.
	twin := opWith(s[1], func(op *impl.Op) { op.N = 'z' })
	checkLast(t, "another one than waited", impl.StoreObs{Ops: 2, Bytes: 54}, s[1], s[0], twin)
	checkLast(t, "what waited, behind another one", impl.StoreObs{Code: impl.ErrFork, Ops: 2, Bytes: 54}, s[1], s[0], twin, s[1])
	// What waited tells nothing of its object.
	checkLast(t, "its object is still nothing", impl.StoreObs{Ops: 1, Bytes: sizeOfRecords(opAdd(by(9, 1, 1), 3, 1))}, s[1], opAdd(by(9, 1, 1), 3, 1))
	// A cause that was lost must come again too.
	checkLast(t, "a cause that was lost", impl.StoreObs{Code: impl.ErrCause, Ops: 1, Bytes: 24, Synced: 24}, s[0], synced(), s[1], crashed(29), started(), s[2])
	checkLast(t, "a cause that came again", impl.StoreObs{Ops: 3, Bytes: 84, Synced: 24}, s[0], synced(), s[1], crashed(29), started(), s[2], s[1], s[2])
}

// A stamp that is not above what the operation counts never comes in.
func TestP15WritesWithStampsThatDoNotFit(t *testing.T) {
	first := opAdd(by(3, 1, 5), 1, 1)
	for what, c := range map[string]struct {
		op   impl.Op
		want int
	}{
		"its own, the same Time":               {opAdd(by(3, 2, 5), 1, 1), impl.ErrCause},
		"its own, a lesser Time":               {opAdd(by(3, 2, 4), 1, 1), impl.ErrCause},
		"its own, a greater Time":              {opAdd(by(3, 2, 6), 1, 1), impl.OK},
		"another's, a lesser Time":             {opAdd(by(9, 1, 4, 0, 0, 0, 1), 1, 1), impl.ErrCause},
		"another's, the same Time, below":      {opAdd(by(2, 1, 5, 0, 0, 0, 1), 1, 1), impl.ErrCause},
		"another's, the same Time, above":      {opAdd(by(4, 1, 5, 0, 0, 0, 1), 1, 1), impl.OK},
		"another's, not counted, lesser":       {opAdd(by(9, 1, 1), 1, 1), impl.OK},
		"another's, lesser, of a wrong kind":   {opSet(by(9, 1, 4, 0, 0, 0, 1), 1, "k", ""), impl.ErrCause},
		"its own, the same, of a wrong kind":   {opSet(by(3, 2, 5), 1, "k", ""), impl.ErrCause},
		"another's, greater, of a wrong kind":  {opSet(by(9, 1, 6, 0, 0, 0, 1), 1, "k", ""), impl.ErrKind},
		"one more than there are, greater":     {opAdd(by(9, 1, 9, 0, 0, 0, 2), 1, 1), impl.ErrCause},
		"one more than there are, wrong kind":  {opSet(by(9, 1, 9, 0, 0, 0, 2), 1, "k", ""), impl.ErrCause},
		"its own gap, of a wrong kind":         {opSet(by(3, 3, 9), 1, "k", ""), impl.ErrCause},
		"its first one, with a wrong kind too": {opSet(by(3, 1, 5), 1, "k", ""), impl.ErrFork},
	} {
		checkWrote(t, what, []impl.Op{first}, c.op, c.want)
	}
}

// Which of the codes is answered where several would do: ErrDown, ErrBad, ErrFork, ErrCause, ErrKind; ErrMany goes ahead
// of the whole run.
func TestP15OrderOfCodes(t *testing.T) {
	s := story()
	fork := opSet(by(0, 2, 2), 3, "k", "fork and wrong kind")
	forkWaits := opWith(s[1], func(op *impl.Op) { op.Deps.Counts[9] = 7 })
	forkStamp := opWith(s[1], func(op *impl.Op) { op.Time = 1 })
	bad := opWith(fork, func(op *impl.Op) { op.Obj = 101 })
	badWaits := opWith(opAdd(by(9, 4, 9), 1, 1), func(op *impl.Op) { op.Obj = 0 })
	waits := opAdd(by(9, 4, 9, 9), 1, 1)
	kind := opAdd(by(9, 1, 9), 1, 1)
	for _, c := range []struct {
		op   impl.Op
		want int
	}{
		{bad, impl.ErrBad}, {badWaits, impl.ErrBad}, {fork, impl.ErrFork}, {forkWaits, impl.ErrFork}, {forkStamp, impl.ErrFork}, {waits, impl.ErrCause}, {kind, impl.ErrKind},
	} {
		checkWrote(t, fmt.Sprint("code ", c.want), s[:4], c.op, c.want)
		checkLast(t, fmt.Sprint("code ", c.want, " while it is off"), impl.StoreObs{Code: impl.ErrDown}, s[:4], crashed(0), c.op)
		checkObs(t, fmt.Sprint("code ", c.want, " in a run that is too long"), slices.Repeat(runOf(s[0], c.op), impl.MaxStore/2+1), nil, impl.ErrMany)
	}
	// A Kind that is none goes behind its being off, and nothing is asked of its Op.
	for _, kind := range otherKinds() {
		checkLast(t, "no Kind", impl.StoreObs{Code: impl.ErrBad, Ops: 1, Bytes: 24}, s[0], impl.StoreOp{Kind: kind, Op: fork})
		checkLast(t, "no Kind while it is off", impl.StoreObs{Code: impl.ErrDown}, s[0], crashed(0), impl.StoreOp{Kind: kind, Op: bad})
	}
	loose := opDel(by(9, 1, 50), 3, stamp(40, 8))
	checkLast(t, "a wrong list", impl.StoreObs{Code: impl.ErrCause, Ops: 1, Bytes: sizeOfRecords(loose)}, loose, asked())
	checkLast(t, "a wrong list while it is off", impl.StoreObs{Code: impl.ErrDown}, loose, synced(), crashed(0), asked())
}
