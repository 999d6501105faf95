package tests

import (
	"fmt"
	"math"
	"slices"
	"testing"

	"loop.example/g00028/impl"
)

func noActors() []int {
	return []int{-1, 16, 17, -16, 1 << 32, 1<<32 + 1, math.MinInt, math.MaxInt}
}

// checkNoUndoing asks for one code of both calls.
func checkNoUndoing(t *testing.T, what string, log []impl.Op, actor, want int) {
	t.Helper()
	checkNotUndone(t, what, log, actor, want)
	checkNotDone(t, what, log, actor, want)
}

func TestP12WrongActors(t *testing.T) {
	for _, log := range [][]impl.Op{nil, inOrder(story()), diary(0, 1, counts(1, 1)), diary(15, 1, counts(1, 1)), diary(0, 1, counts(1, 1), undoes(1, counts(1, -1))), fullLog(impl.MaxLog)} {
		for _, actor := range noActors() {
			checkNoUndoing(t, "no actor", log, actor, impl.ErrRange)
		}
	}
	for _, actor := range []int{0, 15} {
		log := diary(actor, 1, counts(1, 1))
		checkUndo(t, "the first and the last actor", log, actor, nextDeed(log, actor, undoes(1, counts(1, -1))))
		checkDone(t, "the first and the last actor", log, actor)
	}
}

// A log that is not valid goes ahead of all else.
func TestP12WrongLogs(t *testing.T) {
	s := inOrder(story())
	logs := wrongLogs()
	logs["an Undo of a later one"] = logWith(s, 0, func(op *impl.Op) { op.Undo = 3 })
	logs["an Undo below 0"] = logWith(s, 2, func(op *impl.Op) { op.Undo = -1 })
	logs["a Text in a list"] = logWith(s, 1, func(op *impl.Op) { op.Text = "x" })
	logs["a Time beyond the last"] = logWith(s, 6, func(op *impl.Op) { op.Time = impl.MaxTime + 1 })
	logs["no character was put, and no causes"] = []impl.Op{opIns(by(0, 1, 9, 0, 1), 3, 'x', stamp(1, 7))}
	for what, log := range logs {
		for _, actor := range append(noActors(), 0, 1, 3, 7, 15) {
			checkNoUndoing(t, what, log, actor, impl.ErrBad)
		}
	}
}

// A list with an At that no OIns of this Obj has: nothing can be undone, not even of another object or actor; which
// operations are undone is told all the same.
func TestP12WrongLists(t *testing.T) {
	x := types(3, 'x', start())
	for what, deeds := range map[string][]impl.Op{
		"typed behind none":                    {types(3, 'x', stamp(1, 7)), counts(5, 1)},
		"taken away from nothing":              {counts(5, 1), takes(3, stamp(1, 7))},
		"taken away of another actor":          {x, takes(3, stamp(5, 1))},
		"taken away from another list":         {x, takes(4, stamp(5, 2))},
		"taken away of another Time":           {x, takes(3, stamp(4, 2))},
		"typed behind what takes away":         {x, takes(3, stamp(5, 2)), types(3, 'y', stamp(6, 2))},
		"a counting is taken away":             {counts(1, 1), takes(3, stamp(5, 2))},
		"another list's, ahead of a good one":  {types(1, 'y', stamp(1, 7)), types(100, 'x', start())},
		"another list's, behind a good one":    {x, types(100, 'y', stamp(5, 2))},
		"a wrong one that is undone":           {takes(3, stamp(1, 7)), undoes(1, types(3, 'x', start()))},
		"a wrong one that undoes":              {x, undoes(1, takes(3, stamp(1, 7)))},
		"a wrong one ahead of a good one":      {takes(3, stamp(1, 7)), x},
		"all is undone, and a list is wrong":   {x, undoes(1, takes(3, stamp(5, 2))), undoes(1, types(4, 'y', stamp(1, 7)))},
		"a chain of undoings, and a wrong one": {takes(3, stamp(1, 7)), undoes(1, counts(5, 1)), undoes(2, counts(5, 1)), undoes(3, counts(5, 1))},
	} {
		log := diary(2, 5, deeds...)
		if !validLog(log) {
			t.Fatalf("%s: the test is at odds with itself", what)
		}
		for _, beside := range [][]impl.Op{nil, diary(7, 1, counts(9, 1), counts(9, 2), undoes(2, counts(9, -2)))} {
			with := logOf(log, beside)
			for actor := range 16 {
				checkNotUndone(t, what, with, actor, impl.ErrCause)
				seqs, code := undoneSeqs(with, actor)
				wantCode(t, what, code, impl.OK)
				checkDone(t, what, with, actor, seqs...)
			}
			for _, actor := range noActors() {
				checkNotUndone(t, what, with, actor, impl.ErrCause)
				checkNotDone(t, what, with, actor, impl.ErrRange)
			}
		}
	}
	checkDone(t, "a wrong one that is undone", diary(2, 5, takes(3, stamp(1, 7)), undoes(1, types(3, 'x', start()))), 2, 1)
	checkDone(t, "a chain and a wrong one", diary(2, 5, takes(3, stamp(1, 7)), undoes(1, counts(5, 1)), undoes(2, counts(5, 1)), undoes(3, counts(5, 1))), 2, 1, 3)
}

// fullWith is a log of size operations, those of actor 15 among them.
func fullWith(size int, deeds ...impl.Op) []impl.Op {
	return logOf(fullLog(size-len(deeds)), diary(15, 2000, deeds...))
}

// A full log: there is no room for what undoes, if there is something to undo.
func TestP12FullLogs(t *testing.T) {
	none := undoes(1, writes(1, "k", ""))
	for _, size := range []int{impl.MaxLog, impl.MaxLog - 1, impl.MaxLog - 2} {
		full := size == impl.MaxLog
		what := fmt.Sprint(size, " operations")
		nobody, all, some := fullWith(size), fullWith(size, writes(1, "k", "v"), none), fullWith(size, writes(1, "k", "v"), none, counts(100, 5))
		checkNotUndone(t, what+", nothing to undo", nobody, 15, impl.ErrMissing)
		checkNotUndone(t, what+", all undone", all, 15, impl.ErrMissing)
		checkDone(t, what+", all undone", all, 15, 1)
		checkDone(t, what+", some undone", some, 15, 1)
		for _, log := range [][]impl.Op{nobody, all, some} {
			for actor := range 15 {
				if full {
					checkNotUndone(t, what, log, actor, impl.ErrMany)
				} else if _, code := impl.UndoOf(log, actor); code != impl.OK {
					t.Errorf("%s: actor %d: code %d", what, actor, code)
				}
				checkDone(t, what, log, actor)
			}
		}
		if full {
			checkNotUndone(t, what, some, 15, impl.ErrMany)
			continue
		}
		want := nextDeed(some, 15, undoes(3, counts(100, -5)))
		checkUndo(t, what, some, 15, want)
		after := mergedLog(t, some, []impl.Op{want})
		if len(after) != size+1 {
			t.Errorf("%s: %d with what undoes", what, len(after))
		}
		checkNotUndone(t, what+", with what undoes", after, 15, impl.ErrMissing)
		checkDone(t, what+", with what undoes", after, 15, 1, 3)
	}
	// It is filled on the way: the last one that has room is the last.
	log := diary(4, 1, slices.Repeat([]impl.Op{counts(5, 1)}, impl.MaxLog-3)...)
	for i := range 3 {
		op, code := impl.UndoOf(log, 4)
		wantCode(t, "filled on the way", code, impl.OK)
		if op.Undo != impl.MaxLog-3-i {
			t.Errorf("filled on the way: %v", op)
		}
		log = mergedLog(t, log, []impl.Op{op})
	}
	checkNotUndone(t, "filled", log, 4, impl.ErrMany)
	checkDone(t, "filled", log, 4, impl.MaxLog-5, impl.MaxLog-4, impl.MaxLog-3)
}

// The last Time that there is: a greater actor still has a stamp above it.
func TestP12LastTime(t *testing.T) {
	for last := range 16 {
		for actor := range 16 {
			for _, time := range []int{impl.MaxTime, impl.MaxTime - 1} {
				log := diary(last, time, counts(5, 9))
				what := fmt.Sprintf("actor %d, behind actor %d at %d", actor, last, time)
				if actor != last {
					checkNotUndone(t, what+", nothing to undo", log, actor, impl.ErrMissing)
					undone := logOf(log, diary(actor, 7, counts(5, 1), undoes(1, counts(5, -1))))
					checkNotUndone(t, what+", all undone", undone, actor, impl.ErrMissing)
					checkDone(t, what+", all undone", undone, actor, 1)
					log = logOf(log, diary(actor, 7, counts(5, 1)))
				}
				checkDone(t, what, log, actor)
				checkUndoing(t, what, log, actor)
				switch {
				case time == impl.MaxTime && actor <= last:
					checkNotUndone(t, what, log, actor, impl.ErrMany)
				case time == impl.MaxTime:
					checkUndo(t, what, log, actor, opWith(nextDeed(log, actor, undoes(1, counts(5, -1))), func(op *impl.Op) { op.Time = impl.MaxTime }))
				case actor == last:
					checkUndo(t, what, log, actor, opWith(nextDeed(log, actor, undoes(1, counts(5, -9))), func(op *impl.Op) { op.Time = impl.MaxTime }))
				}
			}
		}
	}
	// Its own undoing takes the last stamp: there is none for the next.
	log := diary(15, impl.MaxTime-2, counts(5, 1), counts(5, 2))
	after, code := checkUndoing(t, "the last stamp", log, 15)
	wantCode(t, "the last stamp", code, impl.OK)
	checkNotUndone(t, "no stamp left", after, 15, impl.ErrMany)
	checkDone(t, "no stamp left", after, 15, 2)
}

// Where two faults meet: ErrBad, ErrCause, ErrRange, ErrMissing, ErrMany.
func TestP12OrderOfCodes(t *testing.T) {
	good := logOf(diary(2, 5, writes(1, "k", "v")), diary(3, 5, counts(5, 1), undoes(1, counts(5, -1))))
	wrong := diary(9, 5, takes(3, stamp(1, 7)))
	late := diary(12, impl.MaxTime, counts(5, 1))
	full := logOf(good, diary(14, 100, slices.Repeat([]impl.Op{counts(5, 1)}, impl.MaxLog-3)...))
	fullWrong := logOf(good, wrong, diary(14, 100, slices.Repeat([]impl.Op{counts(5, 1)}, impl.MaxLog-4)...))
	for _, c := range []struct {
		what string
		log  []impl.Op
		// What is answered for no actor, for one without operations, for one whose are undone, and for one with something
		// to undo; and by UndoDone for no actor.
		none, idle, undone, some, done int
	}{
		{"good", good, impl.ErrRange, impl.ErrMissing, impl.ErrMissing, impl.OK, impl.ErrRange},
		{"no time left", logOf(good, late), impl.ErrRange, impl.ErrMissing, impl.ErrMissing, impl.ErrMany, impl.ErrRange},
		{"full", full, impl.ErrRange, impl.ErrMissing, impl.ErrMissing, impl.ErrMany, impl.ErrRange},
		{"a wrong list", logOf(good, wrong), impl.ErrCause, impl.ErrCause, impl.ErrCause, impl.ErrCause, impl.ErrRange},
		{"a wrong list, no time left", logOf(good, wrong, late), impl.ErrCause, impl.ErrCause, impl.ErrCause, impl.ErrCause, impl.ErrRange},
		{"a wrong list, full", fullWrong, impl.ErrCause, impl.ErrCause, impl.ErrCause, impl.ErrCause, impl.ErrRange},
		{"not valid", good[2:], impl.ErrBad, impl.ErrBad, impl.ErrBad, impl.ErrBad, impl.ErrBad},
		{"not valid, a wrong list", logOf(good, wrong)[2:], impl.ErrBad, impl.ErrBad, impl.ErrBad, impl.ErrBad, impl.ErrBad},
		{"not valid, no time left", logOf(good, late)[2:], impl.ErrBad, impl.ErrBad, impl.ErrBad, impl.ErrBad, impl.ErrBad},
		{"too many, a wrong list, no time left", logOf(fullWrong, late), impl.ErrBad, impl.ErrBad, impl.ErrBad, impl.ErrBad, impl.ErrBad},
	} {
		for _, actor := range noActors() {
			checkNotUndone(t, c.what, c.log, actor, c.none)
			checkNotDone(t, c.what, c.log, actor, c.done)
		}
		for actor, want := range map[int]int{6: c.idle, 3: c.undone, 2: c.some} {
			if _, code := impl.UndoOf(c.log, actor); code != want {
				t.Errorf("%s: actor %d: code %d, want %d", c.what, actor, code, want)
			}
			if want != impl.OK {
				checkNotUndone(t, c.what, c.log, actor, want)
			}
			if c.done == impl.ErrBad {
				checkNotDone(t, c.what, c.log, actor, impl.ErrBad)
			}
		}
	}
}
