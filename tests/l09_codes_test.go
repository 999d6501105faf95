package tests

import (
	"fmt"
	"testing"

	"loop.example/g00028/impl"
)

// checkNothing asks for one code of every call of documents, and nothing beside it.
func checkNothing(t *testing.T, what string, log []impl.Op, v impl.Vector, want int) {
	t.Helper()
	checkNoDoc(t, what, log, want)
	checkNoTime(t, what, log, v, want)
	for _, obj := range []int{-1, 0, 1, 3, 100, 101} {
		checkNotBlamed(t, what, log, obj, want)
	}
	list, code := impl.DocObjects(log)
	wantCode(t, what+": DocObjects", code, want)
	zeroWithCode(t, list, code)
}

// wrongLogs are logs that are not valid, each by what is wrong with it.
func wrongLogs() map[string][]impl.Op {
	s := inOrder(story())
	loose := diary(3, 9, takes(3, stamp(1, 7)))
	return map[string][]impl.Op{
		"the first is missing": s[1:], "no operation": {{}}, "turned over": {s[1], s[0]}, "a gap": {s[0], s[2]}, "one twice": {s[0], s[0]},
		"a cause is missing": s[3:], "unlike things": logOf(s, diary(3, 9, counts(1, 1))), "an Obj of 0": logWith(s, 0, func(op *impl.Op) { op.Obj = 0 }),
		"an Obj of 101": logWith(s, 6, func(op *impl.Op) { op.Obj = 101 }), "an Undo of itself": logWith(s, 2, func(op *impl.Op) { op.Undo = 3 }),
		"an At that is its own stamp": diary(3, 9, takes(3, stamp(9, 3))), "no At": diary(3, 9, takes(3, start())), "no character": diary(3, 9, types(3, 55296, start())),
		"a Key that is too long": diary(3, 9, writes(1, letters(201), "")), "one too many": fullLog(impl.MaxLog + 1), "very many": make([]impl.Op, 1<<20),
		"a stamp that does not rise": logWith(s, 1, func(op *impl.Op) { op.Time = 1 }), "a wrong list, and the first is missing": logOf(s[1:], loose),
		"a wrong list, and one of Kind 5": logWith(logOf(s, loose), 0, func(op *impl.Op) { op.Kind = 5 }),
	}
}

// A log that is not valid goes ahead of all else, also of a list that is wrong and of a time that is none.
func TestP11WrongLogs(t *testing.T) {
	for what, log := range wrongLogs() {
		for _, v := range []impl.Vector{vector(), vector(1), vector(2, 2), vector(0, 1), fullVector(9), {}, vectorOf(3, -1)} {
			checkNothing(t, what, log, v, impl.ErrBad)
		}
	}
}

// A list with an At that no OIns of this Obj has.
func TestP11WrongLists(t *testing.T) {
	x := types(3, 'x', start())
	for what, deeds := range map[string][]impl.Op{
		"typed behind none":                       {types(3, 'x', stamp(1, 7))},
		"taken away from nothing":                 {takes(3, stamp(1, 7))},
		"typed behind another Time":               {x, types(3, 'y', stamp(4, 0))},
		"typed behind another actor's":            {x, types(3, 'y', stamp(5, 1))},
		"taken away of another actor":             {x, takes(3, stamp(5, 1))},
		"typed behind another list's":             {x, types(4, 'y', stamp(5, 2))},
		"taken away from another list":            {x, takes(4, stamp(5, 2))},
		"another list's, with one of its own":     {x, types(4, 'y', start()), types(4, 'z', stamp(5, 2))},
		"taken from another list, with its own":   {x, types(4, 'y', start()), takes(4, stamp(5, 2))},
		"typed behind what takes away":            {x, takes(3, stamp(5, 2)), types(3, 'y', stamp(6, 2))},
		"what takes away is taken away":           {x, takes(3, stamp(5, 2)), takes(3, stamp(6, 2))},
		"typed behind a setting":                  {writes(1, "k", "v"), types(3, 'y', stamp(5, 2))},
		"a counting is taken away":                {counts(1, 1), takes(3, stamp(5, 2))},
		"a wrong one that is undone":              {takes(3, stamp(1, 7)), undoes(1, types(3, 'x', start()))},
		"the last list is wrong, the first right": {x, types(100, 'y', stamp(5, 2)), counts(1, 1)},
		"the first list is wrong, the last right": {types(1, 'y', stamp(1, 7)), types(100, 'x', start())},
	} {
		log := diary(2, 5, deeds...)
		if !validLog(log) {
			t.Fatalf("%s: the test is at odds with itself", what)
		}
		checkNoDoc(t, what, log, impl.ErrCause)
		v, _ := impl.LogVector(log)
		if got, code := impl.DocAt(log, v); got != "" || code != impl.ErrCause {
			t.Errorf("%s: DocAt %q, code %d", what, got, code)
		}
		if cut, code := impl.LogAt(log, v); !sameLog(cut, log) || code != impl.OK {
			t.Errorf("%s: LogAt %s, code %d", what, brief(cut), code)
		}
		for _, obj := range []int{-1, 0, 1, 2, 3, 4, 100, 101} {
			checkNotBlamed(t, what, log, obj, impl.ErrCause)
		}
		for _, pair := range [][2]impl.Vector{{v, vector()}, {vector(), v}, {v, v}} {
			list, code := impl.DocChanges(log, pair[0], pair[1])
			wantCode(t, what+": DocChanges", code, impl.ErrCause)
			zeroWithCode(t, list, code)
		}
		checkObjects(t, what, log)
	}
}

// Two faults at once: the log and v go ahead of causes, and these ahead of kinds.
func TestP11OrderOfCodes(t *testing.T) {
	good := inOrder(story())
	loose := logOf(good, diary(3, 9, takes(3, stamp(1, 7))))
	all, _ := impl.LogVector(loose)
	bad, none := impl.Vector{}, vector(0, 1)
	for i, c := range []struct {
		log      []impl.Op
		v        impl.Vector
		doc, cut int
	}{
		{good, vector(), impl.OK, impl.OK}, {good, bad, impl.ErrBad, impl.ErrBad}, {good, none, impl.ErrCause, impl.ErrCause},
		{loose, vector(), impl.OK, impl.OK}, {loose, bad, impl.ErrBad, impl.ErrBad}, {loose, none, impl.ErrCause, impl.ErrCause}, {loose, all, impl.ErrCause, impl.OK},
		{loose[1:], vector(), impl.ErrBad, impl.ErrBad}, {loose[1:], bad, impl.ErrBad, impl.ErrBad}, {loose[1:], none, impl.ErrBad, impl.ErrBad}, {loose[1:], all, impl.ErrBad, impl.ErrBad},
	} {
		_, code := impl.DocAt(c.log, c.v)
		wantCode(t, fmt.Sprint("DocAt ", i), code, c.doc)
		_, code = impl.LogAt(c.log, c.v)
		wantCode(t, fmt.Sprint("LogAt ", i), code, c.cut)
		checkAt(t, fmt.Sprint(i), c.log, c.v)
		// What is wrong with one time is told whichever side it stands on.
		for _, right := range []impl.Vector{vector(), vector(1)} {
			_, code = impl.DocChanges(c.log, c.v, right)
			wantCode(t, fmt.Sprint("DocChanges ", i), code, c.doc)
			_, code = impl.DocChanges(c.log, right, c.v)
			wantCode(t, fmt.Sprint("DocChanges ", i, ", turned over"), code, c.doc)
		}
	}
	// Of two times that are wrong the first one's code is told.
	for _, c := range []struct {
		v, w impl.Vector
		want int
	}{
		{bad, none, impl.ErrBad}, {none, bad, impl.ErrCause}, {bad, all, impl.ErrBad}, {all, bad, impl.ErrCause}, {none, all, impl.ErrCause}, {bad, bad, impl.ErrBad},
	} {
		list, code := impl.DocChanges(loose, c.v, c.w)
		wantCode(t, "two times that are wrong", code, c.want)
		zeroWithCode(t, list, code)
		_, code = impl.DocChanges(loose[1:], c.v, c.w)
		wantCode(t, "two times that are wrong, and no log", code, impl.ErrBad)
	}
}
