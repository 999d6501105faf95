package tests

import (
	"fmt"
	"slices"
	"testing"

	"loop.example/g00028/impl"
)

// knownIn counts the operations of each actor.
func knownIn(log []impl.Op) impl.Vector {
	v := vector()
	for actor := range 16 {
		v.Counts[actor] = seqsOf(log, actor)
	}
	return v
}

// timeAbove is the least Time with which an actor's stamp is above all of a log.
func timeAbove(log []impl.Op, actor int) int {
	time := 1
	for _, op := range log {
		for !impl.StampLess(told8(op), stamp(time, actor)) {
			time = max(time+1, op.Time)
		}
	}
	return time
}

// nextDeed lets an actor do something upon a log, all of which it knows.
func nextDeed(log []impl.Op, actor int, deed impl.Op) impl.Op {
	deed.Actor, deed.Seq, deed.Time, deed.Deps = actor, seqsOf(log, actor)+1, timeAbove(log, actor), knownIn(log)
	return deed
}

// withNext is a log with what an actor does upon it.
func withNext(log []impl.Op, actor int, deed impl.Op) []impl.Op {
	return logOf(log, []impl.Op{nextDeed(log, actor, deed)})
}

// lastDeed is the last operation of an actor that undoes none and is not undone, and whether there is one.
func lastDeed(log []impl.Op, actor int) (impl.Op, bool) {
	var last impl.Op
	for _, op := range log {
		if op.Actor == actor && op.Undo == 0 && !undoneDeed(log, op) {
			last = op
		}
	}
	return last, last.Seq > 0
}

// undoingOf says by the document's words what undoes the last of an actor, by another program than the project's.
func undoingOf(log []impl.Op, actor int) (impl.Op, int) {
	if _, code := linesOf(log); code != impl.OK {
		return impl.Op{}, code
	}
	if !goodActor(actor) {
		return impl.Op{}, impl.ErrRange
	}
	u, found := lastDeed(log, actor)
	if !found {
		return impl.Op{}, impl.ErrMissing
	}
	if len(log) >= 1024 || !goodTime(timeAbove(log, actor)) {
		return impl.Op{}, impl.ErrMany
	}
	return nextDeed(log, actor, undoes(u.Seq, takenBack(log, u))), impl.OK
}

// takenBack is what takes an operation back, of nobody yet.
func takenBack(log []impl.Op, u impl.Op) impl.Op {
	switch u.Kind {
	case impl.OSet:
		return writes(u.Obj, u.Key, "")
	case impl.OIns:
		return takes(u.Obj, told8(u))
	case impl.ODel:
		put := slices.IndexFunc(log, func(op impl.Op) bool { return op.Kind == impl.OIns && told8(op) == u.At })
		return types(u.Obj, log[put].N, u.At)
	}
	return counts(u.Obj, -u.N)
}

// undoneSeqs says which of an actor's operations are undone.
func undoneSeqs(log []impl.Op, actor int) ([]int, int) {
	if !validLog(log) {
		return nil, impl.ErrBad
	}
	if !goodActor(actor) {
		return nil, impl.ErrRange
	}
	var seqs []int
	for _, op := range log {
		if op.Actor == actor && undoneDeed(log, op) {
			seqs = append(seqs, op.Seq)
		}
	}
	return seqs, impl.OK
}

// checkUndo asks for one answer of UndoOf that is written down.
func checkUndo(t *testing.T, what string, log []impl.Op, actor int, want impl.Op) {
	t.Helper()
	if got, code := impl.UndoOf(log, actor); code != impl.OK || !sameDeed(got, want) {
		t.Errorf("%s: UndoOf actor %d: %v, code %d, want %v", what, actor, got, code, want)
	}
}

// checkNotUndone asks for a code of UndoOf, and nothing beside it.
func checkNotUndone(t *testing.T, what string, log []impl.Op, actor, want int) {
	t.Helper()
	if got, code := impl.UndoOf(log, actor); code != want || !sameDeed(got, impl.Op{}) {
		t.Errorf("%s: UndoOf actor %d: %v, code %d, want code %d", what, actor, got, code, want)
	}
}

// checkDone asks for one answer of UndoDone that is written down.
func checkDone(t *testing.T, what string, log []impl.Op, actor int, want ...int) {
	t.Helper()
	if got, code := impl.UndoDone(log, actor); code != impl.OK || !slices.Equal(got, want) {
		t.Errorf("%s: UndoDone of actor %d: %v, code %d, want %v", what, actor, got, code, want)
	}
}

func checkNotDone(t *testing.T, what string, log []impl.Op, actor, want int) {
	t.Helper()
	if got, code := impl.UndoDone(log, actor); code != want || len(got) != 0 {
		t.Errorf("%s: UndoDone of actor %d: %v, code %d, want code %d", what, actor, got, code, want)
	}
}

// checkUndoing holds UndoOf and UndoDone against the other program, and gives the log with what undoes, if there is
// such and it is what it should be.
func checkUndoing(t *testing.T, what string, log []impl.Op, actor int) ([]impl.Op, int) {
	t.Helper()
	wantDone, wantDoneCode := undoneSeqs(log, actor)
	if done, code := impl.UndoDone(log, actor); code != wantDoneCode || !slices.Equal(done, wantDone) {
		t.Errorf("%s: UndoDone of actor %d in %s: %v, code %d, want %v, code %d", what, actor, brief(log), done, code, wantDone, wantDoneCode)
	}
	want, wantCode := undoingOf(log, actor)
	got, code := impl.UndoOf(log, actor)
	if code != wantCode || !sameDeed(got, want) {
		t.Errorf("%s: UndoOf actor %d in %s: %v, code %d, want %v, code %d", what, actor, brief(log), got, code, want, wantCode)
		return nil, code
	}
	if code != impl.OK {
		return nil, code
	}
	after := mergedLog(t, log, []impl.Op{got})
	checkTookBack(t, what, log, after, got)
	return after, code
}

// checkTookBack asks that an undoing is an operation as others are, and takes back just what it says.
func checkTookBack(t *testing.T, what string, log, after []impl.Op, undoing impl.Op) {
	t.Helper()
	if !validDeed(undoing) || !validLog(after) || len(after) != len(log)+1 || !hasDeed(after, undoing) {
		t.Errorf("%s: %v does not come into %s", what, undoing, brief(log))
		return
	}
	u := log[slices.IndexFunc(log, func(op impl.Op) bool { return op.Actor == undoing.Actor && op.Seq == undoing.Undo })]
	done, _ := undoneSeqs(log, u.Actor)
	done = append(done, u.Seq)
	slices.Sort(done)
	checkDone(t, what+", behind it", after, u.Actor, done...)
	for other := range 16 {
		if other != u.Actor {
			before, _ := undoneSeqs(log, other)
			checkDone(t, what+", of another actor", after, other, before...)
		}
	}
	var lines []string
	for obj := 1; obj <= 100; obj++ {
		line, _ := lineOf(log, obj)
		if obj == u.Obj {
			line = lineWithout(log, u)
		}
		if line != "" {
			lines = append(lines, line)
		}
	}
	checkText9(t, what+", behind it", after, pageOf(lines))
}

// lineWithout says what is told of an operation's object when that was taken back.
func lineWithout(log []impl.Op, u impl.Op) string {
	switch u.Kind {
	case impl.OSet:
		without := slices.DeleteFunc(slices.Clone(log), func(op impl.Op) bool { return sameDeed(op, u) })
		return mapLine(without, u.Obj)
	case impl.OAdd:
		sum := -u.N
		for _, op := range deedsOn(log, u.Obj) {
			sum += op.N
		}
		return fmt.Sprintf("count %d %d", u.Obj, sum)
	}
	text := ""
	for _, p := range row(listDeeds(log, u.Obj)) {
		if !p.gone && !(u.Kind == impl.OIns && p.id == told8(u)) {
			text += string(p.char)
		}
		if u.Kind == impl.ODel && p.id == u.At {
			text += string(p.char)
		}
	}
	return fmt.Sprintf("list %d %s", u.Obj, byNumbers(text))
}

// emptyLine is what is told of an object when all was taken back.
func emptyLine(op impl.Op) string {
	switch op.Kind {
	case impl.OSet:
		return fmt.Sprintf("map %d\n", op.Obj)
	case impl.OAdd:
		return fmt.Sprintf("count %d 0\n", op.Obj)
	}
	return fmt.Sprintf("list %d \n", op.Obj)
}

// checkAsItWas lets an actor do something and undo it, and asks that the document is as it was. An object that was not
// there stays, with nothing in it.
func checkAsItWas(t *testing.T, what string, log []impl.Op, actor int, deed impl.Op) {
	t.Helper()
	before, code := impl.DocText(log)
	wantCode(t, what, code, impl.OK)
	with := withNext(log, actor, deed)
	after, code := checkUndoing(t, what, with, actor)
	wantCode(t, what, code, impl.OK)
	if len(deedsOn(log, deed.Obj)) == 0 {
		before = withLine(before, emptyLine(deed))
	}
	checkText9(t, what+", undone", after, before)
}

// withLine puts a line of an object that was not there into a document, by rising Obj.
func withLine(text, line string) string {
	lines := append(textLines(text), line[:len(line)-1])
	slices.SortStableFunc(lines, func(a, b string) int { return objNumber(a) - objNumber(b) })
	return pageOf(lines)
}
