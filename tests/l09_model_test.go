package tests

import (
	"fmt"
	"slices"
	"sort"
	"strings"
	"testing"

	"loop.example/g00028/impl"
)

// diary gives operations of one actor, one behind the other from a Time on; it knows nobody else.
func diary(actor, time int, deeds ...impl.Op) []impl.Op {
	var log []impl.Op
	for i, deed := range deeds {
		own := by(actor, i+1, time+i)
		deed.Actor, deed.Seq, deed.Time, deed.Deps = own.Actor, own.Seq, own.Time, own.Deps
		log = append(log, deed)
	}
	return log
}

// logOf gives the log of several diaries.
func logOf(diaries ...[]impl.Op) []impl.Op { return inOrder(slices.Concat(diaries...)) }

// What a diary can be told: each is an operation of nobody yet.
func writes(obj int, key, text string) impl.Op { return opSet(impl.Op{}, obj, key, text) }

func types(obj, char int, at impl.Stamp) impl.Op { return opIns(impl.Op{}, obj, char, at) }

func takes(obj int, at impl.Stamp) impl.Op { return opDel(impl.Op{}, obj, at) }

func counts(obj, n int) impl.Op { return opAdd(impl.Op{}, obj, n) }

// undoes lets an operation undo another one of its actor.
func undoes(seq int, op impl.Op) impl.Op {
	op.Undo = seq
	return op
}

// typed gives what types a text into a list at the beginning, as the first that an actor does from a Time on.
func typed(obj, actor, time int, text string) []impl.Op {
	var deeds []impl.Op
	at := start()
	for i, char := range []rune(text) {
		deeds = append(deeds, types(obj, int(char), at))
		at = stamp(time+i, actor)
	}
	return deeds
}

// undoneDeed says by its words whether an operation is undone.
func undoneDeed(log []impl.Op, op impl.Op) bool {
	return slices.ContainsFunc(log, func(later impl.Op) bool {
		return later.Actor == op.Actor && later.Seq > op.Seq && later.Undo == op.Seq && !undoneDeed(log, later)
	})
}

// byNumbers tells a text, each byte by itself.
func byNumbers(text string) string {
	const plain = "!\"#$&'()*+,-./0123456789:;<>?@ABCDEFGHIJKLMNOPQRSTUVWXYZ[\\]^_`abcdefghijklmnopqrstuvwxyz{|}~"
	told := ""
	for i := range len(text) {
		if strings.IndexByte(plain, text[i]) >= 0 {
			told += text[i : i+1]
		} else {
			told += fmt.Sprintf("%%%02X", text[i])
		}
	}
	return told
}

func deedsOn(log []impl.Op, obj int) []impl.Op {
	return slices.DeleteFunc(slices.Clone(log), func(op impl.Op) bool { return op.Obj != obj })
}

// mapLine asks for each Key which setting is the last of those that count.
func mapLine(log []impl.Op, obj int) string {
	last := map[string]impl.Op{}
	for _, op := range deedsOn(log, obj) {
		if other, ok := last[op.Key]; op.Undo == 0 && !undoneDeed(log, op) && (!ok || impl.StampLess(told8(other), told8(op))) {
			last[op.Key] = op
		}
	}
	var keys []string
	for key := range last {
		keys = append(keys, key)
	}
	sort.Strings(keys)
	line := fmt.Sprint("map ", obj)
	for _, key := range keys {
		if text := last[key].Text; len(text) > 0 {
			line += " " + byNumbers(key) + "=" + byNumbers(text)
		}
	}
	return line
}

// listDeeds gives the list's operations of an object.
func listDeeds(log []impl.Op, obj int) []impl.LOp {
	var ops []impl.LOp
	for _, op := range deedsOn(log, obj) {
		ops = append(ops, impl.LOp{Kind: op.Kind - 1, Char: op.N, Id: told8(op), At: op.At})
	}
	return ops
}

// lineOf tells one object of a valid log, with a code if it is a list that is not valid; nothing, if there is none.
func lineOf(log []impl.Op, obj int) (string, int) {
	ops := deedsOn(log, obj)
	if len(ops) == 0 {
		return "", impl.OK
	}
	switch ops[0].Kind {
	case impl.OSet:
		return mapLine(log, obj), impl.OK
	case impl.OAdd:
		sum := 0
		for _, op := range ops {
			sum += op.N
		}
		return fmt.Sprintf("count %d %d", obj, sum), impl.OK
	}
	list := listDeeds(log, obj)
	if listCode(list) != impl.OK {
		return "", impl.ErrCause
	}
	return fmt.Sprintf("list %d %s", obj, byNumbers(textOf(seenOf(row(list))))), impl.OK
}

// linesOf tells a log's objects, by another program than the project's.
func linesOf(log []impl.Op) ([]string, int) {
	if !validLog(log) {
		return nil, impl.ErrBad
	}
	var lines []string
	for obj := 1; obj <= 100; obj++ {
		line, code := lineOf(log, obj)
		if code != impl.OK {
			return nil, code
		}
		if line != "" {
			lines = append(lines, line)
		}
	}
	return lines, impl.OK
}

func pageOf(lines []string) string {
	page := ""
	for _, line := range lines {
		page += line + "\n"
	}
	return page
}

// cutOf gives the operations that v counts, asking each of them what it counts.
func cutOf(log []impl.Op, v impl.Vector) ([]impl.Op, int) {
	if !validLog(log) || !impl.VecOK(v) {
		return nil, impl.ErrBad
	}
	var cut []impl.Op
	var found [16]int
	for _, op := range log {
		if op.Seq <= v.Counts[op.Actor] {
			cut = append(cut, op)
			found[op.Actor]++
		}
	}
	if !slices.Equal(found[:], v.Counts) {
		return nil, impl.ErrCause
	}
	for _, op := range cut {
		if !notAbove(op.Deps, v) {
			return nil, impl.ErrCause
		}
	}
	return cut, impl.OK
}

func linesAt(log []impl.Op, v impl.Vector) ([]string, int) {
	cut, code := cutOf(log, v)
	if code != impl.OK {
		return nil, code
	}
	return linesOf(cut)
}

// blameOf asks the plain row who put what is seen.
func blameOf(log []impl.Op, obj int) ([]int, int) {
	if _, code := linesOf(log); code != impl.OK {
		return nil, code
	}
	ops := deedsOn(log, obj)
	if len(ops) == 0 || ops[0].Kind != impl.OIns && ops[0].Kind != impl.ODel {
		return nil, impl.ErrKind
	}
	var actors []int
	for _, p := range seenOf(row(listDeeds(log, obj))) {
		actors = append(actors, p.id.Actor)
	}
	return actors, impl.OK
}

// objNumber reads the Obj of a line.
func objNumber(line string) int {
	obj := 0
	fmt.Sscan(strings.Fields(line)[1], &obj)
	return obj
}

// changesOf takes from the lines of each side those of the other one.
func changesOf(log []impl.Op, v, w impl.Vector) ([]string, int) {
	old, code := linesAt(log, v)
	if code != impl.OK {
		return nil, code
	}
	now, code := linesAt(log, w)
	if code != impl.OK {
		return nil, code
	}
	var list []string
	for _, line := range old {
		if !slices.Contains(now, line) {
			list = append(list, "-"+line)
		}
	}
	for _, line := range now {
		if !slices.Contains(old, line) {
			list = append(list, "+"+line)
		}
	}
	// Those of one Obj stay as they stand: the - first.
	sort.SliceStable(list, func(i, j int) bool { return objNumber(list[i]) < objNumber(list[j]) })
	return list, impl.OK
}

// checkDoc asks for a document that is written down, of all that takes no time.
func checkDoc(t *testing.T, what string, log []impl.Op, want string) {
	t.Helper()
	if got, code := impl.DocText(log); got != want || code != impl.OK {
		t.Errorf("%s: DocText %s, code %d, want %s", what, brief(got), code, brief(want))
	}
	checkAll(t, what, log)
}

// checkNoDoc asks for a code and nothing beside it.
func checkNoDoc(t *testing.T, what string, log []impl.Op, want int) {
	t.Helper()
	if got, code := impl.DocText(log); got != "" || code != want {
		t.Errorf("%s: DocText %s, code %d, want code %d", what, brief(got), code, want)
	}
	checkAll(t, what, log)
}

// checkAll holds what is told of a log against the other program: whole, at its own vector and of each object.
func checkAll(t *testing.T, what string, log []impl.Op) {
	t.Helper()
	lines, want := linesOf(log)
	if got, code := impl.DocText(log); got != pageOf(lines) || code != want {
		t.Errorf("%s: DocText %s, code %d, want %s, code %d", what, brief(got), code, brief(pageOf(lines)), want)
	}
	checkObjects(t, what, log)
	for _, obj := range []int{-1, 0, 1, 2, 3, 4, 9, 10, 11, 40, 99, 100, 101} {
		checkBlame(t, what, log, obj)
	}
	if v, code := impl.LogVector(log); code == impl.OK {
		checkAt(t, what, log, v)
	}
	checkAt(t, what, log, vector())
}

func checkObjects(t *testing.T, what string, log []impl.Op) {
	t.Helper()
	var want []int
	wantCode := impl.ErrBad
	if validLog(log) {
		wantCode = impl.OK
		for obj := range 101 {
			if len(deedsOn(log, obj)) > 0 {
				want = append(want, obj)
			}
		}
	}
	if got, code := impl.DocObjects(log); code != wantCode || !slices.Equal(got, want) {
		t.Errorf("%s: DocObjects %v, code %d, want %v, code %d", what, got, code, want, wantCode)
	}
}

func checkBlame(t *testing.T, what string, log []impl.Op, obj int) {
	t.Helper()
	want, wantCode := blameOf(log, obj)
	if got, code := impl.Blame(log, obj); code != wantCode || !slices.Equal(got, want) {
		t.Errorf("%s: Blame of %d: %v, code %d, want %v, code %d", what, obj, got, code, want, wantCode)
	}
}

// checkAt holds DocAt and LogAt against the other program, and gives DocAt's code.
func checkAt(t *testing.T, what string, log []impl.Op, v impl.Vector) int {
	t.Helper()
	lines, wantText := linesAt(log, v)
	got, code := impl.DocAt(log, v)
	if got != pageOf(lines) || code != wantText {
		t.Errorf("%s: DocAt %s: %s, code %d, want %s, code %d", what, brief(v), brief(got), code, brief(pageOf(lines)), wantText)
	}
	cut, wantCut := cutOf(log, v)
	if part, code := impl.LogAt(log, v); code != wantCut || !sameLog(part, cut) {
		t.Errorf("%s: LogAt %s: %s, code %d, want %s, code %d", what, brief(v), brief(part), code, brief(cut), wantCut)
	}
	return code
}

func checkChanges(t *testing.T, what string, log []impl.Op, v, w impl.Vector) []string {
	t.Helper()
	want, wantCode := changesOf(log, v, w)
	got, code := impl.DocChanges(log, v, w)
	if code != wantCode || !slices.Equal(got, want) {
		t.Errorf("%s: DocChanges from %s to %s: %q, code %d, want %q, code %d", what, brief(v), brief(w), got, code, want, wantCode)
	}
	return got
}

// allTimes are the vectors with counts from 0 to one more than a log has of each of some actors.
func allTimes(log []impl.Op, actors ...int) []impl.Vector {
	list := []impl.Vector{vector()}
	for _, actor := range actors {
		var more []impl.Vector
		for _, v := range list {
			for n := range seqsOf(log, actor) + 2 {
				with := impl.Vector{Counts: slices.Clone(v.Counts)}
				with.Counts[actor] = n
				more = append(more, with)
			}
		}
		list = more
	}
	return list
}
