package tests

import (
	"fmt"
	"math/rand"
	"slices"
	"testing"

	"loop.example/g00028/impl"
)

func ins(time, actor int, at impl.Stamp, char int) impl.LOp {
	return impl.LOp{Kind: impl.LIns, Char: char, Id: stamp(time, actor), At: at}
}

func del(time, actor int, at impl.Stamp) impl.LOp {
	return impl.LOp{Kind: impl.LDel, Id: stamp(time, actor), At: at}
}

// start is what is put at the beginning is put behind.
func start() impl.Stamp { return impl.Stamp{} }

// brief tells of a thing what fits into a line, because lists and texts may be very long.
func brief(thing any) string {
	return fmt.Sprintf("%.300q", fmt.Sprint(thing))
}

// A placed is a character in a plain row.
type placed struct {
	id   impl.Stamp
	char rune
	gone bool
}

// validOp says again what an operation must be.
func validOp(op impl.LOp) bool {
	if !impl.StampOK(op.Id) || !impl.StampLess(op.At, op.Id) {
		return false
	}
	surrogate := op.Char >= 55296 && op.Char <= 57343
	switch {
	case op.Kind == 1 && (op.At == start() || impl.StampOK(op.At)):
		return op.Char >= 0 && op.Char <= 1114111 && !surrogate
	case op.Kind == 2 && impl.StampOK(op.At):
		return op.Char == 0
	}
	return false
}

// listCode looks for the faults in their order, each by holding all against all.
func listCode(ops []impl.LOp) int {
	if len(ops) > 2048 {
		return impl.ErrLong
	}
	if slices.ContainsFunc(ops, func(op impl.LOp) bool { return !validOp(op) }) {
		return impl.ErrBad
	}
	for _, one := range ops {
		if slices.ContainsFunc(ops, func(other impl.LOp) bool { return other.Id == one.Id && other != one }) {
			return impl.ErrFork
		}
	}
	for _, one := range ops {
		puts := func(other impl.LOp) bool { return other.Kind == 1 && other.Id == one.At }
		if one.At != start() && !slices.ContainsFunc(ops, puts) {
			return impl.ErrCause
		}
	}
	return impl.OK
}

// once leaves of operations each once, by rising Id.
func once(ops []impl.LOp) []impl.LOp {
	var list []impl.LOp
	for _, op := range ops {
		if !slices.Contains(list, op) {
			list = append(list, op)
		}
	}
	slices.SortStableFunc(list, func(a, b impl.LOp) int {
		if impl.StampLess(a.Id, b.Id) {
			return -1
		}
		return 1
	})
	return list
}

// row types valid operations into a plain row: by rising Id each character goes right behind its own, which is ahead
// of all that came there earlier. No tree is needed for that.
func row(ops []impl.LOp) []placed {
	var list []placed
	for _, op := range once(ops) {
		at := slices.IndexFunc(list, func(p placed) bool { return p.id == op.At })
		if op.Kind == impl.LDel {
			list[at].gone = true
		} else {
			list = slices.Insert(list, at+1, placed{id: op.Id, char: rune(op.Char)})
		}
	}
	return list
}

func seenOf(list []placed) []placed {
	return slices.DeleteFunc(slices.Clone(list), func(p placed) bool { return p.gone })
}

func idsOf(list []placed) []impl.Stamp {
	var ids []impl.Stamp
	for _, p := range list {
		ids = append(ids, p.id)
	}
	return ids
}

func textOf(list []placed) string {
	var runes []rune
	for _, p := range list {
		runes = append(runes, p.char)
	}
	return string(runes)
}

// checkList holds what the program tells of operations against the plain row.
func checkList(t *testing.T, ops []impl.LOp) {
	t.Helper()
	if code := listCode(ops); code != impl.OK {
		checkNoList(t, ops, code)
		return
	}
	all := row(ops)
	seen := seenOf(all)
	if ids, code := impl.ListOrder(ops); code != impl.OK || !slices.Equal(ids, idsOf(all)) {
		t.Errorf("ListOrder of %s: %s, code %d, want %s", brief(ops), brief(ids), code, brief(idsOf(all)))
	}
	if text, code := impl.ListText(ops); code != impl.OK || text != textOf(seen) {
		t.Errorf("ListText of %s: %s, code %d, want %s", brief(ops), brief(text), code, brief(textOf(seen)))
	}
	checkPlace(t, ops, -2, start(), impl.ErrRange)
	checkPlace(t, ops, -1, start(), impl.OK)
	for n, p := range seen {
		checkPlace(t, ops, n, p.id, impl.OK)
	}
	checkPlace(t, ops, len(seen), start(), impl.ErrRange)
}

func checkPlace(t *testing.T, ops []impl.LOp, n int, want impl.Stamp, wantCode int) {
	t.Helper()
	if id, code := impl.ListPlace(ops, n); id != want || code != wantCode {
		t.Errorf("ListPlace of %s, %d: %v, code %d, want %v, code %d", brief(ops), n, id, code, want, wantCode)
	}
}

// checkNoList checks that every call of lists answers this code and nothing else.
func checkNoList(t *testing.T, ops []impl.LOp, want int) {
	t.Helper()
	ids, code := impl.ListOrder(ops)
	wantCode(t, "ListOrder", code, want)
	zeroWithCode(t, ids, code)
	if text, code := impl.ListText(ops); text != "" || code != want {
		t.Errorf("ListText: %s, code %d, want %d", brief(text), code, want)
	}
	for _, n := range []int{-2, -1, 0} {
		checkPlace(t, ops, n, start(), want)
	}
	checkMerge(t, ops, nil, nil, want)
	checkMerge(t, nil, ops, nil, want)
	checkMerge(t, ops, ops, nil, want)
	// What is said of an edit comes behind the codes of its list.
	checkEdit(t, ops, edit{actor: 0}, nil, want)
	checkEdit(t, ops, edit{actor: 16, place: -1, gone: -1, text: "\xff"}, nil, want)
}

func checkMerge(t *testing.T, a, b, want []impl.LOp, wantCode int) {
	t.Helper()
	if ops, code := impl.ListMerge(a, b); code != wantCode || !slices.Equal(ops, want) {
		t.Errorf("ListMerge: %s, code %d, want %s, code %d", brief(ops), code, brief(want), wantCode)
	}
}

// An edit is what ListEdit is handed beside the operations.
type edit struct {
	actor, place, gone int
	text               string
}

func (e edit) of(ops []impl.LOp) ([]impl.LOp, int) {
	return impl.ListEdit(ops, e.actor, e.place, e.gone, e.text)
}

func checkEdit(t *testing.T, ops []impl.LOp, e edit, want []impl.LOp, wantCode int) {
	t.Helper()
	if more, code := e.of(ops); code != wantCode || !slices.Equal(more, want) {
		t.Errorf("ListEdit %s: %s, code %d, want %s, code %d", brief(e), brief(more), code, brief(want), wantCode)
	}
}

func merged(t *testing.T, a, b []impl.LOp) []impl.LOp {
	t.Helper()
	ops, code := impl.ListMerge(a, b)
	if code != impl.OK {
		t.Fatalf("ListMerge of %s and %s: code %d", brief(a), brief(b), code)
	}
	return ops
}

func listText(t *testing.T, ops []impl.LOp) string {
	t.Helper()
	text, code := impl.ListText(ops)
	if code != impl.OK {
		t.Fatalf("ListText of %s: code %d", brief(ops), code)
	}
	return text
}

// edited gives the operations with those of an edit behind them.
func edited(t *testing.T, ops []impl.LOp, e edit) []impl.LOp {
	t.Helper()
	more, code := e.of(ops)
	if code != impl.OK {
		t.Fatalf("ListEdit %s: code %d", brief(e), code)
	}
	return slices.Concat(ops, more)
}

// lined gives n characters of one actor, each behind the one ahead.
func lined(n, actor int) []impl.LOp {
	var ops []impl.LOp
	at := start()
	for i := range n {
		ops = append(ops, ins(i+1, actor, at, 'a'+i%26))
		at = ops[i].Id
	}
	return ops
}

// anyList gives valid operations of which many stand upon the same few, in any order and some of them twice.
func anyList(random *rand.Rand, size int) []impl.LOp {
	ids := []impl.Stamp{start()}
	var ops []impl.LOp
	last := start()
	for range size {
		id := stamp(last.Time+1+random.Intn(2), random.Intn(16))
		if last.Time > 0 && last.Actor < 15 && random.Intn(3) == 0 {
			id = stamp(last.Time, last.Actor+1)
		}
		last = id
		at := ids[random.Intn(len(ids))]
		if at != start() && random.Intn(3) == 0 {
			ops = append(ops, del(id.Time, id.Actor, at))
		} else {
			ops = append(ops, ins(id.Time, id.Actor, at, random.Intn(26)+'a'))
			ids = append(ids, id)
		}
	}
	return mixed(random, ops)
}
