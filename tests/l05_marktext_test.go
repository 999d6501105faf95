package tests

import (
	"math"
	"math/rand"
	"slices"
	"testing"

	"loop.example/g00028/impl"
)

// checkMarking checks the operation of a marking, and that with it just these characters have the Kind or have it not,
// and all else is as it was.
func checkMarking(t *testing.T, ops []impl.LOp, marks []impl.MarkOp, m marking) {
	t.Helper()
	want := markOf(t, ops, marks, m)
	checkMark(t, ops, marks, m, want, impl.OK)
	with := append(slices.Clone(marks), want)
	before, after := charKinds(t, ops, marks), charKinds(t, ops, with)
	for i, p := range seenOf(row(ops)) {
		kinds := slices.Clone(before[p.id])
		if i >= m.place && i < m.place+m.size {
			kinds = slices.DeleteFunc(kinds, func(k int) bool { return k == m.kind })
			if m.on {
				kinds = append(kinds, m.kind)
				slices.Sort(kinds)
			}
		}
		if !slices.Equal(after[p.id], kinds) {
			t.Errorf("character %d of %s with %v: %v, want %v", i, brief(ops), m, after[p.id], kinds)
		}
	}
	checkRich(t, ops, with)
}

func TestP7EveryMarking(t *testing.T) {
	for i, ops := range lists() {
		size := len([]rune(listText(t, ops)))
		random := rand.New(rand.NewSource(int64(i)))
		for _, marks := range [][]impl.MarkOp{nil, anyMarks(random, ops, 3), anyMarks(random, ops, 8)} {
			for place := range size {
				for n := 1; n <= size-place; n++ {
					checkMarking(t, ops, marks, marking{actor: 0, place: place, size: n, kind: 1, on: true})
					checkMarking(t, ops, marks, marking{actor: 15, place: place, size: n, kind: 8, on: false})
				}
			}
		}
	}
}

func TestP7AnyMarkings(t *testing.T) {
	random := rand.New(rand.NewSource(14))
	for range 1500 {
		ops := anyList(random, 1+random.Intn(16))
		size := len([]rune(listText(t, ops)))
		if size == 0 {
			continue
		}
		m := marking{actor: random.Intn(16), place: random.Intn(size), kind: 1 + random.Intn(8), on: random.Intn(2) == 0}
		m.size = 1 + random.Intn(size-m.place)
		checkMarking(t, ops, anyMarks(random, ops, random.Intn(8)), m)
	}
}

// The ends are of what is seen: characters that are gone are not counted and are no ends.
func TestP7MarkingOfWhatIsSeen(t *testing.T) {
	ops := append(lined(5, 2), del(7, 0, stamp(1, 2)), del(8, 0, stamp(3, 2)), del(9, 0, stamp(5, 2)))
	checkMark(t, ops, nil, marking{actor: 3, size: 1, kind: 2, on: true}, mark(9, 3, stamp(2, 2), stamp(2, 2), 2, true), impl.OK)
	checkMark(t, ops, nil, marking{actor: 0, place: 1, size: 1, kind: 2}, mark(10, 0, stamp(4, 2), stamp(4, 2), 2, false), impl.OK)
	checkMark(t, ops, nil, marking{actor: 0, size: 2, kind: 2}, mark(10, 0, stamp(2, 2), stamp(4, 2), 2, false), impl.OK)
	checkMark(t, ops, nil, marking{size: 3, kind: 2}, impl.MarkOp{}, impl.ErrRange)
	checkMark(t, ops, nil, marking{place: 2, size: 1, kind: 2}, impl.MarkOp{}, impl.ErrRange)
}

func TestP7WrongMarkings(t *testing.T) {
	ops := append(lined(4, 2), del(9, 9, stamp(2, 2)))
	good := marking{actor: 1, place: 1, size: 2, kind: 3, on: true}
	with := func(change func(m *marking)) marking {
		m := good
		change(&m)
		return m
	}
	checkMarking(t, ops, nil, good)
	checkMarking(t, ops, nil, with(func(m *marking) { m.place, m.size = 0, 3 }))
	var wrong []marking
	for _, actor := range []int{-1, 16, math.MinInt, math.MaxInt} {
		wrong = append(wrong, with(func(m *marking) { m.actor = actor }))
	}
	for _, kind := range []int{-1, 0, 9, math.MinInt, math.MaxInt, 1<<32 + 3} {
		wrong = append(wrong, with(func(m *marking) { m.kind = kind }))
	}
	for _, piece := range [][2]int{
		{0, 0}, {1, 0}, {3, 0}, {3, 1}, {2, 2}, {1, 3}, {0, 4}, {4, 1}, {-1, 1}, {-1, 2}, {-2, 3}, {1, -1}, {3, -1}, {4, -1}, {0, math.MinInt},
		{0, math.MaxInt}, {1, math.MaxInt}, {2, math.MaxInt}, {math.MaxInt, 1}, {math.MaxInt, 2}, {math.MaxInt, math.MaxInt},
		{math.MinInt, 1}, {math.MinInt, math.MinInt}, {math.MinInt, math.MaxInt}, {math.MaxInt, math.MinInt},
	} {
		wrong = append(wrong, with(func(m *marking) { m.place, m.size = piece[0], piece[1] }))
	}
	for _, m := range wrong {
		checkMark(t, ops, nil, m, impl.MarkOp{}, impl.ErrRange)
		m.on = false
		checkMark(t, ops, []impl.MarkOp{mark(10, 0, stamp(1, 2), stamp(4, 2), 3, true)}, m, impl.MarkOp{}, impl.ErrRange)
		// Where no stamp is left, the range is asked first.
		checkMark(t, ops, []impl.MarkOp{mark(impl.MaxTime, 15, stamp(1, 2), stamp(4, 2), 3, true)}, m, impl.MarkOp{}, impl.ErrRange)
	}
	for _, ops := range [][]impl.LOp{nil, {ins(1, 0, start(), 'a'), del(2, 0, stamp(1, 0))}} {
		checkMark(t, ops, nil, marking{size: 1, kind: 1}, impl.MarkOp{}, impl.ErrRange)
		checkMark(t, ops, nil, marking{size: 0, kind: 1}, impl.MarkOp{}, impl.ErrRange)
	}
}

// Every actor and every Kind there is, and the ones beside.
func TestP7ActorsAndKinds(t *testing.T) {
	ops := lined(2, 5)
	for actor := -2; actor < 19; actor++ {
		for kind := -2; kind < 12; kind++ {
			m := marking{actor: actor, size: 2, kind: kind, on: true}
			if actor >= 0 && actor <= 15 && kind >= 1 && kind <= 8 {
				checkMarking(t, ops, nil, m)
			} else {
				checkMark(t, ops, nil, m, impl.MarkOp{}, impl.ErrRange)
			}
		}
	}
}

// The Id is above all of the list's and of the marks', whichever has the greatest, and the least such.
func TestP7IdsOfMarks(t *testing.T) {
	list := func(time, actor int) []impl.LOp {
		return []impl.LOp{ins(1, 0, start(), 'a'), del(time, actor, stamp(1, 0)), ins(1, 1, start(), 'b')}
	}
	marks := func(time, actor int) []impl.MarkOp {
		a := stamp(1, 0)
		return []impl.MarkOp{mark(time, actor, a, a, 2, true), mark(1, 0, a, a, 3, true), mark(time, actor, a, a, 2, true)}
	}
	last := impl.MaxTime
	for _, c := range []struct {
		ops   []impl.LOp
		marks []impl.MarkOp
		actor int
		want  impl.Stamp
	}{
		{list(4, 4), marks(9, 4), 5, stamp(9, 5)}, {list(4, 4), marks(9, 4), 4, stamp(10, 4)}, {list(4, 4), marks(9, 4), 3, stamp(10, 3)},
		{list(9, 4), marks(4, 4), 5, stamp(9, 5)}, {list(9, 4), marks(4, 4), 4, stamp(10, 4)}, {list(9, 4), marks(4, 4), 0, stamp(10, 0)},
		{list(9, 4), marks(9, 6), 5, stamp(10, 5)}, {list(9, 6), marks(9, 4), 5, stamp(10, 5)}, {list(9, 4), marks(9, 4), 5, stamp(9, 5)},
		{list(9, 4), nil, 4, stamp(10, 4)}, {list(9, 4), nil, 15, stamp(9, 15)},
		{list(4, 4), marks(last-1, 15), 15, stamp(last, 15)}, {list(last-1, 15), marks(4, 4), 0, stamp(last, 0)}, {list(last, 3), marks(4, 4), 4, stamp(last, 4)},
		{list(4, 4), marks(last, 3), 4, stamp(last, 4)}, {list(last, 14), marks(last, 13), 15, stamp(last, 15)},
		{list(4, 4), marks(last, 3), 3, start()}, {list(last, 3), marks(4, 4), 3, start()}, {list(last, 3), nil, 0, start()}, {list(4, 4), marks(last, 15), 15, start()},
		{list(last, 15), marks(last, 15), 15, start()}, {list(last, 2), marks(last, 9), 5, start()}, {list(last, 9), marks(last, 2), 5, start()},
	} {
		m := marking{actor: c.actor, size: 1, kind: 1, on: true}
		if c.want == start() {
			checkMark(t, c.ops, c.marks, m, impl.MarkOp{}, impl.ErrMany)
			continue
		}
		checkMark(t, c.ops, c.marks, m, mark(c.want.Time, c.want.Actor, stamp(1, 1), stamp(1, 1), 1, true), impl.OK)
		checkMarking(t, c.ops, c.marks, m)
	}
}
