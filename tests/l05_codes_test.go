package tests

import (
	"math"
	"slices"
	"testing"

	"loop.example/g00028/impl"
)

func goodMark() impl.MarkOp { return mark(5, 1, stamp(1, 0), stamp(2, 1), 1, true) }

// markWith is a good mark, changed.
func markWith(change func(m *impl.MarkOp)) impl.MarkOp {
	m := goodMark()
	change(&m)
	return m
}

func notStamps() []impl.Stamp {
	return []impl.Stamp{
		{}, stamp(0, 1), stamp(0, -1), stamp(-1, 0), stamp(impl.MaxTime+1, 0), stamp(1, 16), stamp(1, -1),
		stamp(math.MaxInt, math.MaxInt), stamp(math.MinInt, math.MinInt),
	}
}

// wrongMarks are marks of which each has one fault by itself.
func wrongMarks() []impl.MarkOp {
	list := []impl.MarkOp{{}}
	for _, s := range notStamps() {
		list = append(list,
			markWith(func(m *impl.MarkOp) { m.Id = s }),
			markWith(func(m *impl.MarkOp) { m.From = s }),
			markWith(func(m *impl.MarkOp) { m.To = s }))
	}
	for _, kind := range []int{0, 9, -1, math.MinInt, math.MaxInt, 1 << 32, 1<<32 + 1} {
		list = append(list, markWith(func(m *impl.MarkOp) { m.Kind = kind }))
	}
	return list
}

func TestP7WrongMarks(t *testing.T) {
	for _, wrong := range wrongMarks() {
		for _, m := range []impl.MarkOp{wrong, markWith(func(m *impl.MarkOp) { *m = wrong; m.On = !m.On })} {
			checkNoRich(t, goodOps(), []impl.MarkOp{m}, impl.ErrBad)
			checkNoRich(t, goodOps(), []impl.MarkOp{goodMark(), m}, impl.ErrBad)
			checkNoRich(t, goodOps(), []impl.MarkOp{m, goodMark()}, impl.ErrBad)
			checkNoRich(t, nil, []impl.MarkOp{m}, impl.ErrBad)
		}
	}
}

// The last of what is still valid.
func TestP7ValidMarks(t *testing.T) {
	last := stamp(impl.MaxTime, 15)
	ops := []impl.LOp{ins(1, 0, start(), 'a'), ins(impl.MaxTime, 15, stamp(1, 0), 'b')}
	for _, m := range []impl.MarkOp{
		mark(1, 0, stamp(1, 0), stamp(1, 0), 1, true), mark(impl.MaxTime, 15, stamp(1, 0), last, 8, true),
		mark(1, 15, last, last, 8, true), mark(impl.MaxTime, 0, last, stamp(1, 0), 1, false),
	} {
		wantCode(t, "the last that is valid", richCode(ops, []impl.MarkOp{m}), impl.OK)
		checkRich(t, ops, []impl.MarkOp{m})
	}
}

func TestP7MarkForks(t *testing.T) {
	for name, twin := range map[string]impl.MarkOp{
		"another From": markWith(func(m *impl.MarkOp) { m.From = stamp(2, 1) }),
		"another To":   markWith(func(m *impl.MarkOp) { m.To = stamp(1, 0) }),
		"another Kind": markWith(func(m *impl.MarkOp) { m.Kind = 2 }),
		"off":          markWith(func(m *impl.MarkOp) { m.On = false }),
	} {
		t.Run(name, func(t *testing.T) {
			later := mark(6, 0, stamp(1, 0), stamp(1, 0), 1, true)
			everyOrder([]impl.MarkOp{goodMark(), twin, later}, func(marks []impl.MarkOp) { checkNoRich(t, goodOps(), marks, impl.ErrFork) })
			everyOrder([]impl.MarkOp{goodMark(), twin, goodMark(), twin}, func(marks []impl.MarkOp) { checkNoRich(t, goodOps(), marks, impl.ErrFork) })
		})
	}
	alike := []impl.MarkOp{goodMark(), goodMark(), goodMark()}
	checkSpans(t, "alike", goodOps(), alike, span("a", 1))
	// Marks are held against each other alone: an operation of the list may have the same Id.
	for _, id := range []impl.Stamp{stamp(1, 0), stamp(2, 1), stamp(3, 0)} {
		checkSpans(t, "an Id of the list", goodOps(), []impl.MarkOp{markWith(func(m *impl.MarkOp) { m.Id = id })}, span("a", 1))
	}
}

// An end is the Id of a character, not of a taking away, and not of nothing.
func TestP7MarkCauses(t *testing.T) {
	for _, id := range []impl.Stamp{stamp(3, 0), stamp(1, 1), stamp(2, 0), stamp(5, 1), stamp(impl.MaxTime, 15)} {
		for _, m := range []impl.MarkOp{
			markWith(func(m *impl.MarkOp) { m.From = id }),
			markWith(func(m *impl.MarkOp) { m.To = id }),
			markWith(func(m *impl.MarkOp) { m.From, m.To = id, id }),
		} {
			checkNoRich(t, goodOps(), []impl.MarkOp{m}, impl.ErrCause)
			other := mark(6, 6, stamp(1, 0), stamp(2, 1), 2, true)
			everyOrder([]impl.MarkOp{m, other}, func(marks []impl.MarkOp) { checkNoRich(t, goodOps(), marks, impl.ErrCause) })
		}
	}
	checkNoRich(t, nil, []impl.MarkOp{goodMark()}, impl.ErrCause)
	// A mark that has no effect stands upon its ends all the same.
	checkNoRich(t, goodOps(), []impl.MarkOp{markWith(func(m *impl.MarkOp) { m.From, m.On = stamp(9, 9), false })}, impl.ErrCause)
	// The Id of a mark is no character either.
	checkNoRich(t, goodOps(), []impl.MarkOp{goodMark(), mark(6, 0, stamp(5, 1), stamp(5, 1), 1, true)}, impl.ErrCause)
}

func markFaults() map[int][]impl.MarkOp {
	return map[int][]impl.MarkOp{
		impl.ErrBad:   {markWith(func(m *impl.MarkOp) { m.Kind = 9 })},
		impl.ErrFork:  {mark(8, 0, stamp(1, 0), stamp(1, 0), 1, true), mark(8, 0, stamp(1, 0), stamp(1, 0), 1, false)},
		impl.ErrCause: {mark(9, 0, stamp(1, 0), stamp(7, 7), 1, true)},
	}
}

func opFaults() map[int][]impl.LOp {
	return map[int][]impl.LOp{
		impl.ErrBad:   append(goodOps(), impl.LOp{}),
		impl.ErrFork:  append(goodOps(), ins(8, 0, start(), 'a'), ins(8, 0, start(), 'b')),
		impl.ErrCause: append(goodOps(), ins(9, 0, stamp(7, 7), 'a')),
	}
}

// Two faults at once: the list goes ahead of the marks, and ErrLong of both ahead of all.
func TestP7OrderOfCodes(t *testing.T) {
	longOps := slices.Repeat(goodOps()[:1], impl.MaxOps+1)
	longMarks := slices.Repeat([]impl.MarkOp{goodMark()}, impl.MaxOps+1)
	for code, ops := range opFaults() {
		checkNoRich(t, ops, nil, code)
		checkNoRich(t, ops, []impl.MarkOp{goodMark()}, code)
		checkNoRich(t, ops, longMarks, impl.ErrLong)
		for _, marks := range markFaults() {
			checkNoRich(t, ops, marks, code)
		}
	}
	for code, marks := range markFaults() {
		checkNoRich(t, goodOps(), marks, code)
		checkNoRich(t, longOps, marks, impl.ErrLong)
		checkNoRich(t, goodOps(), append(slices.Clone(longMarks), marks...), impl.ErrLong)
	}
	checkNoRich(t, longOps, longMarks, impl.ErrLong)
	checkNoRich(t, longOps, nil, impl.ErrLong)
	order := []int{impl.ErrBad, impl.ErrFork, impl.ErrCause}
	for i, first := range order {
		for _, second := range order[i+1:] {
			both := slices.Concat(markFaults()[first], markFaults()[second])
			everyOrder(both, func(marks []impl.MarkOp) { checkNoRich(t, goodOps(), marks, first) })
		}
	}
}

func TestP7Limit(t *testing.T) {
	ops := lined(impl.MaxOps, 4)
	var marks []impl.MarkOp
	var want []impl.Span
	for i, op := range ops {
		marks = append(marks, mark(i+1, 2, op.Id, op.Id, i%8+1, true))
		want = append(want, span(string(rune(op.Char)), i%8+1))
	}
	checkSpans(t, "just MaxOps of both", ops, marks, want...)
	slices.Reverse(marks)
	checkSpans(t, "just MaxOps of both, the last first", ops, marks, want...)
	checkMark(t, ops, marks, marking{actor: 1, size: impl.MaxOps, kind: 1}, mark(impl.MaxOps+1, 1, ops[0].Id, ops[impl.MaxOps-1].Id, 1, false), impl.OK)
	checkNoRich(t, ops, append(slices.Clone(marks), marks[7]), impl.ErrLong)
	checkNoRich(t, append(slices.Clone(ops), ops[7]), marks, impl.ErrLong)
	checkNoRich(t, lined(impl.MaxOps+1, 4), nil, impl.ErrLong)
	checkNoRich(t, nil, make([]impl.MarkOp, impl.MaxOps+1), impl.ErrLong)
	// Marks over all of it, one upon the other.
	for i := range marks {
		marks[i] = mark(i+1, 2, ops[0].Id, ops[impl.MaxOps-1].Id, i%8+1, i < impl.MaxOps-4)
	}
	checkSpans(t, "all over all", ops, marks, span(listText(t, ops), 1, 2, 3, 4))
	// Those that came twice are counted twice where the limit is asked for.
	half := marks[:impl.MaxOps/2]
	checkSpans(t, "all twice", ops, slices.Concat(half, half), span(listText(t, ops), 1, 2, 3, 4, 5, 6, 7, 8))
	checkNoRich(t, ops, slices.Concat(half, half, half[:1]), impl.ErrLong)
}

// All lists of three marks out of a pool with faults, upon lists with faults and without.
func TestP7EverySmallList(t *testing.T) {
	a, b, c := stamp(1, 0), stamp(2, 1), stamp(4, 0)
	pool := []impl.MarkOp{
		mark(5, 0, a, b, 1, true), mark(5, 1, b, c, 1, false), mark(6, 0, a, c, 1, true), mark(6, 0, a, c, 8, true),
		mark(4, 0, c, a, 1, true), mark(7, 0, b, b, 8, true), mark(7, 1, a, c, 8, false), mark(8, 0, a, stamp(3, 0), 1, true),
		mark(8, 1, stamp(9, 9), b, 2, true), mark(9, 0, a, b, 9, true), mark(9, 0, a, start(), 1, true),
	}
	oplists := [][]impl.LOp{
		nil, goodOps(), append(goodOps(), ins(4, 0, b, 'c')), append(goodOps(), ins(4, 0, a, 'c')),
		{ins(1, 0, start(), 'a'), ins(2, 1, a, 'b'), ins(4, 0, b, 'c'), del(9, 9, c)},
	}
	for _, ops := range opFaults() {
		oplists = append(oplists, ops)
	}
	codes := map[int]int{}
	everyList(pool, 3, func(marks []impl.MarkOp) {
		for _, ops := range oplists {
			checkRich(t, ops, marks)
			codes[richCode(ops, marks)]++
		}
	})
	for _, code := range []int{impl.OK, impl.ErrBad, impl.ErrFork, impl.ErrCause} {
		if codes[code] < 200 {
			t.Errorf("code %d came %d times", code, codes[code])
		}
	}
}
