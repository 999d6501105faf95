package tests

import (
	"math/rand"
	"slices"
	"testing"

	"loop.example/g00028/impl"
)

func mark(time, actor int, from, to impl.Stamp, kind int, on bool) impl.MarkOp {
	return impl.MarkOp{Id: stamp(time, actor), From: from, To: to, Kind: kind, On: on}
}

func span(text string, kinds ...int) impl.Span {
	return impl.Span{Text: text, Kinds: kinds}
}

func sameSpans(a, b []impl.Span) bool {
	return slices.EqualFunc(a, b, func(x, y impl.Span) bool { return x.Text == y.Text && slices.Equal(x.Kinds, y.Kinds) })
}

// copySpans shares no memory with the spans.
func copySpans(spans []impl.Span) []impl.Span {
	var list []impl.Span
	for _, s := range spans {
		list = append(list, span(s.Text, slices.Clone(s.Kinds)...))
	}
	return list
}

func validMark(m impl.MarkOp) bool {
	return impl.StampOK(m.Id) && impl.StampOK(m.From) && impl.StampOK(m.To) && m.Kind >= 1 && m.Kind <= 8
}

// richCode looks for the faults in their order, each by holding all against all.
func richCode(ops []impl.LOp, marks []impl.MarkOp) int {
	if len(marks) > 2048 {
		return impl.ErrLong
	}
	if code := listCode(ops); code != impl.OK {
		return code
	}
	if slices.ContainsFunc(marks, func(m impl.MarkOp) bool { return !validMark(m) }) {
		return impl.ErrBad
	}
	for _, one := range marks {
		if slices.ContainsFunc(marks, func(other impl.MarkOp) bool { return other.Id == one.Id && other != one }) {
			return impl.ErrFork
		}
	}
	for _, m := range marks {
		if placeIn(row(ops), m.From) < 0 || placeIn(row(ops), m.To) < 0 {
			return impl.ErrCause
		}
	}
	return impl.OK
}

// placeIn tells where a character stands in a plain row, -1 if it is not there.
func placeIn(all []placed, id impl.Stamp) int {
	return slices.IndexFunc(all, func(p placed) bool { return p.id == id })
}

// kindsAt asks all marks about one place of a plain row: of each Kind the one with the greatest Id that holds it counts.
func kindsAt(all []placed, marks []impl.MarkOp, place int) []int {
	var kinds []int
	for kind := 1; kind <= 8; kind++ {
		var counts impl.MarkOp
		for _, m := range marks {
			holds := placeIn(all, m.From) <= place && place <= placeIn(all, m.To)
			if m.Kind == kind && holds && impl.StampLess(counts.Id, m.Id) {
				counts = m
			}
		}
		if counts.On {
			kinds = append(kinds, kind)
		}
	}
	return kinds
}

// spansOf goes along a plain row and begins a span wherever the marks become others.
func spansOf(ops []impl.LOp, marks []impl.MarkOp) []impl.Span {
	all := row(ops)
	var spans []impl.Span
	for place, p := range all {
		if p.gone {
			continue
		}
		kinds := kindsAt(all, marks, place)
		if n := len(spans); n > 0 && slices.Equal(spans[n-1].Kinds, kinds) {
			spans[n-1].Text += string(p.char)
		} else {
			spans = append(spans, span(string(p.char), kinds...))
		}
	}
	return spans
}

func checkSpans(t *testing.T, what string, ops []impl.LOp, marks []impl.MarkOp, want ...impl.Span) {
	t.Helper()
	if spans, code := impl.RichSpans(ops, marks); code != impl.OK || !sameSpans(spans, want) {
		t.Errorf("%s: RichSpans of %s with %s: %s, code %d, want %s", what, brief(ops), brief(marks), brief(spans), code, brief(want))
	}
}

// checkRich holds what the program tells of marked text against the plain row.
func checkRich(t *testing.T, ops []impl.LOp, marks []impl.MarkOp) {
	t.Helper()
	if code := richCode(ops, marks); code != impl.OK {
		checkNoRich(t, ops, marks, code)
		return
	}
	checkSpans(t, "marked", ops, marks, spansOf(ops, marks)...)
}

// A marking is what MarkText is handed beside the operations.
type marking struct {
	actor, place, size, kind int
	on                       bool
}

func (m marking) of(ops []impl.LOp, marks []impl.MarkOp) (impl.MarkOp, int) {
	return impl.MarkText(ops, marks, m.actor, m.place, m.size, m.kind, m.on)
}

func checkMark(t *testing.T, ops []impl.LOp, marks []impl.MarkOp, m marking, want impl.MarkOp, wantCode int) {
	t.Helper()
	if got, code := m.of(ops, marks); got != want || code != wantCode {
		t.Errorf("MarkText %v of %s with %s: %v, code %d, want %v, code %d", m, brief(ops), brief(marks), got, code, want, wantCode)
	}
}

// markOf writes down what the document says of a marking that has no fault.
func markOf(t *testing.T, ops []impl.LOp, marks []impl.MarkOp, m marking) impl.MarkOp {
	t.Helper()
	var ids []impl.Stamp
	for _, op := range ops {
		ids = append(ids, op.Id)
	}
	for _, other := range marks {
		ids = append(ids, other.Id)
	}
	id, code := impl.StampNext(ids, m.actor)
	wantCode(t, "StampNext", code, impl.OK)
	seen := seenOf(row(ops))
	return impl.MarkOp{Id: id, From: seen[m.place].id, To: seen[m.place+m.size-1].id, Kind: m.kind, On: m.on}
}

// marked gives the marks with one more behind them.
func marked(t *testing.T, ops []impl.LOp, marks []impl.MarkOp, m marking) []impl.MarkOp {
	t.Helper()
	more, code := m.of(ops, marks)
	if code != impl.OK {
		t.Fatalf("MarkText %v: code %d", m, code)
	}
	return slices.Concat(marks, []impl.MarkOp{more})
}

// checkNoRich checks that every call with marks answers this code and nothing else.
func checkNoRich(t *testing.T, ops []impl.LOp, marks []impl.MarkOp, want int) {
	t.Helper()
	spans, code := impl.RichSpans(ops, marks)
	wantCode(t, "RichSpans", code, want)
	zeroWithCode(t, spans, code)
	// What is said of a marking comes behind the codes of the chapter.
	checkMark(t, ops, marks, marking{size: 1, kind: 1}, impl.MarkOp{}, want)
	checkMark(t, ops, marks, marking{actor: 16, place: -1, size: 0, kind: 9, on: true}, impl.MarkOp{}, want)
}

func checkFollow(t *testing.T, ops []impl.LOp, id impl.Stamp, want, wantCode int) {
	t.Helper()
	if n, code := impl.Follow(ops, id); n != want || code != wantCode {
		t.Errorf("Follow of %s, %v: %d, code %d, want %d, code %d", brief(ops), id, n, code, want, wantCode)
	}
}

// anyMarks gives valid marks upon some of the characters, in any order and some of them twice.
func anyMarks(random *rand.Rand, ops []impl.LOp, size int) []impl.MarkOp {
	ids := idsOf(row(ops))
	if len(ids) == 0 {
		return nil
	}
	var marks []impl.MarkOp
	for i := range size {
		from, to := ids[random.Intn(len(ids))], ids[random.Intn(len(ids))]
		marks = append(marks, mark(1+i/3, i%3, from, to, 1+random.Intn(8)*random.Intn(2), random.Intn(3) > 0))
	}
	for range random.Intn(3) {
		if len(marks) > 0 {
			marks = append(marks, marks[random.Intn(len(marks))])
		}
	}
	random.Shuffle(len(marks), func(i, j int) { marks[i], marks[j] = marks[j], marks[i] })
	return marks
}

// charKinds tells the marks of each character that is seen, by what the spans say.
func charKinds(t *testing.T, ops []impl.LOp, marks []impl.MarkOp) map[impl.Stamp][]int {
	t.Helper()
	spans, code := impl.RichSpans(ops, marks)
	wantCode(t, "RichSpans", code, impl.OK)
	var list [][]int
	for _, s := range spans {
		for range s.Text {
			list = append(list, s.Kinds)
		}
	}
	seen := seenOf(row(ops))
	if len(list) != len(seen) {
		t.Fatalf("the spans %s have %d characters, %d are seen", brief(spans), len(list), len(seen))
	}
	kinds := map[impl.Stamp][]int{}
	for i, p := range seen {
		kinds[p.id] = list[i]
	}
	return kinds
}
