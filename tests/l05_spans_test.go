package tests

import (
	"math/rand"
	"slices"
	"strings"
	"testing"

	"loop.example/g00028/impl"
)

func TestP7NothingAtAll(t *testing.T) {
	for _, ops := range [][]impl.LOp{nil, {}} {
		for _, marks := range [][]impl.MarkOp{nil, {}} {
			checkSpans(t, "nothing", ops, marks)
		}
	}
	checkSpans(t, "no marks", lined(5, 3), nil, span("abcde"))
	checkSpans(t, "no marks", lined(5, 3), []impl.MarkOp{}, span("abcde"))
	// Nothing is seen, so there is no span, whatever was marked.
	gone := []impl.LOp{ins(1, 0, start(), 'a'), del(2, 0, stamp(1, 0))}
	checkSpans(t, "all gone", gone, nil)
	checkSpans(t, "all gone", gone, []impl.MarkOp{mark(1, 0, stamp(1, 0), stamp(1, 0), 1, true)})
}

// The words of the document, one by one, over the characters abcdef of actor 0 with the Times 1 to 6.
func TestP7Spans(t *testing.T) {
	ops := lined(6, 0)
	on := func(time, from, to, kind int) impl.MarkOp {
		return mark(time, 0, stamp(from, 0), stamp(to, 0), kind, true)
	}
	off := func(time, from, to, kind int) impl.MarkOp {
		return mark(time, 0, stamp(from, 0), stamp(to, 0), kind, false)
	}
	for _, c := range []struct {
		what  string
		marks []impl.MarkOp
		want  []impl.Span
	}{
		{"one character", []impl.MarkOp{on(7, 3, 3, 5)}, []impl.Span{span("ab"), span("c", 5), span("def")}},
		{"the first one", []impl.MarkOp{on(7, 1, 1, 1)}, []impl.Span{span("a", 1), span("bcdef")}},
		{"the last one", []impl.MarkOp{on(7, 6, 6, 8)}, []impl.Span{span("abcde"), span("f", 8)}},
		{"all", []impl.MarkOp{on(7, 1, 6, 8)}, []impl.Span{span("abcdef", 8)}},
		{"both ends with it", []impl.MarkOp{on(7, 2, 5, 2)}, []impl.Span{span("a"), span("bcde", 2), span("f")}},
		{"To ahead of From", []impl.MarkOp{on(7, 5, 2, 2)}, []impl.Span{span("abcdef")}},
		{"To right ahead of From", []impl.MarkOp{on(7, 3, 2, 2)}, []impl.Span{span("abcdef")}},
		{"To ahead of From takes nothing off", []impl.MarkOp{on(7, 1, 6, 2), off(8, 4, 3, 2)}, []impl.Span{span("abcdef", 2)}},
		{"off alone", []impl.MarkOp{off(7, 2, 5, 2)}, []impl.Span{span("abcdef")}},
		{"off in the middle", []impl.MarkOp{on(7, 1, 6, 2), off(8, 3, 4, 2)}, []impl.Span{span("ab", 2), span("cd"), span("ef", 2)}},
		{"on again within off", []impl.MarkOp{on(7, 1, 6, 2), off(8, 2, 5, 2), on(9, 3, 3, 2)}, []impl.Span{span("a", 2), span("b"), span("c", 2), span("de"), span("f", 2)}},
		{"a lesser off", []impl.MarkOp{on(8, 1, 6, 2), off(7, 3, 4, 2)}, []impl.Span{span("abcdef", 2)}},
		{"off of another Kind", []impl.MarkOp{on(7, 1, 6, 2), off(8, 3, 4, 3)}, []impl.Span{span("abcdef", 2)}},
		{"Kinds rise", []impl.MarkOp{on(7, 1, 4, 8), on(8, 2, 5, 1), on(9, 3, 6, 4)}, []impl.Span{span("a", 8), span("b", 1, 8), span("cd", 1, 4, 8), span("e", 1, 4), span("f", 4)}},
		{"neighbours by unlike operations", []impl.MarkOp{on(7, 1, 2, 3), on(8, 3, 3, 3), on(9, 4, 6, 3)}, []impl.Span{span("abcdef", 3)}},
		{"neighbours, one of them off", []impl.MarkOp{on(7, 2, 3, 3), off(8, 4, 5, 3)}, []impl.Span{span("a"), span("bc", 3), span("def")}},
		{"neighbours with two Kinds", []impl.MarkOp{on(7, 1, 3, 3), on(8, 1, 6, 6), on(9, 4, 6, 3)}, []impl.Span{span("abcdef", 3, 6)}},
		{"neighbours of unlike Kinds", []impl.MarkOp{on(7, 1, 3, 3), on(8, 4, 6, 6)}, []impl.Span{span("abc", 3), span("def", 6)}},
		{"an Id that a character has", []impl.MarkOp{on(1, 2, 3, 3), off(2, 3, 3, 3)}, []impl.Span{span("a"), span("b", 3), span("cdef")}},
		{"an Id below those of its ends", []impl.MarkOp{on(1, 5, 6, 3)}, []impl.Span{span("abcd"), span("ef", 3)}},
	} {
		everyOrder(c.marks, func(marks []impl.MarkOp) {
			checkSpans(t, c.what, ops, marks, c.want...)
			checkSpans(t, c.what+", all twice", slices.Concat(ops, ops), slices.Concat(marks, marks), c.want...)
		})
		checkRich(t, ops, c.marks)
	}
}

// All Kinds on one character, and each one taken off again.
func TestP7EveryKind(t *testing.T) {
	ops := lined(3, 2)
	var marks []impl.MarkOp
	for kind := 8; kind >= 1; kind-- {
		marks = append(marks, mark(10-kind, 1, stamp(2, 2), stamp(2, 2), kind, true))
	}
	checkSpans(t, "all Kinds", ops, marks, span("a"), span("b", 1, 2, 3, 4, 5, 6, 7, 8), span("c"))
	for kind := 1; kind <= 8; kind++ {
		with := append(slices.Clone(marks), mark(20, 0, stamp(1, 2), stamp(3, 2), kind, false))
		left := slices.DeleteFunc([]int{1, 2, 3, 4, 5, 6, 7, 8}, func(k int) bool { return k == kind })
		checkSpans(t, "one off", ops, with, span("a"), span("b", left...), span("c"))
	}
}

// On and off of one Kind over one another, over all pieces of four characters, with their Ids in every order.
func TestP7OnAndOffOverOneAnother(t *testing.T) {
	ops := lined(4, 1)
	ids := []impl.Stamp{stamp(2, 15), stamp(3, 0), stamp(3, 1)}
	piece := func(n int) (impl.Stamp, impl.Stamp) { return stamp(n/4+1, 1), stamp(n%4+1, 1) }
	for pieces := range 16 * 16 * 16 {
		for states := range 8 {
			var marks []impl.MarkOp
			for i := range 3 {
				from, to := piece(pieces >> (4 * i) % 16)
				marks = append(marks, impl.MarkOp{From: from, To: to, Kind: 4, On: states>>i%2 == 1})
			}
			everyOrder(ids, func(order []impl.Stamp) {
				for i := range marks {
					marks[i].Id = order[i]
				}
				checkSpans(t, "over one another", ops, marks, spansOf(ops, marks)...)
			})
		}
	}
}

// Marks whose first or last character, or all characters, were taken away; over all pieces of lists with all that can
// be gone.
func TestP7EndsTakenAway(t *testing.T) {
	for _, ops := range lists() {
		ids := idsOf(row(ops))
		for i, from := range ids {
			for j, to := range ids {
				one := mark(3, 3, from, to, 7, true)
				checkRich(t, ops, []impl.MarkOp{one})
				other := mark(4, 0, ids[(i+j)%len(ids)], ids[j], 7, i%2 == 0)
				checkRich(t, ops, []impl.MarkOp{other, one})
			}
		}
	}
	ops := lined(5, 0)
	marks := []impl.MarkOp{mark(6, 0, stamp(2, 0), stamp(4, 0), 3, true)}
	goes := func(times ...int) []impl.LOp {
		list := slices.Clone(ops)
		for _, time := range times {
			list = append(list, del(10+time, 2, stamp(time, 0)))
		}
		return list
	}
	checkSpans(t, "the first one gone", goes(2), marks, span("a"), span("cd", 3), span("e"))
	checkSpans(t, "the last one gone", goes(4), marks, span("a"), span("bc", 3), span("e"))
	checkSpans(t, "both gone", goes(2, 4), marks, span("a"), span("c", 3), span("e"))
	checkSpans(t, "all of it gone", goes(2, 3, 4), marks, span("ae"))
	// What is typed where all of it was is within it or not by its place in the order.
	typed := append(goes(2, 3, 4), ins(20, 1, stamp(3, 0), 'X'), ins(21, 1, stamp(4, 0), 'Y'), ins(22, 1, stamp(1, 0), 'Z'))
	checkSpans(t, "typed where it was", typed, marks, span("aZ"), span("X", 3), span("Ye"))
}

// Characters typed within a mark are marked; those at its beginning and at its end are not.
func TestP7TypedAboutAMark(t *testing.T) {
	ops := lined(5, 0)
	marks := []impl.MarkOp{mark(6, 0, stamp(2, 0), stamp(4, 0), 3, true)}
	for place, want := range [][]impl.Span{
		{span("XYa"), span("bcd", 3), span("e")},
		{span("aXY"), span("bcd", 3), span("e")},
		{span("a"), span("bXYcd", 3), span("e")},
		{span("a"), span("bcXYd", 3), span("e")},
		{span("a"), span("bcd", 3), span("XYe")},
		{span("a"), span("bcd", 3), span("eXY")},
	} {
		checkSpans(t, "typed", edited(t, ops, edit{actor: 1, place: place, text: "XY"}), marks, want...)
	}
	// In the place of an end that goes at the same time.
	checkSpans(t, "in the place of the first one", edited(t, ops, edit{actor: 1, place: 1, gone: 1, text: "X"}), marks, span("aX"), span("cd", 3), span("e"))
	checkSpans(t, "in the place of the last one", edited(t, ops, edit{actor: 1, place: 3, gone: 1, text: "X"}), marks, span("a"), span("bcX", 3), span("e"))
}

// Which of two characters that were put behind the same one stands ahead hangs on their Ids: so does it whether a mark
// from the one to the other holds anything.
func TestP7EndsThatOthersPut(t *testing.T) {
	for _, c := range []struct {
		x, y impl.Stamp
		held bool
	}{
		{stamp(2, 2), stamp(2, 1), true}, {stamp(2, 1), stamp(2, 2), false}, {stamp(3, 0), stamp(2, 9), true}, {stamp(2, 9), stamp(3, 0), false},
	} {
		x, y := ins(c.x.Time, c.x.Actor, stamp(1, 0), 'x'), ins(c.y.Time, c.y.Actor, stamp(1, 0), 'y')
		ops := []impl.LOp{ins(1, 0, start(), 'a'), x, y, ins(9, 0, c.x, 'b')}
		marks := []impl.MarkOp{mark(4, 4, c.x, c.y, 2, true)}
		everyOrder(ops, func(ops []impl.LOp) {
			if c.held {
				checkSpans(t, "From ahead", ops, marks, span("a"), span("xby", 2))
			} else {
				checkSpans(t, "To ahead", ops, marks, span("ayxb"))
			}
		})
		// What else is put between both does not bring them about.
		more := append(slices.Clone(ops), ins(12, 0, stamp(1, 0), 'c'), ins(13, 0, c.y, 'd'), del(14, 0, c.x), del(15, 0, c.y))
		checkRich(t, more, marks)
		checkRich(t, more, append(marks, mark(5, 5, c.y, c.x, 2, false)))
	}
}

func TestP7AnyMarks(t *testing.T) {
	random := rand.New(rand.NewSource(12))
	for range 4000 {
		ops := anyList(random, random.Intn(12))
		marks := anyMarks(random, ops, random.Intn(7))
		checkRich(t, ops, marks)
		want := spansOf(ops, marks)
		checkSpans(t, "in another order", mixed(random, ops), slices.Concat(marks, marks), want...)
	}
	for range 4 {
		ops := anyList(random, 60)
		checkRich(t, ops, anyMarks(random, ops, 60))
	}
}

// The spans together are the text, no two neighbours have the same marks, none is empty.
func TestP7SpansAreTheText(t *testing.T) {
	random := rand.New(rand.NewSource(13))
	for range 1500 {
		ops := edited(t, nil, edit{actor: 3, text: "a\u00e9\U0001f600\x00\ufffd \u20acz"})
		for range random.Intn(5) {
			size := len([]rune(listText(t, ops)))
			e := edit{actor: random.Intn(16), place: random.Intn(size + 1), text: []string{"", "\u00e9\u00e9", "b"}[random.Intn(3)]}
			e.gone = random.Intn(size - e.place + 1)
			ops = edited(t, ops, e)
		}
		spans, code := impl.RichSpans(ops, anyMarks(random, ops, random.Intn(9)))
		wantCode(t, "RichSpans", code, impl.OK)
		var text strings.Builder
		for i, s := range spans {
			text.WriteString(s.Text)
			if s.Text == "" || i > 0 && slices.Equal(s.Kinds, spans[i-1].Kinds) {
				t.Errorf("not the longest runs: %s", brief(spans))
			}
		}
		checkText(t, "the spans together", ops, text.String())
	}
}
