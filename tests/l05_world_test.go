package tests

import (
	"math/rand"
	"slices"
	"strings"
	"testing"

	"loop.example/g00028/impl"
)

// A writer edits and marks a text, and hears of others what they did.
type writer struct {
	ops   []impl.LOp
	marks []impl.MarkOp
}

func (w *writer) size(t *testing.T) int {
	t.Helper()
	return len([]rune(listText(t, w.ops)))
}

// edits checks that all characters that stay keep their marks, and what is typed has those of the marks that it stands within.
func (w *writer) edits(t *testing.T, random *rand.Rand, actor int) {
	t.Helper()
	before := charKinds(t, w.ops, w.marks)
	e := edit{actor: actor, place: random.Intn(w.size(t) + 1), text: []string{"", "a", "\u00e9c", "def"}[random.Intn(4)]}
	e.gone = random.Intn(min(w.size(t)-e.place, 3) + 1)
	w.ops = edited(t, w.ops, e)
	for id, kinds := range charKinds(t, w.ops, w.marks) {
		if was, ok := before[id]; ok && !slices.Equal(was, kinds) {
			t.Errorf("an edit made of the marks %v of %v the marks %v", was, id, kinds)
		}
	}
}

func (w *writer) marksSome(t *testing.T, random *rand.Rand, actor int) {
	t.Helper()
	size := w.size(t)
	if size == 0 {
		return
	}
	m := marking{actor: actor, place: random.Intn(size), kind: 1 + random.Intn(3), on: random.Intn(3) > 0}
	m.size = 1 + random.Intn(size-m.place)
	checkMarking(t, w.ops, w.marks, m)
	w.marks = marked(t, w.ops, w.marks, m)
}

func (w *writer) hears(t *testing.T, other *writer) {
	t.Helper()
	w.ops = merged(t, w.ops, other.ops)
	for _, m := range other.marks {
		if !slices.Contains(w.marks, m) {
			w.marks = append(w.marks, m)
		}
	}
}

// Writers that type, mark and hear each other: all that have heard all see the same spans, each comment stands at its
// character, and what is told is what the plain row says.
func TestP7WritersInAWorld(t *testing.T) {
	for seed := range 30 {
		random := rand.New(rand.NewSource(int64(seed)))
		var writers [replicas]*writer
		for i := range replicas {
			writers[i] = &writer{}
		}
		for range 45 {
			i, other := random.Intn(replicas), random.Intn(replicas)
			switch random.Intn(4) {
			case 0:
				writers[i].hears(t, writers[other])
			case 1:
				writers[i].marksSome(t, random, actor(i))
			default:
				writers[i].edits(t, random, actor(i))
			}
		}
		all := &writer{}
		for _, w := range writers {
			all.hears(t, w)
		}
		want := spansOf(all.ops, all.marks)
		for _, w := range writers {
			for _, i := range random.Perm(replicas) {
				w.hears(t, writers[i])
			}
			checkSpans(t, "heard all", w.ops, w.marks, want...)
			checkFollows(t, w.ops)
		}
	}
}

// What others type at the same time does not move a mark: the characters that it was put upon have it, the others that
// were there have it not.
func TestP7MarkedWhileOthersType(t *testing.T) {
	base := edited(t, nil, edit{actor: 7, text: "abcdef"})
	for from := range 6 {
		for size := 1; size <= 6-from; size++ {
			for place := range 7 {
				for gone := range 7 - place {
					typed := edited(t, base, edit{actor: place, place: place, gone: gone, text: "XY"})
					marks := marked(t, base, nil, marking{actor: 3, place: from, size: size, kind: 6, on: true})
					both := merged(t, base, typed)
					kinds := charKinds(t, both, marks)
					for at, op := range base {
						if at >= place && at < place+gone {
							continue
						}
						if held := slices.Equal(kinds[op.Id], []int{6}); held != (at >= from && at < from+size) {
							t.Errorf("%d of a mark of %d from %d, typed at %d for %d: %v", at, size, from, place, gone, kinds[op.Id])
						}
					}
					checkRich(t, both, marks)
				}
			}
		}
	}
}

// Two that mark at the same time, one on and one off, come to the same on both sides: the greater Id counts.
func TestP7MarkedAtTheSameTime(t *testing.T) {
	base := edited(t, nil, edit{actor: 7, text: "abcd"})
	for _, one := range []int{0, 8} {
		for _, other := range []int{1, 15} {
			on := marked(t, base, nil, marking{actor: one, place: 0, size: 3, kind: 2, on: true})
			off := marked(t, base, nil, marking{actor: other, place: 1, size: 3, kind: 2, on: false})
			want := []impl.Span{span("abc", 2), span("d")}
			if impl.StampLess(on[0].Id, off[0].Id) {
				want = []impl.Span{span("a", 2), span("bcd")}
			}
			checkSpans(t, "on, off", base, slices.Concat(on, off), want...)
			checkSpans(t, "off, on", base, slices.Concat(off, on), want...)
		}
	}
}

// Typed by the character within a mark, all of it is marked and is one span.
func TestP7TypedOnAndOn(t *testing.T) {
	ops := edited(t, nil, edit{actor: 2, text: "<>"})
	marks := marked(t, ops, nil, marking{actor: 2, size: 2, kind: 4, on: true})
	for i := range 60 {
		ops = edited(t, ops, edit{actor: i % 16, place: 1 + i, text: "x"})
	}
	ops = edited(t, ops, edit{actor: 1, place: 0, text: "("})
	ops = edited(t, ops, edit{actor: 1, place: 63, text: ")"})
	checkSpans(t, "typed on and on", ops, marks, span("("), span("<"+strings.Repeat("x", 60)+">", 4), span(")"))
}
