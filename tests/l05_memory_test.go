package tests

import (
	"math"
	"math/rand"
	"slices"
	"testing"

	"loop.example/g00028/impl"
)

// behindMark is what stands behind an argument's end.
func behindMark() impl.MarkOp { return mark(77, 7, stamp(66, 6), stamp(55, 5), 5, true) }

// memoryMarks are marks upon lists of memoryLists, valid with some of them and not with others.
func memoryMarks() [][]impl.MarkOp {
	random := rand.New(rand.NewSource(16))
	var list [][]impl.MarkOp
	for _, ops := range memoryLists() {
		if listCode(ops) == impl.OK {
			list = append(list, anyMarks(random, ops, 9))
		}
	}
	return append(list, nil, []impl.MarkOp{{}}, []impl.MarkOp{goodMark(), markWith(func(m *impl.MarkOp) { m.On = false })})
}

func TestP1MarksAreNotWrittenInto(t *testing.T) {
	for _, ops := range memoryLists() {
		for _, marks := range memoryMarks() {
			a, checkA := watched(t, ops, behindOp())
			b, checkB := watched(t, marks, behindMark())
			impl.RichSpans(a, b)
			impl.MarkText(a, b, 3, 0, 1, 2, true)
			impl.Follow(a, stamp(1, 2))
			checkA()
			checkB()
		}
	}
}

func TestP1AnsweredSpansAreNew(t *testing.T) {
	told := 0
	for _, ops := range memoryLists() {
		for _, marks := range memoryMarks() {
			a, checkA := watched(t, ops, behindOp())
			b, checkB := watched(t, marks, behindMark())
			first, _ := impl.RichSpans(a, b)
			again, _ := impl.RichSpans(a, b)
			kept := copySpans(again)
			told += len(kept)
			for _, s := range first {
				scribble(s.Kinds, -7)
			}
			scribble(first, span("!", -7))
			checkA()
			checkB()
			scribble(a, impl.LOp{Kind: -9})
			scribble(b, impl.MarkOp{Kind: -9})
			if !sameSpans(again, kept) {
				t.Errorf("an answer shares memory: %v, was %v", again, kept)
			}
		}
	}
	if told < 100 {
		t.Errorf("only %d spans were told", told)
	}
}

// No two lists of one answer share memory, not even behind their ends.
func TestP1SpansShareNothing(t *testing.T) {
	ops := lined(40, 2)
	var marks []impl.MarkOp
	for i, op := range ops {
		marks = append(marks, mark(50+i, 0, op.Id, ops[39].Id, i%8+1, i%3 > 0))
	}
	spans, code := impl.RichSpans(ops, marks)
	wantCode(t, "RichSpans", code, impl.OK)
	kept := copySpans(spans)
	if len(spans) < 20 {
		t.Fatalf("only %d spans", len(spans))
	}
	for i := range spans {
		scribble(spans[i].Kinds, -7)
		if !sameSpans(spans[i+1:], kept[i+1:]) {
			t.Errorf("the Kinds of span %d share memory with others", i)
		}
	}
}

func anyMarkOps(random *rand.Rand, ops []impl.LOp) []impl.MarkOp {
	numbers := []int{math.MinInt, -1, 0, 1, 1, 2, 2, 3, 8, 9, impl.MaxTime, impl.MaxTime + 1, math.MaxInt}
	number := func() int { return numbers[random.Intn(len(numbers))] }
	anyStamp := func() impl.Stamp { return stamp(number(), random.Intn(18)-1) }
	var marks []impl.MarkOp
	if listCode(ops) == impl.OK {
		marks = anyMarks(random, ops, random.Intn(5))
	}
	for range random.Intn(3) {
		m := impl.MarkOp{Id: anyStamp(), From: anyStamp(), To: anyStamp(), Kind: number(), On: random.Intn(2) == 0}
		if len(ops) > 0 && random.Intn(2) == 0 {
			m.From, m.To = ops[random.Intn(len(ops))].Id, ops[random.Intn(len(ops))].Id
		}
		marks = append(marks, m)
	}
	return marks
}

// No panic and an end, and nothing beside a code, for marks of all kinds.
func TestP1AnyMarks(t *testing.T) {
	random := rand.New(rand.NewSource(17))
	places := []int{math.MinInt, -1, 0, 0, 0, 1, 1, 2, 3, math.MaxInt}
	place := func() int { return places[random.Intn(len(places))] }
	done := 0
	for range 20000 {
		ops := anyOps(random)
		if random.Intn(3) == 0 {
			ops = anyList(random, random.Intn(6))
		}
		marks := anyMarkOps(random, ops)
		checkRich(t, ops, marks)
		more, code := impl.MarkText(ops, marks, random.Intn(20)-2, place(), place(), random.Intn(11)-1, random.Intn(2) == 0)
		if code == impl.OK {
			done++
			wantCode(t, "with the mark", richCode(ops, append(slices.Clone(marks), more)), impl.OK)
		} else if more != (impl.MarkOp{}) {
			t.Errorf("code %d came with %v", code, more)
		}
		n, code := impl.Follow(ops, stamp(place(), random.Intn(18)-1))
		if code != impl.OK && n != 0 {
			t.Errorf("code %d came with %d", code, n)
		}
	}
	if done < 300 {
		t.Errorf("only %d were done", done)
	}
}
