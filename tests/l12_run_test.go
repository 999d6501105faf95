package tests

import (
	"fmt"
	"slices"
	"testing"

	"loop.example/g00028/impl"
)

// Nothing on one side, on the other, and on both.
func TestP14NothingOnASide(t *testing.T) {
	s := inOrder(story())
	checkSent(t, "nothing at all", nil, nil, 1, 0, 0, 2)
	checkSent(t, "nothing at all", nil, nil, 2, 0, 0, 1)
	checkSent(t, "nothing at all", nil, nil, 3, 0, 2048, 2)
	// The vector has 3 and 2, thirteen noughts, and 2. All stand in the first leaf of three actors.
	checkSent(t, "the story and nothing", s, nil, 1, 7, 16+sizeOf(s), 2)
	checkSent(t, "the story and nothing", s, nil, 2, 7, 3*17*8+sizeOf(s), 10)
	checkSent(t, "the story and nothing", s, nil, 3, 7, 2048+sizeOf(s), 2)
	checkSync(t, "the story and nothing", s, nil)
	checkSync(t, "nothing at all", nil, []impl.Op{})
	for actor := range 16 {
		one := diary(actor, 1, counts(5, 1))
		checkSent(t, "one operation", one, nil, 1, 1, actor+1+sizeOf(one), 2)
		checkSent(t, "one operation", one, nil, 2, 1, 17*8+sizeOf(one), 10)
		checkSent(t, "one operation", one, nil, 3, 1, 2048+sizeOf(one), 2)
		checkSync(t, "one operation", one, nil)
	}
}

func TestP14AlikeLogs(t *testing.T) {
	s := inOrder(story())
	checkSent(t, "the story twice", s, s, 1, 0, 32, 2)
	checkSent(t, "the story twice", s, copyLog(s), 2, 0, 24, 2)
	checkSent(t, "the story twice", s, copyLog(s), 3, 0, 2048, 2)
	full := fullLog(impl.MaxLog)
	// Fifteen actors with fewer than 128 operations each.
	checkSent(t, "a full log twice", full, copyLog(full), 1, 0, 30, 2)
	checkSent(t, "a full log twice", full, copyLog(full), 2, 0, 15*8, 2)
	checkSent(t, "a full log twice", full, copyLog(full), 3, 0, 2048, 2)
	one := diary(15, 1, ones(impl.MaxLog)...)
	checkSent(t, "a full log of one actor twice", one, copyLog(one), 1, 0, 2*17, 2)
	checkSent(t, "a full log of one actor twice", one, copyLog(one), 2, 0, 8, 2)
	checkSent(t, "a full log of one actor twice", one, copyLog(one), 3, 0, 2048, 2)
}

// By vectors: the noughts ahead of an actor stand in the bytes, those behind all do not; counts of two bytes.
func TestP14VectorsThatAreSent(t *testing.T) {
	for _, c := range []struct {
		actor, left, right, bytes int
	}{
		{0, 1, 0, 1}, {0, 1, 1, 2}, {0, 127, 126, 2}, {0, 128, 127, 3}, {0, 300, 128, 4}, {5, 1, 0, 6}, {5, 2, 1, 12}, {5, 200, 100, 13}, {15, 1, 0, 16}, {15, 500, 499, 34},
	} {
		log := diary(c.actor, 1, ones(c.left)...)
		what := fmt.Sprintf("%d and %d of actor %d", c.left, c.right, c.actor)
		checkSent(t, what, log, log[:c.right], 1, c.left-c.right, c.bytes+sizeOf(log[c.right:]), 2)
		checkSync(t, what, log, log[:c.right])
	}
	// Each has what the other has not; what both have is not sent.
	base := diary(3, 1, ones(4)...)
	a, b := knowing(base, 7, 10, ones(3)...), knowing(base, 9, 10, ones(2)...)
	checkSent(t, "at two actors", a, b, 1, 5, 8+10+sizeOf(a[4:])+sizeOf(b[4:]), 2)
	// At one actor the one has more, at another one the other.
	a, b = logOf(diary(2, 1, ones(5)...), diary(4, 1, ones(1)...)), logOf(diary(2, 1, ones(2)...), diary(4, 1, ones(6)...))
	checkSent(t, "across", a, b, 1, 8, 5+5+sizeOf(a[2:5])+sizeOf(b[3:]), 2)
	checkSync(t, "across", a, b)
}

// How many comparisons it takes to come down to leaves: below each unlike node two.
func comparisons(leaves ...int) int {
	sum := 1
	for level := 1; level <= 8; level++ {
		var above []int
		for _, leaf := range leaves {
			above = append(above, leaf>>level)
		}
		sum += 2 * len(slices.Compact(above))
	}
	return sum
}

// By trees, of one actor: which leaves are unlike, and who sends what of them.
func TestP14TreesOfOneActor(t *testing.T) {
	for _, c := range []struct {
		left, right int
		leaves      []int
		sent        int
	}{
		{1, 0, []int{0}, 1}, {2, 0, []int{0}, 2}, {2, 1, []int{0}, 3}, {3, 2, []int{0}, 5}, {4, 3, []int{0}, 7}, {4, 1, []int{0}, 5}, {4, 0, []int{0}, 4},
		{5, 4, []int{1}, 1}, {6, 5, []int{1}, 3}, {8, 4, []int{1}, 4}, {8, 5, []int{1}, 5}, {8, 7, []int{1}, 7}, {9, 8, []int{2}, 1},
		{5, 3, []int{0, 1}, 8}, {5, 0, []int{0, 1}, 5}, {9, 7, []int{1, 2}, 8}, {9, 4, []int{1, 2}, 5}, {9, 3, []int{0, 1, 2}, 12}, {9, 0, []int{0, 1, 2}, 9},
		{64, 63, []int{15}, 7}, {64, 60, []int{15}, 4}, {65, 64, []int{16}, 1}, {66, 64, []int{16}, 2}, {65, 63, []int{15, 16}, 8},
		{512, 511, []int{127}, 7}, {513, 512, []int{128}, 1}, {514, 511, []int{127, 128}, 9}, {1024, 1023, []int{255}, 7}, {1024, 1020, []int{255}, 4}, {1021, 1020, []int{255}, 1},
	} {
		for _, actor := range []int{0, 15} {
			log := diary(actor, 1, ones(c.left)...)
			other := log[:c.right]
			first := 4 * c.leaves[0]
			size := sizeOf(log[first:]) + sizeOf(other[min(first, len(other)):])
			checkSent(t, fmt.Sprintf("%d and %d", c.left, c.right), log, other, 2, c.sent, 8*comparisons(c.leaves...)+size, 10)
		}
	}
	// Counted by hand: the root; two at each of the levels 7 to 3; then 4, 8, 16, or as many as there are.
	log := diary(6, 1, ones(impl.MaxLog)...)
	checkSent(t, "64 and none", log[:64], nil, 2, 64, 8*(1+2*5+4+8+16)+sizeOf(log[:64]), 10)
	checkSent(t, "65 and none", log[:65], nil, 2, 65, 8*(1+2*4+4+6+10+18)+sizeOf(log[:65]), 10)
	checkSent(t, "all and none", log, nil, 2, 1024, 8*511+sizeOf(log), 10)
	checkSent(t, "all and one", log, log[:1], 2, 1025, 8*511+sizeOf(log)+sizeOf(log[:1]), 10)
	checkSent(t, "all and half of them", log, log[:512], 2, 512, 8*(1+2+2+4+8+16+32+64+128)+sizeOf(log[512:]), 10)
}

// By trees, of several actors: those that neither has cost nothing, equal roots one comparison each.
func TestP14TreesOfSeveralActors(t *testing.T) {
	base := logOf(diary(1, 1, ones(5)...), diary(4, 1, ones(64)...), diary(14, 1, ones(1)...))
	checkSent(t, "three alike", base, base, 2, 0, 24, 2)
	a := logOf(base, diary(9, 1, ones(2)...))
	checkSent(t, "a fourth that only one has", a, base, 2, 2, 8*(3+17)+sizeOf(diary(9, 1, ones(2)...)), 10)
	// One actor whose tree differs at one leaf, and another one whose tree differs at all.
	long := diary(0, 1, ones(300)...)
	a, b := logOf(base, long), logOf(base, diary(15, 1, ones(600)...))
	everyLeaf := func(size int) int {
		var leaves []int
		for leaf := range (size + 3) / 4 {
			leaves = append(leaves, leaf)
		}
		return comparisons(leaves...)
	}
	checkSent(t, "two that differ at all", a, b, 2, 900, 8*(3+everyLeaf(300)+everyLeaf(600))+sizeOf(long)+sizeOf(diary(15, 1, ones(600)...)), 10)
	b = logOf(base, long[:299], diary(15, 1, ones(2)...))
	checkSent(t, "one leaf here, and all there", a, b, 2, 4+3+2, 8*(3+17+17)+sizeOf(long[296:])+sizeOf(long[296:299])+sizeOf(diary(15, 1, ones(2)...)), 10)
	for _, c := range [][2][]impl.Op{{a, b}, {base, nil}, {a, base}, {b, base[:5]}, {logOf(base, diary(0, 1, ones(4)...)), logOf(base, diary(2, 1, ones(4)...))}} {
		checkSync(t, "several actors", c[0], c[1])
	}
	// Sixteen actors with all alike but the last one.
	var crowd []impl.Op
	for actor := range 16 {
		crowd = append(crowd, diary(actor, 1, ones(1+actor)...)...)
	}
	less := crowd[:len(crowd)-1]
	checkSent(t, "all but the last", crowd, less, 2, 7, 8*(15+17)+sizeOf(crowd[len(crowd)-4:])+sizeOf(less[len(less)-3:]), 10)
	checkSync(t, "all but the last", crowd, less)
}

// By sketches: what they tell is sent; where they tell not enough, all of the first mode comes on top.
func TestP14SketchesThatAreSent(t *testing.T) {
	base := fullLog(100)
	more := diary(15, 500, ones(40)...)
	for size := range 5 {
		checkSent(t, fmt.Sprint(size, " more"), logOf(base, more[:size]), base, 3, size, 2048+sizeOf(more[:size]), 2)
	}
	vectors := func(a, b []impl.Op) int { return len(vecBytes(knownIn(a))) + len(vecBytes(knownIn(b))) }
	for _, size := range []int{5, 6, 9, 40} {
		a := logOf(base, more[:size])
		checkSent(t, fmt.Sprint(size, " more"), a, base, 3, size, 2048+vectors(a, base)+sizeOf(more[:size]), 4)
		checkSync(t, fmt.Sprint(size, " more"), a, base)
	}
	// The vector of base has 15 counts of one byte, the other one 16.
	a := logOf(base, more[:5])
	checkSent(t, "five more", a, base, 3, 5, 2048+15+16+sizeOf(more[:5]), 4)
	// Both have some that the other has not.
	b := withNext(base, 14, counts(100, 1))
	checkSent(t, "some on both sides", logOf(base, more[:2]), b, 3, 3, 2048+sizeOf(more[:2])+sizeOf(aheadOf(b, base)), 2)
	// One here and one there that stand in the same cells: 16 and 80.
	one := diary(0, 1, ones(5)...)
	checkSent(t, "in the same cells", one, one[:0], 3, 5, 2048+1+sizeOf(one), 4)
	checkSent(t, "one of them is known", one, one[:1], 3, 4, 2048+sizeOf(one[1:]), 2)
	checkSync(t, "a full log and half of it", fullLog(impl.MaxLog), fullLog(impl.MaxLog/2))
}

// A log and each beginning of it, in the order in which it was done.
func TestP14ABeginning(t *testing.T) {
	var done []impl.Op
	for _, op := range slices.SortedFunc(slices.Values(fullLog(48)), func(a, b impl.Op) int { return a.Time - b.Time }) {
		done = append(done, op)
	}
	for size := range len(done) + 1 {
		checkSync(t, fmt.Sprint("the first ", size), inOrder(done), inOrder(done[:size]))
	}
	for size := range len(story()) + 1 {
		for other := range size {
			checkSync(t, "two beginnings", inOrder(story()[:size]), inOrder(story()[:other]))
		}
	}
}

// Logs of MaxLog operations together, however they are shared out.
func TestP14FullLogsTogether(t *testing.T) {
	for _, c := range []struct{ both, left int }{{0, 0}, {0, 1}, {0, 512}, {0, 1024}, {500, 262}, {1000, 12}, {1022, 1}, {1023, 1}} {
		right := impl.MaxLog - c.both - c.left
		base, a, b := apart(c.both, c.left, right)
		what := fmt.Sprintf("%d of both, %d and %d of their own", c.both, c.left, right)
		x, y := logOf(base, a), logOf(base, b)
		all := slices.Concat(base, b, a)
		for mode := 1; mode <= 3; mode++ {
			got, code := impl.SyncRun(x, y, mode)
			turned, _ := impl.SyncRun(y, x, mode)
			if code != impl.OK || !sameLog(got.Log, all) || !sameOut(got, turned) {
				t.Errorf("%s, mode %d: %s and %s, code %d", what, mode, toldOut(got), toldOut(turned), code)
			}
			want := []func(a, b []impl.Op) impl.SyncOut{by1, by2, by3}[mode-1](x, y)
			if got.Ops != want.Ops || got.Bytes != want.Bytes || got.Rounds != want.Rounds {
				t.Errorf("%s, mode %d: %s, want %s", what, mode, toldOut(got), toldOut(want))
			}
		}
		// One more is too many.
		more := logOf(base, diary(14, 3000, ones(right+1)...))
		want := impl.ErrMany
		if len(more) > impl.MaxLog {
			want = impl.ErrBad
		}
		for mode := range 5 {
			checkNotSent(t, what+", and one more", x, more, mode, want)
		}
	}
}
