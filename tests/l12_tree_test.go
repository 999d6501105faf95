package tests

import (
	"fmt"
	"math"
	"slices"
	"testing"

	"loop.example/g00028/impl"
)

// wordsOf is a diary of settings without a Key, one a Text, upon object 1 from Time 1 on.
func wordsOf(actor int, texts ...string) []impl.Op {
	var deeds []impl.Op
	for _, text := range texts {
		deeds = append(deeds, writes(1, "", text))
	}
	return diary(actor, 1, deeds...)
}

// Texts with which sums meet that are unlike else; each was looked for.
func zeroWords() []impl.Op { return wordsOf(3, "ktmftcra") }

// zeroLeaf has a leaf of four operations whose sum is 0.
func zeroLeaf() []impl.Op { return wordsOf(3, "a", "b", "a", "yqgjboaa", "e", "f") }

// firstLeaf has the same sum with one operation and with two.
func firstLeaf() []impl.Op { return wordsOf(3, "a", "quqgaxgb") }

// secondLeaf has the same sum of its second leaf with five operations and with eight.
func secondLeaf() []impl.Op {
	return wordsOf(3, "a", "b", "c", "d", "a", "f", "g", "yqzwnhka", "i", "j")
}

// aboveLeaves has the same sum above its first two leaves with five operations and with six, but not of the second one.
func aboveLeaves() []impl.Op { return wordsOf(3, "a", "b", "c", "d", "c", "xaxcteta") }

func checkTreeIs(t *testing.T, what string, log []impl.Op, actor, level, place int, want uint32) {
	t.Helper()
	if got, code := impl.TreeSum(log, actor, level, place); got != int(want) || code != impl.OK {
		t.Errorf("%s: level %d, place %d: %d, code %d, want %d", what, level, place, got, code, want)
	}
}

// Sums that are put together one by one.
func TestP14SumsWrittenDown(t *testing.T) {
	log := logOf(diary(2, 1, counts(5, 1), counts(5, 2), writes(1, "k", "v"), types(3, 'x', start()), takes(3, stamp(4, 2)), counts(5, -6)), diary(3, 1, counts(5, 1)))
	var sums []uint32
	for _, op := range log[:6] {
		sums = append(sums, sumOf(deedBytes(op)))
	}
	first, second := sumOf(fourBytes(sums[:4]...)), sumOf(fourBytes(sums[4:]...))
	checkTreeIs(t, "the first leaf", log, 2, 0, 0, first)
	checkTreeIs(t, "the second leaf", log, 2, 0, 1, second)
	checkTreeIs(t, "the third leaf", log, 2, 0, 2, 0)
	checkTreeIs(t, "the last leaf", log, 2, 0, 255, 0)
	above := sumOf(fourBytes(first, second))
	checkTreeIs(t, "above both leaves", log, 2, 1, 0, above)
	checkTreeIs(t, "above none", log, 2, 1, 1, 0)
	for level := 2; level <= 8; level++ {
		above = sumOf(fourBytes(above, 0))
		checkTreeIs(t, "further up", log, 2, level, 0, above)
		if level < 8 {
			checkTreeIs(t, "beside it", log, 2, level, 1, 0)
		}
	}
	// Another actor's tree has nothing of it.
	only := sumOf(fourBytes(sumOf(deedBytes(log[6]))))
	checkTreeIs(t, "the other actor", log, 3, 0, 0, only)
	checkTreeIs(t, "the other actor", log, 3, 1, 0, sumOf(fourBytes(only, 0)))
	checkTreeIs(t, "no operation", log, 4, 0, 0, 0)
	checkTreeIs(t, "no operation", log, 4, 8, 0, 0)
	// Of no operations at all.
	checkTreeIs(t, "an empty log", nil, 0, 0, 0, 0)
	checkTreeIs(t, "an empty log", nil, 15, 8, 0, 0)
}

// edgePlaces are the first and the last place of a level, and some between.
func edgePlaces(level int) []int {
	last := 1<<(8-level) - 1
	places := []int{0, 1, 2, 3, 15, 16, last / 2, last/2 + 1, last - 1, last}
	slices.Sort(places)
	return slices.DeleteFunc(slices.Compact(places), func(place int) bool { return place < 0 || place > last })
}

// Actors with so many operations, at each level and at all places that are an edge.
func TestP14SumsOfEachSize(t *testing.T) {
	for _, actor := range []int{0, 7, 15} {
		for _, size := range []int{0, 1, 2, 3, 4, 5, 7, 8, 9, 12, 13, 16, 17, 64, 65, 500} {
			log := logOf(diary(actor, 1, ones(size)...), diary((actor+1)%16, 5, counts(100, 7), counts(100, 8)))
			for level := 0; level <= 8; level++ {
				for _, place := range edgePlaces(level) {
					checkTreeSum(t, fmt.Sprint(size, " operations"), log, actor, level, place)
				}
				checkTreeSum(t, "the other actor", log, (actor+1)%16, level, 0)
				checkTreeSum(t, "nobody", log, (actor+2)%16, level, 0)
			}
		}
	}
	full := diary(9, 1, ones(impl.MaxLog)...)
	met := map[int]int{}
	for level := 0; level <= 8; level++ {
		for _, place := range edgePlaces(level) {
			checkTreeSum(t, "a full log of one actor", full, 9, level, place)
			sum, _ := impl.TreeSum(full, 9, level, place)
			met[sum]++
		}
	}
	if met[0] > 0 || len(met) < 40 {
		t.Errorf("sums of a full log: %v", met)
	}
	full = fullLog(impl.MaxLog)
	for actor := range 16 {
		for level := 0; level <= 8; level++ {
			checkTreeSum(t, "a full log of many", full, actor, level, 0)
			checkTreeSum(t, "a full log of many", full, actor, level, 1<<(8-level)-1)
		}
	}
}

// Every place of small trees.
func TestP14SumsOfEachPlace(t *testing.T) {
	log := logOf(inOrder(story()), diary(9, 50, ones(70)...))
	for _, actor := range []int{0, 9} {
		tree := sumTreeOf(log, actor)
		for level := 0; level <= 8; level++ {
			for place := range 1 << (8 - level) {
				checkTreeIs(t, "every place", log, actor, level, place, uint32(tree.at(level, place)))
			}
		}
	}
}

// A sum that is 0, of one operation or of four, counts as none further up; with one beside it that is not 0 it counts.
func TestP14SumsOfNought(t *testing.T) {
	one := zeroWords()
	if sumOf(fourBytes(sumOf(deedBytes(one[0])))) != 0 {
		t.Fatal("the test is at odds with itself")
	}
	for level := 0; level <= 8; level++ {
		checkTreeIs(t, "one operation", one, 3, level, 0, 0)
	}
	with := wordsOf(3, "ktmftcra", "b")
	checkTreeIs(t, "with another one", with, 3, 0, 0, sumOf(fourBytes(sumOf(deedBytes(with[0])), sumOf(deedBytes(with[1])))))
	log := zeroLeaf()
	last := sumOf(fourBytes(sumOf(deedBytes(log[4])), sumOf(deedBytes(log[5]))))
	checkTreeIs(t, "four operations", log, 3, 0, 0, 0)
	checkTreeIs(t, "beside it", log, 3, 0, 1, last)
	checkTreeIs(t, "above both", log, 3, 1, 0, sumOf(fourBytes(0, last)))
	if sumOf(fourBytes(0, last)) == sumOf(fourBytes(last, 0)) {
		t.Fatal("the test is at odds with itself")
	}
	checkTreeIs(t, "above the four alone", log[:4], 3, 1, 0, 0)
	checkTreeIs(t, "the root of the four alone", log[:4], 3, 8, 0, 0)
	for level := 0; level <= 8; level++ {
		for _, place := range edgePlaces(level) {
			checkTreeSum(t, "nought", log, 3, level, place)
			checkTreeSum(t, "nought alone", log[:4], 3, level, place)
		}
	}
}

// Whatever is changed in an operation is seen in its leaf and in all that is above it, and nowhere else.
func TestP14SumsThatChange(t *testing.T) {
	s := logOf(inOrder(story()), diary(7, 20, ones(30)...))
	for i, op := range s {
		for name, twin := range twins(op) {
			other := logWith(s, i, func(op *impl.Op) { *op = twin })
			if !validLog(other) {
				continue
			}
			what := fmt.Sprint(name, " of ", i)
			for level := 0; level <= 8; level++ {
				own := (op.Seq - 1) / 4 >> level
				x, _ := impl.TreeSum(s, op.Actor, level, own)
				y, code := impl.TreeSum(other, op.Actor, level, own)
				if x == y || code != impl.OK {
					t.Errorf("%s: level %d: %d, as it was, code %d", what, level, y, code)
				}
				for place := range min(3, 1<<(8-level)) {
					if place != own {
						x, _ := impl.TreeSum(s, op.Actor, level, place)
						checkTreeIs(t, what, other, op.Actor, level, place, uint32(x))
					}
				}
			}
			x, _ := impl.TreeSum(s, (op.Actor+7)%16, 8, 0)
			checkTreeIs(t, what, other, (op.Actor+7)%16, 8, 0, uint32(x))
		}
	}
}

// Actors, levels and places that there are not.
func TestP14NoPlaces(t *testing.T) {
	for _, log := range [][]impl.Op{nil, inOrder(story()), diary(15, 1, ones(9)...), fullLog(100)} {
		for level := 0; level <= 8; level++ {
			last := 1<<(8-level) - 1
			for _, actor := range []int{0, 15} {
				checkTreeSum(t, "the first place", log, actor, level, 0)
				checkTreeSum(t, "the last place", log, actor, level, last)
				for _, place := range []int{-1, last + 1, last + 2, 2*last + 2, 1 << 32, math.MinInt, math.MaxInt} {
					checkNoTreeSum(t, "no place", log, actor, level, place, impl.ErrRange)
				}
			}
			for _, actor := range noActors() {
				for _, place := range []int{0, last, -1, last + 1} {
					checkNoTreeSum(t, "no actor", log, actor, level, place, impl.ErrRange)
				}
			}
		}
		for _, level := range []int{-1, 9, 10, -8, 63, 64, 1 << 32, math.MinInt, math.MaxInt} {
			for _, actor := range []int{0, 15, -1, 16} {
				for _, place := range []int{0, 1, -1, math.MaxInt} {
					checkNoTreeSum(t, "no level", log, actor, level, place, impl.ErrRange)
				}
			}
		}
	}
}
