package tests

import (
	"fmt"
	"slices"
	"testing"

	"loop.example/g00028/impl"
)

// Logs that are unlike and have one sum of an actor's operations: the trees send too little, and the log is the merge
// all the same.
func TestP14TreesThatMeet(t *testing.T) {
	one := zeroWords()
	checkSent(t, "an operation whose sum is as of none", one, nil, 2, 0, 8, 2)
	checkSent(t, "the same by vectors", one, nil, 1, 1, 4+sizeOf(one), 2)
	checkSent(t, "the same by sketches", one, nil, 3, 1, 2048+sizeOf(one), 2)
	four := zeroLeaf()
	checkSent(t, "four operations whose sum is as of none", four[:4], nil, 2, 0, 8, 2)
	checkSent(t, "and two more", four, nil, 2, 2, 8*17+sizeOf(four[4:]), 10)
	checkSent(t, "and one of two more", four, four[:5], 2, 3, 8*17+sizeOf(four[4:])+sizeOf(four[4:5]), 10)
	first := firstLeaf()
	checkSent(t, "a leaf with one operation and with two", first, first[:1], 2, 0, 8, 2)
	second := secondLeaf()
	checkSent(t, "a leaf with one operation and with four", second[:8], second[:5], 2, 0, 8, 2)
	// Where a leaf behind it is unlike it is not come down to, and what it lacks is not sent.
	checkSent(t, "a leaf with one and with four, and two behind it", second, second[:5], 2, 2, 8*17+sizeOf(second[8:]), 10)
	above := aboveLeaves()
	x, _ := impl.TreeSum(above, 3, 0, 1)
	y, _ := impl.TreeSum(above[:5], 3, 0, 1)
	if x == y {
		t.Fatal("the test is at odds with itself")
	}
	checkSent(t, "unlike leaves below what is alike", above, above[:5], 2, 0, 8, 2)
	// Beside others that are told.
	with := diary(9, 1, writes(1, "k", "v"))
	for _, log := range [][]impl.Op{one, four[:4], first, second[:8], above} {
		less := log[:len(log)-1]
		for _, c := range [][2][]impl.Op{{log, less}, {logOf(log, with), less}, {log, logOf(less, with)}, {log, with}, {logOf(log, with), nil}} {
			checkSync(t, "beside others", c[0], c[1])
		}
	}
	checkSent(t, "beside one that is told", logOf(one, with), nil, 2, 1, 8*(1+17)+sizeOf(with), 10)
}

// The last operations of four actors, no two of which stand in unlike cells, and the checks of which are such that each
// three of them look like the fourth.
func fourThatMeet() map[int]int { return map[int]int{0: 81, 1: 227, 12: 24, 13: 170} }

// meeting is a log of four actors with all that they did, less the last operation of some.
func meeting(without ...int) []impl.Op {
	var log []impl.Op
	for actor, size := range fourThatMeet() {
		if slices.Contains(without, actor) {
			size--
		}
		log = append(log, diary(actor, 1, ones(size)...)...)
	}
	return inOrder(log)
}

// Logs that are unlike and have sketches that are alike, or that differ in another operation than the logs: the
// sketches tell too little, or something else, and the log is the merge all the same.
func TestP14SketchesThatMeet(t *testing.T) {
	number := func(actor int) int { return 16*fourThatMeet()[actor] + actor }
	if number(0)^number(1)^number(12)^number(13) != 0 || checkSum(number(0))^checkSum(number(1))^checkSum(number(12))^checkSum(number(13)) != 0 {
		t.Fatal("the test is at odds with itself")
	}
	all := meeting()
	vectors := func(a, b []impl.Op) int { return len(vecBytes(knownIn(a))) + len(vecBytes(knownIn(b))) }
	// Two have the one, two the other.
	for _, pair := range [][4]int{{0, 1, 12, 13}, {0, 12, 1, 13}, {0, 13, 1, 12}} {
		a, b := meeting(pair[0], pair[1]), meeting(pair[2], pair[3])
		what := fmt.Sprint("without ", pair[:2], " and without ", pair[2:])
		checkSent(t, what, a, b, 3, 0, 2048, 2)
		checkSent(t, what, a, b, 1, 4, vectors(a, b)+sizeOf(aheadOf(a, b))+sizeOf(aheadOf(b, a)), 2)
		checkSync(t, what, a, b)
		x, _ := impl.SketchOf(a)
		y, _ := impl.SketchOf(b)
		checkDiffers(t, what, x, y, nil, nil, impl.OK)
	}
	for _, actor := range []int{0, 1, 12, 13} {
		others := slices.DeleteFunc([]int{0, 1, 12, 13}, func(other int) bool { return other == actor })
		what := fmt.Sprint("the last of ", actor)
		for _, other := range others {
			pair := slices.DeleteFunc(slices.Clone(others), func(one int) bool { return one == other })
			last := []impl.Op{all[slices.IndexFunc(all, func(op impl.Op) bool { return op.Actor == actor && op.Seq == fourThatMeet()[actor] })]}
			// The first one lacks one of the three and has two that the second one lacks: what is told is the fourth,
			// which is sent by who has it, though the other one has it too.
			a, b := meeting(other), meeting(pair...)
			x, y := sketchOf(deedNumbers(a)...), sketchOf(deedNumbers(b)...)
			checkDiffers(t, what, x, y, []int{number(actor)}, nil, impl.OK)
			checkSent(t, what+", known to both", a, b, 3, 1, 2048+sizeOf(last), 2)
			// Nobody has the fourth: nothing can be sent.
			a, b = meeting(other, actor), meeting(append(pair, actor)...)
			x, y = sketchOf(deedNumbers(a)...), sketchOf(deedNumbers(b)...)
			checkDiffers(t, what, x, y, []int{number(actor)}, nil, impl.OK)
			checkSent(t, what+", known to nobody", a, b, 3, 0, 2048, 2)
		}
		// Three that look like the fourth, all on one side, are three in a cell.
		a, b := meeting(actor), meeting(0, 1, 12, 13)
		checkSent(t, what+" and three more", a, b, 3, 3, 2048+vectors(a, b)+sizeOf(aheadOf(a, b)), 4)
		// Three on one side and the fourth on the other: two are left in each cell, with an Id and a Sum of 0.
		a, b = meeting(actor), meeting(others...)
		checkSent(t, what+" against three", a, b, 3, 4, 2048+vectors(a, b)+sizeOf(aheadOf(a, b))+sizeOf(aheadOf(b, a)), 4)
	}
	a, b := all, meeting(0, 1, 12, 13)
	checkSent(t, "all four", a, b, 3, 4, 2048+vectors(a, b)+sizeOf(aheadOf(a, b)), 4)
	checkSync(t, "all four", a, b)
}
