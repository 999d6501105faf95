package tests

import (
	"fmt"
	"math"
	"slices"
	"testing"

	"loop.example/g00028/impl"
)

// checkBlamed asks for actors that are written down.
func checkBlamed(t *testing.T, what string, log []impl.Op, obj int, want ...int) {
	t.Helper()
	if got, code := impl.Blame(log, obj); code != impl.OK || !slices.Equal(got, want) {
		t.Errorf("%s: Blame of %d: %v, code %d, want %v", what, obj, got, code, want)
	}
	checkBlame(t, what, log, obj)
}

func checkNotBlamed(t *testing.T, what string, log []impl.Op, obj, want int) {
	t.Helper()
	got, code := impl.Blame(log, obj)
	wantCode(t, fmt.Sprint(what, ": Blame of ", obj), code, want)
	zeroWithCode(t, got, code)
}

func TestP11Blame(t *testing.T) {
	two := logOf(diary(5, 1, typed(3, 5, 1, "five")...), diary(2, 1, typed(3, 2, 1, "two")...))
	checkText9(t, "two words", two, "list 3 fivetwo\n")
	checkBlamed(t, "two words", two, 3, 5, 5, 5, 5, 2, 2, 2)
	taken := logOf(two, diary(9, 40, takes(3, stamp(1, 5)), takes(3, stamp(3, 2))))
	checkText9(t, "some taken away by another", taken, "list 3 ivetw\n")
	checkBlamed(t, "some taken away by another", taken, 3, 5, 5, 5, 2, 2)
	between := logOf(taken, diary(15, 50, types(3, '!', stamp(2, 5)), types(3, '?', start()), types(3, '.', stamp(3, 2))))
	checkText9(t, "typed between, ahead and behind", between, "list 3 ?i!vetw.\n")
	checkBlamed(t, "typed between, ahead and behind", between, 3, 15, 5, 15, 5, 5, 2, 2, 15)
	// What one took away another puts again: it is that one's.
	again := logOf(diary(0, 1, typed(3, 0, 1, "ab")...), diary(4, 10, takes(3, stamp(1, 0)), undoes(1, types(3, 'a', stamp(1, 0)))))
	checkText9(t, "put again", again, "list 3 ab\n")
	checkBlamed(t, "put again", again, 3, 4, 0)
	own := diary(4, 1, types(3, 'a', start()), takes(3, stamp(1, 4)), undoes(2, types(3, 'a', stamp(1, 4))))
	checkBlamed(t, "put again by itself", own, 3, 4)
	checkBlamed(t, "nothing is seen", own[:2], 3)
	for actor := range 16 {
		checkBlamed(t, "one character", diary(actor, 1, types(9, 0x1f600, start())), 9, actor)
	}
	// A list of another object is nobody's here.
	lists := logOf(diary(1, 1, types(9, 'a', start()), types(10, 'b', start())), diary(2, 10, types(10, 'c', stamp(2, 1)), types(100, 'd', start())))
	checkBlamed(t, "lists", lists, 9, 1)
	checkBlamed(t, "lists", lists, 10, 1, 2)
	checkBlamed(t, "lists", lists, 100, 2)
}

func TestP11BlameOfNoList(t *testing.T) {
	log := diary(0, 1, writes(1, "a", "x"), types(3, 'x', start()), counts(5, 1), writes(9, "", ""), counts(100, 0))
	for _, obj := range []int{1, 2, 4, 5, 6, 9, 10, 99, 100, 0, -1, -3, 101, 102, 103, 1000, impl.MaxTime, math.MaxInt, math.MinInt, math.MaxInt - 100, 1 << 32, 1<<32 + 3, -1 << 32} {
		checkNotBlamed(t, "no list", log, obj, impl.ErrKind)
		checkNotBlamed(t, "nothing", nil, obj, impl.ErrKind)
		checkNotBlamed(t, "no log", log[1:], obj, impl.ErrBad)
	}
	checkBlamed(t, "the list", log, 3, 0)
	checkNotBlamed(t, "nothing", nil, 3, impl.ErrKind)
	checkNotBlamed(t, "no log", log[1:], 3, impl.ErrBad)
}

// A log one of whose lists is wrong is not told, whichever object is asked for.
func TestP11BlameOfWrongLists(t *testing.T) {
	log := diary(0, 1, writes(1, "a", "x"), types(3, 'x', start()), types(4, 'y', stamp(2, 0)))
	for _, obj := range []int{3, 4, 1, 2, 0, -1, 100, 101, math.MaxInt, math.MinInt} {
		checkNotBlamed(t, "a wrong list", log, obj, impl.ErrCause)
	}
	checkBlamed(t, "ahead of the wrong At", log[:2], 3, 0)
}

// Blame has as many as the text has characters, and each is one of those that typed.
func TestP11BlameOfAFullLog(t *testing.T) {
	log := fullLog(impl.MaxLog)
	lines, _ := lineOf(log, 40)
	blame, code := impl.Blame(log, 40)
	wantCode(t, "Blame", code, impl.OK)
	want, _ := blameOf(log, 40)
	if !slices.Equal(blame, want) || lines != "list 40 " {
		t.Errorf("%v, want %v, of %s", blame, want, brief(lines))
	}
	// Without what takes away all is seen, the last one typed first.
	var deeds []impl.Op
	for i := range 64 {
		deeds = append(deeds, types(40, 'a'+i%26, start()))
	}
	var diaries [][]impl.Op
	var actors []int
	for actor := range 16 {
		diaries = append(diaries, diary(actor, 1+100*actor, deeds...))
		actors = append(slices.Repeat([]int{actor}, 64), actors...)
	}
	checkBlamed(t, "all actors", logOf(diaries...), 40, actors...)
}
