package tests

import (
	"math"
	"math/rand"
	"slices"
	"strings"
	"testing"

	"loop.example/g00028/impl"
)

func checkText(t *testing.T, what string, ops []impl.LOp, want string) {
	t.Helper()
	if text, code := impl.ListText(ops); text != want || code != impl.OK {
		t.Errorf("%s: %s, code %d, want %s", what, brief(text), code, brief(want))
	}
}

func TestP5NoOperations(t *testing.T) {
	for _, ops := range [][]impl.LOp{nil, {}} {
		checkList(t, ops)
		checkText(t, "nothing", ops, "")
		checkMerge(t, ops, ops, nil, impl.OK)
		checkEdit(t, ops, edit{}, nil, impl.OK)
	}
}

// The words of the document, one by one.
func TestP5Order(t *testing.T) {
	a, b := stamp(1, 0), stamp(2, 0)
	for _, c := range []struct {
		what string
		ops  []impl.LOp
		want string
	}{
		{"one behind another", []impl.LOp{ins(1, 0, start(), 'a'), ins(2, 0, a, 'b')}, "ab"},
		{"two at the beginning", []impl.LOp{ins(1, 0, start(), 'a'), ins(2, 0, start(), 'b')}, "ba"},
		{"two of one Time", []impl.LOp{ins(2, 3, start(), 'a'), ins(2, 4, start(), 'b')}, "ba"},
		{"two behind one", []impl.LOp{ins(1, 0, start(), 'a'), ins(2, 0, a, 'b'), ins(3, 0, a, 'c')}, "acb"},
		{"a greater one is followed by its own", []impl.LOp{ins(1, 0, start(), 'a'), ins(2, 0, a, 'b'), ins(3, 0, a, 'c'), ins(4, 0, stamp(3, 0), 'd')}, "acdb"},
		{"a lesser one is followed by its own, however great", []impl.LOp{ins(1, 0, start(), 'a'), ins(2, 0, a, 'b'), ins(3, 0, a, 'c'), ins(9, 9, b, 'd')}, "acbd"},
		{"of one Time, one behind the other", []impl.LOp{ins(1, 0, start(), 'a'), ins(1, 1, a, 'b'), ins(1, 2, stamp(1, 1), 'c')}, "abc"},
		{"taken away", []impl.LOp{ins(1, 0, start(), 'a'), ins(2, 0, a, 'b'), del(3, 0, a)}, "b"},
		{"taken away twice", []impl.LOp{ins(1, 0, start(), 'a'), ins(2, 0, a, 'b'), del(3, 0, a), del(3, 1, a), del(4, 0, a)}, "b"},
		{"put behind what was taken away", []impl.LOp{ins(1, 0, start(), 'a'), ins(2, 0, a, 'b'), del(3, 0, b), ins(4, 0, b, 'c'), ins(5, 0, a, 'd')}, "adc"},
		{"put behind it ahead of that", []impl.LOp{ins(1, 0, start(), 'a'), ins(2, 0, a, 'b'), ins(3, 1, b, 'c'), del(4, 0, b), ins(5, 0, b, 'd')}, "adc"},
		{"all gone", []impl.LOp{ins(1, 0, start(), 'a'), del(2, 0, a)}, ""},
	} {
		everyOrder(c.ops, func(ops []impl.LOp) {
			checkText(t, c.what, ops, c.want)
			checkText(t, c.what+", all twice", slices.Concat(ops, ops), c.want)
		})
		checkList(t, c.ops)
	}
}

func smallPool() []impl.LOp {
	return []impl.LOp{
		ins(1, 0, start(), 'a'), ins(1, 1, start(), 'b'), ins(2, 0, stamp(1, 0), 'c'), ins(2, 1, stamp(1, 0), 'd'), ins(2, 0, stamp(1, 1), 'e'),
		ins(3, 0, stamp(2, 0), 'f'), ins(3, 2, start(), 'h'), del(3, 1, stamp(1, 0)), del(4, 0, stamp(1, 0)), del(4, 1, stamp(2, 0)),
		ins(5, 0, stamp(3, 1), 'g'), ins(1, 0, stamp(1, 0), 'a'),
	}
}

// All lists of four, those with faults too, in all their orders.
func TestP5EverySmallList(t *testing.T) {
	codes := map[int]int{}
	everyList(smallPool(), 4, func(ops []impl.LOp) {
		checkList(t, ops)
		codes[listCode(ops)]++
	})
	for _, code := range []int{impl.OK, impl.ErrBad, impl.ErrFork, impl.ErrCause} {
		if codes[code] < 100 {
			t.Errorf("code %d came %d times", code, codes[code])
		}
	}
}

// Several that were put behind one character, or at the beginning, by every order of their Ids over the places.
func TestP5SeveralBehindOne(t *testing.T) {
	ids := []impl.Stamp{stamp(2, 0), stamp(2, 15), stamp(3, 3), stamp(4, 0), stamp(impl.MaxTime, 15)}
	everyOrder(ids, func(order []impl.Stamp) {
		behind := []impl.LOp{ins(1, 0, start(), '.')}
		beginning := []impl.LOp{ins(1, 0, start(), '.')}
		for _, id := range order {
			char := 'a' + slices.Index(ids, id)
			behind = append(behind, ins(id.Time, id.Actor, stamp(1, 0), char))
			beginning = append(beginning, ins(id.Time, id.Actor, start(), char))
		}
		checkText(t, "behind one", behind, ".edcba")
		checkText(t, "at the beginning", beginning, "edcba.")
		checkList(t, behind)
		checkList(t, beginning)
	})
}

func TestP5AnyLists(t *testing.T) {
	random := rand.New(rand.NewSource(5))
	for range 3000 {
		ops := anyList(random, random.Intn(14))
		checkList(t, ops)
		checkList(t, mixed(random, ops))
	}
	for range 6 {
		ops := anyList(random, 300)
		checkList(t, ops)
		checkText(t, "in another order", mixed(random, ops), listText(t, ops))
	}
}

func TestP5EveryOrderOfAnyList(t *testing.T) {
	random := rand.New(rand.NewSource(6))
	for range 25 {
		ops := once(anyList(random, 6))
		text := textOf(seenOf(row(ops)))
		everyOrder(ops, func(ops []impl.LOp) { checkText(t, "in every order", ops, text) })
	}
}

// A list as long as can be, in its narrowest and its widest shape.
func TestP5LongLists(t *testing.T) {
	deep := lined(impl.MaxOps, 7)
	want := strings.Repeat("abcdefghijklmnopqrstuvwxyz", 79)[:impl.MaxOps]
	checkText(t, "deep", deep, want)
	var wide []impl.LOp
	for i := range impl.MaxOps {
		wide = append(wide, ins(i+1, 3, start(), 'a'+(impl.MaxOps-1-i)%26))
	}
	checkText(t, "wide", wide, want)
	slices.Reverse(deep)
	slices.Reverse(wide)
	checkText(t, "deep, the last first", deep, want)
	checkText(t, "wide, the last first", wide, want)
	checkPlace(t, deep, impl.MaxOps-1, stamp(impl.MaxOps, 7), impl.OK)
	checkPlace(t, deep, impl.MaxOps, start(), impl.ErrRange)
	checkPlace(t, wide, 0, stamp(impl.MaxOps, 3), impl.OK)
}

// Those that came twice are counted twice where the limit is asked for, and once in all else.
func TestP5Limit(t *testing.T) {
	half := lined(impl.MaxOps/2, 2)
	full := slices.Concat(half, half)
	checkText(t, "all twice", full, listText(t, half))
	checkNoList(t, append(slices.Clone(full), half[0]), impl.ErrLong)
	checkNoList(t, lined(impl.MaxOps+1, 2), impl.ErrLong)
	if ids, code := impl.ListOrder(full); len(ids) != impl.MaxOps/2 || code != impl.OK {
		t.Errorf("%d Ids, code %d", len(ids), code)
	}
}

func TestP5Places(t *testing.T) {
	ops := []impl.LOp{ins(1, 0, start(), 'a'), ins(2, 0, stamp(1, 0), 'b'), ins(3, 0, stamp(2, 0), 'c'), del(4, 0, stamp(2, 0))}
	checkPlace(t, ops, -1, start(), impl.OK)
	checkPlace(t, ops, 0, stamp(1, 0), impl.OK)
	checkPlace(t, ops, 1, stamp(3, 0), impl.OK)
	for _, n := range []int{-2, 2, 3, math.MaxInt, math.MinInt} {
		checkPlace(t, ops, n, start(), impl.ErrRange)
	}
	checkPlace(t, nil, -1, start(), impl.OK)
	for _, n := range []int{-2, 0, 1} {
		checkPlace(t, nil, n, start(), impl.ErrRange)
	}
}

func TestP5Chars(t *testing.T) {
	for _, char := range []int{0, 1, 127, 128, 2047, 2048, 55295, 57344, 65533, 65535, 65536, 1114111} {
		checkText(t, "a character", []impl.LOp{ins(1, 0, start(), char)}, string(rune(char)))
	}
	for _, char := range []int{-1, 55296, 56320, 57343, 1114112, math.MinInt, math.MaxInt, 1<<32 + 'a', -1<<32 + 'a', 1 << 62} {
		checkNoList(t, []impl.LOp{ins(1, 0, start(), char)}, impl.ErrBad)
	}
}
