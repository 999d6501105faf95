package tests

import (
	"math/rand"
	"slices"
	"testing"

	"loop.example/g00028/impl"
)

// checkMerges holds a merge against all of both, each once, whichever is merged into which.
func checkMerges(t *testing.T, a, b []impl.LOp) {
	t.Helper()
	want := once(slices.Concat(a, b))
	checkMerge(t, a, b, want, impl.OK)
	checkMerge(t, b, a, want, impl.OK)
	checkMerge(t, want, a, want, impl.OK)
	checkMerge(t, b, want, want, impl.OK)
	checkMerge(t, want, want, want, impl.OK)
	checkText(t, "merged", merged(t, a, b), textOf(seenOf(row(want))))
}

// part gives those that some of the operations stand upon, with them.
func part(random *rand.Rand, ops []impl.LOp) []impl.LOp {
	held := map[impl.Stamp]int{start(): 1}
	var list []impl.LOp
	for _, op := range once(ops) {
		if held[op.At] == 1 && random.Intn(4) > 0 {
			list = append(list, op)
			if op.Kind == impl.LIns {
				held[op.Id] = 1
			}
		}
	}
	return mixed(random, list)
}

func TestP5Merges(t *testing.T) {
	random := rand.New(rand.NewSource(7))
	for range 2000 {
		all := anyList(random, random.Intn(16))
		checkMerges(t, part(random, all), part(random, all))
		checkMerges(t, all, nil)
		checkMerges(t, all, part(random, all))
	}
}

func TestP5MergesInAnyOrder(t *testing.T) {
	random := rand.New(rand.NewSource(8))
	for range 300 {
		all := anyList(random, 12)
		parts := [][]impl.LOp{part(random, all), part(random, all), part(random, all)}
		want := once(slices.Concat(parts...))
		everyOrder(parts, func(p [][]impl.LOp) {
			left := merged(t, merged(t, p[0], p[1]), p[2])
			right := merged(t, p[0], merged(t, p[1], p[2]))
			if !slices.Equal(left, want) || !slices.Equal(right, want) {
				t.Errorf("%s and %s, want %s", brief(left), brief(right), brief(want))
			}
		})
	}
}

// All pairs of small lists, those with faults too: the first one's code goes ahead of the second one's, and both of
// what comes of them together.
func TestP5EverySmallMerge(t *testing.T) {
	var lists [][]impl.LOp
	everyList(smallPool(), 2, func(ops []impl.LOp) { lists = append(lists, ops) })
	for _, a := range lists {
		for _, b := range lists {
			both := once(slices.Concat(a, b))
			code := listCode(a)
			if code == impl.OK {
				code = listCode(b)
			}
			if code == impl.OK {
				code = listCode(both)
			}
			if code != impl.OK {
				both = nil
			}
			checkMerge(t, a, b, both, code)
		}
	}
}

// Each valid by itself, and not together.
func TestP5MergeForks(t *testing.T) {
	a := goodOps()
	for _, twin := range []impl.LOp{ins(2, 1, stamp(1, 0), 'c'), ins(2, 1, start(), 'b'), del(2, 1, stamp(1, 0))} {
		b := []impl.LOp{ins(1, 0, start(), 'a'), twin}
		checkList(t, a)
		checkList(t, b)
		checkMerge(t, a, b, nil, impl.ErrFork)
		checkMerge(t, b, a, nil, impl.ErrFork)
	}
	// What one list lacks does not come from the other: each must stand by itself.
	lacking := []impl.LOp{ins(2, 0, stamp(1, 0), 'c')}
	checkMerge(t, lacking, a, nil, impl.ErrCause)
	checkMerge(t, a, lacking, nil, impl.ErrCause)
}

func TestP5MergeLimit(t *testing.T) {
	full, other := lined(impl.MaxOps, 2), lined(impl.MaxOps, 3)
	checkMerge(t, full, full, full, impl.OK)
	checkMerge(t, full, full[:700], full, impl.OK)
	checkMerge(t, full[:1], full, full, impl.OK)
	checkMerge(t, full, other[:1], nil, impl.ErrLong)
	checkMerge(t, other[:1], full, nil, impl.ErrLong)
	checkMerge(t, full, other, nil, impl.ErrLong)
	checkMerge(t, full[:2000], other[:49], nil, impl.ErrLong)
	just := merged(t, full[:2000], other[:48])
	if !slices.Equal(just, once(slices.Concat(full[:2000], other[:48]))) {
		t.Error("a merge that comes to just MaxOps is not all of both")
	}
	// What came twice in a list counts once together.
	half := full[:impl.MaxOps/2]
	twice := slices.Concat(half, half)
	if got := merged(t, twice, other[:impl.MaxOps/2]); len(got) != impl.MaxOps {
		t.Errorf("%d operations", len(got))
	}
	checkMerge(t, twice, other[:impl.MaxOps/2+1], nil, impl.ErrLong)
}

// Two unlike ones with one Id count both: so there may be too many of them ahead of their being unlike.
func TestP5MergeLimitAndFork(t *testing.T) {
	full := lined(impl.MaxOps, 2)
	twin := slices.Clone(full)
	twin[impl.MaxOps-1].Char = '!'
	checkMerge(t, full, twin, nil, impl.ErrLong)
	checkMerge(t, full[:impl.MaxOps-1], twin[:impl.MaxOps-1], full[:impl.MaxOps-1], impl.OK)
	near := slices.Clone(full[:impl.MaxOps-1])
	near[impl.MaxOps-2].Char = '!'
	checkMerge(t, full[:impl.MaxOps-1], near, nil, impl.ErrFork)
	checkMerge(t, near, full[:impl.MaxOps-1], nil, impl.ErrFork)
	checkMerge(t, full, near, nil, impl.ErrLong)
}

// Faults of both lists at once: the first list is looked at first.
func TestP5MergeCodes(t *testing.T) {
	long := make([]impl.LOp, impl.MaxOps+1)
	bad := []impl.LOp{{}}
	fork := []impl.LOp{ins(8, 0, start(), 'a'), ins(8, 0, start(), 'b')}
	cause := []impl.LOp{ins(9, 0, stamp(7, 7), 'a')}
	wrong := map[int][]impl.LOp{impl.ErrLong: long, impl.ErrBad: bad, impl.ErrFork: fork, impl.ErrCause: cause}
	for code, a := range wrong {
		checkMerge(t, a, goodOps(), nil, code)
		checkMerge(t, goodOps(), a, nil, code)
		for _, b := range wrong {
			checkMerge(t, a, b, nil, code)
		}
	}
	// A list's own fault goes ahead of what both have together.
	unlike := append(goodOps(), cause...)
	unlike[0].Char = 'z'
	checkMerge(t, goodOps(), unlike, nil, impl.ErrCause)
}
