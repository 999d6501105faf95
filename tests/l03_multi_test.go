package tests

import (
	"math"
	"slices"
	"testing"

	"loop.example/g00028/impl"
)

// counted is a Seen with one more of an actor's.
func counted(seen impl.Vector, actor int) impl.Vector {
	counts := slices.Clone(seen.Counts)
	counts[actor]++
	return impl.Vector{Counts: counts}
}

func wrote(t *testing.T, m impl.Multi, actor int, text string) impl.Multi {
	t.Helper()
	got, code := impl.MultiWrite(m, actor, text)
	if code != impl.OK {
		t.Fatalf("MultiWrite(%v, %d, %q): code %d", m, actor, text, code)
	}
	return got
}

func TestP4WriteTakesAllElseAway(t *testing.T) {
	for _, m := range append(smallStates(), edgeStates()...) {
		for actor := range 16 {
			for _, text := range []string{"", "x", "new", "\xff\x00", letters(200)} {
				got, code := impl.MultiWrite(m, actor, text)
				if m.Seen.Counts[actor] == 1000000000000 {
					checkNoMulti(t, "MultiWrite", got, code, impl.ErrMany)
					continue
				}
				seen := counted(m.Seen, actor)
				checkMulti(t, "MultiWrite", got, code, multi(seen, entry(seen.Counts[actor], actor, text)))
			}
		}
	}
}

func TestP4WriteCountsToMaxTime(t *testing.T) {
	for actor := range 16 {
		last := wrote(t, multi(vectorOf(actor, impl.MaxTime-1)), actor, "last")
		checkMulti(t, "MultiWrite", last, impl.OK, multi(vectorOf(actor, impl.MaxTime), entry(impl.MaxTime, actor, "last")))
		got, code := impl.MultiWrite(last, actor, "more")
		checkNoMulti(t, "MultiWrite", got, code, impl.ErrMany)
		other := (actor + 1) % 16
		got = wrote(t, last, other, "other")
		if !slices.Equal(got.Entries, []impl.Entry{entry(1, other, "other")}) {
			t.Errorf("%v", got)
		}
	}
}

// Two that did not see each other's writes have both; who has seen both and writes has one again.
func TestP4WritesBesideEachOther(t *testing.T) {
	none := multi(vector())
	a, b := wrote(t, wrote(t, none, 3, "old"), 3, "a"), wrote(t, none, 2, "b")
	both := mustJoin(t, impl.MultiJoin, a, b)
	checkMulti(t, "MultiJoin", both, impl.OK, multi(vector(0, 0, 1, 2), entry(1, 2, "b"), entry(2, 3, "a")))
	c := wrote(t, both, 2, "c")
	for _, m := range []impl.Multi{a, b, both, none} {
		checkMulti(t, "MultiJoin", mustJoin(t, impl.MultiJoin, m, c), impl.OK, c)
	}
	// d did not see c, and c not d.
	d := wrote(t, b, 5, "d")
	checkMulti(t, "MultiJoin", mustJoin(t, impl.MultiJoin, c, d), impl.OK, multi(vector(0, 0, 2, 2, 0, 1), entry(1, 5, "d"), entry(2, 2, "c")))
}

func TestP4WriteOfWrongArguments(t *testing.T) {
	full := multi(fullVector(impl.MaxTime))
	for _, m := range []impl.Multi{multi(vector()), multi(vector(3), entry(2, 0, "a")), crowd(0, 15, 16), full} {
		for _, actor := range []int{-1, 16, 17, math.MinInt, math.MaxInt} {
			for _, text := range []string{"", "a", letters(201)} {
				got, code := impl.MultiWrite(m, actor, text)
				checkNoMulti(t, "MultiWrite by no actor", got, code, impl.ErrRange)
			}
		}
		for _, size := range []int{201, 202, impl.MaxBytes, impl.MaxBytes + 1} {
			got, code := impl.MultiWrite(m, 3, letters(size))
			checkNoMulti(t, "MultiWrite of a long text", got, code, impl.ErrRange)
		}
	}
}

func TestP4WriteOfWrongStates(t *testing.T) {
	for _, w := range wrongStates() {
		for _, actor := range []int{0, 5, 15, -1, 16} {
			for _, text := range []string{"", "a", letters(201)} {
				got, code := impl.MultiWrite(w, actor, text)
				checkNoMulti(t, "MultiWrite", got, code, impl.ErrBad)
			}
		}
	}
}
