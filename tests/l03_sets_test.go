package tests

import (
	"math"
	"slices"
	"testing"

	"loop.example/g00028/impl"
)

// others gives the entries whose texts are unlike this one.
func others(m impl.Multi, text string) []impl.Entry {
	var list []impl.Entry
	for _, e := range m.Entries {
		if e.Text != text {
			list = append(list, e)
		}
	}
	return list
}

// withEntry puts an entry to its place by stamp.
func withEntry(list []impl.Entry, e impl.Entry) []impl.Entry {
	at := 0
	for at < len(list) && impl.StampLess(list[at].Stamp, e.Stamp) {
		at++
	}
	return slices.Insert(slices.Clone(list), at, e)
}

func added(t *testing.T, m impl.Multi, actor int, text string) impl.Multi {
	t.Helper()
	got, code := setAdd(m, actor, text)
	if code != impl.OK {
		t.Fatalf("SetAdd(%v, %d, %q): code %d", m, actor, text, code)
	}
	return got
}

func removed(t *testing.T, m impl.Multi, text string) impl.Multi {
	t.Helper()
	got, code := setRemove(m, text)
	if code != impl.OK {
		t.Fatalf("SetRemove(%v, %q): code %d", m, text, code)
	}
	return got
}

func checkElements(t *testing.T, m impl.Multi, want ...string) {
	t.Helper()
	if got, code := impl.SetElements(impl.Set(m)); code != impl.OK || !slices.Equal(got, want) {
		t.Errorf("SetElements(%v): %q, code %d, want %q", m, got, code, want)
	}
}

func someTexts(m impl.Multi) []string {
	list := []string{"", "x", "xy", "not there", "\xff\x00", letters(200)}
	for i := 0; i < len(m.Entries); i += 50 {
		list = append(list, m.Entries[i].Text)
	}
	return list
}

func TestP4AddToEveryState(t *testing.T) {
	for _, m := range append(smallStates(), edgeStates()...) {
		for _, actor := range []int{0, 1, 3, 14, 15} {
			for _, text := range someTexts(m) {
				got, code := setAdd(m, actor, text)
				stay := others(m, text)
				if m.Seen.Counts[actor] == 1000000000000 || len(stay) == 256 {
					checkNoMulti(t, "SetAdd", got, code, impl.ErrMany)
					continue
				}
				seen := counted(m.Seen, actor)
				checkMulti(t, "SetAdd", got, code, multi(seen, withEntry(stay, entry(seen.Counts[actor], actor, text))...))
			}
		}
	}
}

func TestP4RemoveFromEveryState(t *testing.T) {
	for _, m := range append(smallStates(), edgeStates()...) {
		for _, text := range someTexts(m) {
			checkMulti(t, "SetRemove", removed(t, m, text), impl.OK, multi(m.Seen, others(m, text)...))
		}
	}
}

func TestP4ElementsOfEveryState(t *testing.T) {
	for _, m := range append(smallStates(), edgeStates()...) {
		held := map[string]int{}
		for _, e := range m.Entries {
			held[e.Text]++
		}
		var want []string
		for text := range held {
			want = append(want, text)
		}
		slices.Sort(want)
		checkElements(t, m, want...)
	}
}

func TestP4ElementsRiseByBytes(t *testing.T) {
	m := multi(vector())
	for _, text := range []string{"b", "\xff", "ab", "", "a", "B", "a\x00", "b", "é", "a"} {
		m = added(t, m, 4, text)
	}
	checkElements(t, m, "", "B", "a", "a\x00", "ab", "b", "é", "\xff")
}

// A text stands in several entries if several added it and did not see each other do so.
func TestP4SameTextInSeveralEntries(t *testing.T) {
	none := multi(vector())
	a, b := added(t, none, 0, "fig"), added(t, added(t, none, 9, "pear"), 9, "fig")
	both := mustJoin(t, setJoin, a, b)
	checkMulti(t, "SetJoin", both, impl.OK, multi(joined(t, vector(1), vectorOf(9, 2)), entry(1, 0, "fig"), entry(1, 9, "pear"), entry(2, 9, "fig")))
	checkElements(t, both, "fig", "pear")
	checkElements(t, removed(t, both, "fig"), "pear")
	again := added(t, both, 0, "fig")
	checkMulti(t, "SetAdd", again, impl.OK, multi(again.Seen, entry(1, 9, "pear"), entry(2, 0, "fig")))
	// Taken away by one who saw one of the two: the other one stays.
	checkElements(t, mustJoin(t, setJoin, removed(t, a, "fig"), b), "fig", "pear")
	checkElements(t, mustJoin(t, setJoin, removed(t, both, "fig"), b), "pear")
}

// Taken away on one side and added on the other: the adding was not seen, and stays.
func TestP4TakenAwayAndAdded(t *testing.T) {
	start := added(t, added(t, multi(vector()), 1, "pear"), 2, "fig")
	gone := removed(t, start, "pear")
	again := added(t, start, 3, "pear")
	for _, m := range []impl.Multi{mustJoin(t, setJoin, gone, again), mustJoin(t, setJoin, again, gone)} {
		checkElements(t, m, "fig", "pear")
		checkMulti(t, "SetJoin", m, impl.OK, multi(vector(0, 1, 1, 1), entry(1, 2, "fig"), entry(1, 3, "pear")))
		checkElements(t, mustJoin(t, setJoin, m, start), "fig", "pear")
		checkElements(t, mustJoin(t, setJoin, removed(t, m, "pear"), again), "fig")
	}
	checkElements(t, mustJoin(t, setJoin, gone, start), "fig")
	checkElements(t, mustJoin(t, setJoin, start, gone), "fig")
	// Removing what one has not does not take it from who has it.
	checkElements(t, mustJoin(t, setJoin, removed(t, multi(vector()), "pear"), start), "fig", "pear")
	checkMulti(t, "SetRemove", removed(t, start, "plum"), impl.OK, start)
}

func TestP4AddMaxEntries(t *testing.T) {
	full := crowd(0, 15, 16)
	for _, actor := range []int{0, 7, 15} {
		got, code := setAdd(full, actor, "one more")
		checkNoMulti(t, "SetAdd to a full set", got, code, impl.ErrMany)
		// A text that is there makes room for itself, one that is taken away for another.
		if m := added(t, full, actor, full.Entries[40].Text); len(m.Entries) != 256 {
			t.Errorf("%d entries", len(m.Entries))
		}
		less := removed(t, full, full.Entries[40].Text)
		if m := added(t, less, actor, "one more"); len(less.Entries) != 255 || len(m.Entries) != 256 {
			t.Errorf("%d and %d entries", len(less.Entries), len(m.Entries))
		}
	}
}

func TestP4AddCountsToMaxTime(t *testing.T) {
	for actor := range 16 {
		last := added(t, multi(vectorOf(actor, impl.MaxTime-1)), actor, "last")
		checkMulti(t, "SetAdd", last, impl.OK, multi(vectorOf(actor, impl.MaxTime), entry(impl.MaxTime, actor, "last")))
		for _, text := range []string{"last", "more"} {
			got, code := setAdd(last, actor, text)
			checkNoMulti(t, "SetAdd", got, code, impl.ErrMany)
		}
		checkElements(t, added(t, last, (actor+1)%16, "other"), "last", "other")
	}
}

func TestP4SetsOfWrongArguments(t *testing.T) {
	for _, m := range []impl.Multi{multi(vector()), multi(vector(3), entry(2, 0, "a")), crowd(0, 15, 16), multi(fullVector(impl.MaxTime))} {
		for _, actor := range []int{-1, 16, 17, math.MinInt, math.MaxInt} {
			for _, text := range []string{"", "a", letters(201)} {
				got, code := setAdd(m, actor, text)
				checkNoMulti(t, "SetAdd by no actor", got, code, impl.ErrRange)
			}
		}
		for _, size := range []int{201, 202, impl.MaxBytes, impl.MaxBytes + 1} {
			got, code := setAdd(m, 3, letters(size))
			checkNoMulti(t, "SetAdd of a long text", got, code, impl.ErrRange)
			got, code = setRemove(m, letters(size))
			checkNoMulti(t, "SetRemove of a long text", got, code, impl.ErrRange)
		}
	}
}

func TestP4WrongSets(t *testing.T) {
	for _, w := range wrongStates() {
		for _, text := range []string{"", "a", letters(201)} {
			for _, actor := range []int{0, 5, 15, -1, 16} {
				got, code := setAdd(w, actor, text)
				checkNoMulti(t, "SetAdd", got, code, impl.ErrBad)
			}
			got, code := setRemove(w, text)
			checkNoMulti(t, "SetRemove", got, code, impl.ErrBad)
		}
		list, code := impl.SetElements(impl.Set(w))
		wantCode(t, "SetElements", code, impl.ErrBad)
		zeroWithCode(t, list, code)
	}
}
