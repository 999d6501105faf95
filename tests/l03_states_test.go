package tests

import (
	"cmp"
	"slices"
	"strconv"
	"testing"

	"loop.example/g00028/impl"
)

// A Set has the parts of a Multi, so what is said here of a Multi serves both: impl.Set(m).

func entry(time, actor int, text string) impl.Entry {
	return impl.Entry{Stamp: stamp(time, actor), Text: text}
}

func multi(seen impl.Vector, entries ...impl.Entry) impl.Multi {
	return impl.Multi{Seen: seen, Entries: entries}
}

func sameMulti(a, b impl.Multi) bool {
	return sameVector(a.Seen, b.Seen) && slices.Equal(a.Entries, b.Entries)
}

func checkMulti(t *testing.T, what string, got impl.Multi, code int, want impl.Multi) {
	t.Helper()
	if code != impl.OK || !sameMulti(got, want) {
		t.Fatalf("%s: %v, code %d, want %v", what, got, code, want)
	}
}

// checkNoMulti checks that a code came, and with it nothing else.
func checkNoMulti(t *testing.T, what string, got impl.Multi, code, want int) {
	t.Helper()
	if code != want || len(got.Seen.Counts) != 0 || len(got.Entries) != 0 {
		t.Errorf("%s: %.20v, code %d, want code %d", what, got, code, want)
	}
}

func setJoin(a, b impl.Multi) (impl.Multi, int) {
	s, code := impl.SetJoin(impl.Set(a), impl.Set(b))
	return impl.Multi(s), code
}

func setAdd(m impl.Multi, actor int, text string) (impl.Multi, int) {
	s, code := impl.SetAdd(impl.Set(m), actor, text)
	return impl.Multi(s), code
}

func setRemove(m impl.Multi, text string) (impl.Multi, int) {
	s, code := impl.SetRemove(impl.Set(m), text)
	return impl.Multi(s), code
}

type joinFunc = func(a, b impl.Multi) (impl.Multi, int)

func joins() map[string]joinFunc {
	return map[string]joinFunc{"MultiJoin": impl.MultiJoin, "SetJoin": setJoin}
}

// withEntries gives all states with this Seen: each of the stamps, which rise, is held with one of two texts or was taken away.
func withEntries(seen impl.Vector, stamps []impl.Stamp) []impl.Multi {
	list := []impl.Multi{multi(seen)}
	for _, s := range stamps {
		for _, m := range list {
			for _, text := range []string{"x", "xy"} {
				list = append(list, multi(seen, append(slices.Clone(m.Entries), impl.Entry{Stamp: s, Text: text})...))
			}
		}
	}
	return list
}

// smallStates are all in which actor 0 has written up to two times and actor 15 at most once.
func smallStates() []impl.Multi {
	var list []impl.Multi
	for i := range 6 {
		seen := vector(i % 3)
		seen.Counts[15] = i / 3
		var stamps []impl.Stamp
		for _, s := range []impl.Stamp{stamp(1, 0), stamp(1, 15), stamp(2, 0)} {
			if s.Time <= seen.Counts[s.Actor] {
				stamps = append(stamps, s)
			}
		}
		list = append(list, withEntries(seen, stamps)...)
	}
	return list
}

// crowd has an entry for each of so many writes of each of the actors from first to last, all with unlike texts.
func crowd(first, last, writes int) impl.Multi {
	m := multi(vector())
	for time := 1; time <= writes; time++ {
		for actor := first; actor <= last; actor++ {
			m.Seen.Counts[actor] = writes
			m.Entries = append(m.Entries, entry(time, actor, "text "+strconv.Itoa(100*time+actor)))
		}
	}
	return m
}

// edgeStates are valid, each just so.
func edgeStates() []impl.Multi {
	list := []impl.Multi{
		multi(vector()), multi(fullVector(impl.MaxTime)), multi(fullVector(impl.MaxTime), entry(impl.MaxTime, 15, letters(200))),
		multi(vector(2), entry(1, 0, ""), entry(2, 0, "")), multi(fullVector(7), entry(3, 4, "\xff"), entry(3, 5, "a\x00"), entry(4, 0, "a")),
		crowd(0, 15, 16), crowd(3, 3, 256), crowd(0, 7, 32),
	}
	for actor := range 16 {
		for _, n := range []int{1, 2, impl.MaxTime} {
			list = append(list, multi(vectorOf(actor, n), entry(n, actor, "at the count")))
		}
	}
	return list
}

func wrongEntries() []impl.Entry {
	list := []impl.Entry{{}, {Text: "text"}, entry(1, 3, letters(201)), entry(1, 3, letters(impl.MaxBytes+1))}
	for _, s := range wrongStamps() {
		list = append(list, impl.Entry{Stamp: s, Text: "w"}, impl.Entry{Stamp: s})
	}
	return list
}

func wrongStates() []impl.Multi {
	var list []impl.Multi
	for _, v := range wrongVectors() {
		list = append(list, multi(v), multi(v, entry(1, 1, "e")))
	}
	seen, fine := fullVector(impl.MaxTime), entry(5, 5, "fine")
	for _, e := range wrongEntries() {
		list = append(list, multi(seen, e), multi(seen, e, fine), multi(seen, fine, e), multi(seen, fine, e, entry(impl.MaxTime, 15, "")))
	}
	for actor := range 16 {
		for _, n := range []int{0, 1, 7, impl.MaxTime - 1} {
			list = append(list, multi(vectorOf(actor, n), entry(n+1, actor, "just above")))
		}
		without := fullVector(9)
		without.Counts[actor] = 0
		list = append(list, multi(without, entry(1, actor, "of another's count")))
	}
	return append(list, outOfOrder()...)
}

func outOfOrder() []impl.Multi {
	seen := fullVector(9)
	tooMany := crowd(0, 15, 17)
	tooMany.Entries = tooMany.Entries[:257]
	return []impl.Multi{
		multi(seen, entry(2, 0, "a"), entry(1, 0, "b")), multi(seen, entry(1, 1, "a"), entry(1, 0, "b")),
		multi(seen, entry(2, 0, "a"), entry(1, 15, "b")), multi(seen, entry(1, 0, "a"), entry(3, 0, "b"), entry(2, 15, "c")),
		multi(seen, entry(1, 0, "a"), entry(1, 0, "a")), multi(seen, entry(1, 0, "a"), entry(1, 0, "b")),
		multi(seen, entry(1, 0, "b"), entry(1, 0, "a")), multi(seen, entry(1, 0, "a"), entry(2, 3, "b"), entry(2, 3, "c"), entry(4, 4, "d")),
		tooMany, crowd(0, 15, 300), crowd(2, 2, 257),
	}
}

func textAt(m impl.Multi, s impl.Stamp) (string, bool) {
	for _, e := range m.Entries {
		if e.Stamp == s {
			return e.Text, true
		}
	}
	return "", false
}

func sortStamps(list []impl.Stamp) []impl.Stamp {
	slices.SortFunc(list, func(a, b impl.Stamp) int {
		return cmp.Or(cmp.Compare(a.Time, b.Time), cmp.Compare(a.Actor, b.Actor))
	})
	return slices.Compact(list)
}

// joinOf tells a join by another program than the project's: each stamp of both is asked for in turn.
func joinOf(a, b impl.Multi) impl.Multi {
	both := multi(vector())
	for actor := range 16 {
		both.Seen.Counts[actor] = max(a.Seen.Counts[actor], b.Seen.Counts[actor])
	}
	var stamps []impl.Stamp
	for _, e := range append(slices.Clone(a.Entries), b.Entries...) {
		stamps = append(stamps, e.Stamp)
	}
	for _, s := range sortStamps(stamps) {
		inA, okA := textAt(a, s)
		inB, okB := textAt(b, s)
		if okA && okB || okA && b.Seen.Counts[s.Actor] < s.Time || okB && a.Seen.Counts[s.Actor] < s.Time {
			both.Entries = append(both.Entries, impl.Entry{Stamp: s, Text: max(inA, inB)})
		}
	}
	return both
}

// mustJoin is a join that has to be done.
func mustJoin(t *testing.T, join joinFunc, a, b impl.Multi) impl.Multi {
	t.Helper()
	m, code := join(a, b)
	if code != impl.OK {
		t.Fatalf("the join of %v and %v has code %d", a, b, code)
	}
	return m
}
