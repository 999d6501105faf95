package tests

import (
	"math"
	"math/rand"
	"slices"
	"testing"

	"loop.example/g00028/impl"
)

// watchedMulti copies a state into memory that goes on behind both of its lists.
func watchedMulti(t *testing.T, m impl.Multi) (impl.Multi, func()) {
	t.Helper()
	counts, checkCounts := watched(t, m.Seen.Counts, 77)
	entries, checkEntries := watched(t, m.Entries, entry(88, 8, "behind"))
	check := func() {
		t.Helper()
		checkCounts()
		checkEntries()
	}
	return impl.Multi{Seen: impl.Vector{Counts: counts}, Entries: entries}, check
}

func watchedCounter(t *testing.T, c impl.Counter) (impl.Counter, func()) {
	t.Helper()
	plus, checkPlus := watched(t, c.Plus.Counts, 77)
	minus, checkMinus := watched(t, c.Minus.Counts, 78)
	check := func() {
		t.Helper()
		checkPlus()
		checkMinus()
	}
	return counter(impl.Vector{Counts: plus}, impl.Vector{Counts: minus}), check
}

func scribbleMulti(m impl.Multi) {
	scribble(m.Seen.Counts, -7)
	scribble(m.Entries, entry(-7, -7, "over"))
}

func scribbleCounter(c impl.Counter) {
	scribble(c.Plus.Counts, -7)
	scribble(c.Minus.Counts, -8)
}

func cloneMulti(m impl.Multi) impl.Multi {
	return multi(vector(m.Seen.Counts...), slices.Clone(m.Entries)...)
}

// makers are all that answer a state, each as a function of two.
func makers() map[string]func(a, b impl.Multi) (impl.Multi, int) {
	return map[string]func(a, b impl.Multi) (impl.Multi, int){
		"MultiWrite": func(a, _ impl.Multi) (impl.Multi, int) { return impl.MultiWrite(a, 3, "text 101") },
		"MultiJoin":  impl.MultiJoin,
		"SetAdd":     func(a, _ impl.Multi) (impl.Multi, int) { return setAdd(a, 3, "text 101") },
		"SetRemove":  func(a, _ impl.Multi) (impl.Multi, int) { return setRemove(a, "text 101") },
		"SetJoin":    setJoin,
	}
}

func memoryStates() []impl.Multi {
	return []impl.Multi{
		multi(vector()), multi(vector(4, 3), entry(2, 1, "a"), entry(3, 0, "text 101")), multi(vector(4, 5), entry(2, 1, "b"), entry(5, 1, "c")),
		crowd(0, 3, 2), crowd(1, 15, 17),
	}
}

func TestP1StatesAreNotWrittenInto(t *testing.T) {
	states := append(memoryStates(), outOfOrder()...)
	states = append(states, impl.Multi{}, multi(vector(-1)), multi(fullVector(impl.MaxTime), entry(1, 3, letters(201))), multi(vector(), entry(1, 99, "")))
	for _, one := range states {
		for _, other := range append(memoryStates(), crowd(0, 15, 17), impl.Multi{}) {
			a, checkA := watchedMulti(t, one)
			b, checkB := watchedMulti(t, other)
			for _, maker := range makers() {
				maker(a, b)
				maker(b, a)
				maker(a, a)
			}
			impl.SetElements(impl.Set(a))
			checkA()
			checkB()
		}
	}
}

func TestP1AnsweredStatesAreNew(t *testing.T) {
	for name, maker := range makers() {
		for _, one := range memoryStates() {
			for _, other := range memoryStates() {
				a, checkA := watchedMulti(t, one)
				b, checkB := watchedMulti(t, other)
				first, _ := maker(a, b)
				again, _ := maker(a, b)
				same, _ := maker(a, a)
				kept := cloneMulti(again)
				scribbleMulti(first)
				scribbleMulti(same)
				checkA()
				checkB()
				scribbleMulti(a)
				scribbleMulti(b)
				if len(again.Seen.Counts) > 0 && !sameMulti(again, kept) {
					t.Errorf("%s: an answer shares memory: %v, was %v", name, again, kept)
				}
			}
		}
	}
}

func TestP1AnsweredElementsAreNew(t *testing.T) {
	for _, m := range memoryStates() {
		a, check := watchedMulti(t, m)
		first, _ := impl.SetElements(impl.Set(a))
		again, _ := impl.SetElements(impl.Set(a))
		kept := slices.Clone(again)
		scribble(first, "over")
		check()
		scribbleMulti(a)
		if !slices.Equal(again, kept) {
			t.Errorf("%q, was %q", again, kept)
		}
	}
}

func TestP1CountersAreNotWrittenInto(t *testing.T) {
	for _, one := range append(wrongCounters(), counter(vector(4, 5), fullVector(3))) {
		for _, other := range []impl.Counter{{}, counter(vector(5, 4, 0, 9), fullVector(impl.MaxTime)), counter(vector(-1), vector())} {
			a, checkA := watchedCounter(t, one)
			b, checkB := watchedCounter(t, other)
			for _, n := range []int{math.MinInt, -3, 0, 3, math.MaxInt} {
				impl.CounterAdd(a, 2, n)
				impl.CounterAdd(b, -1, n)
			}
			impl.CounterJoin(a, b)
			impl.CounterJoin(b, a)
			impl.CounterValue(a)
			checkA()
			checkB()
		}
	}
}

func TestP1AnsweredCountersAreNew(t *testing.T) {
	one := vector(4, 5)
	for _, c := range [][2]impl.Counter{
		{counter(vector(1, 5), vector(3, 2)), counter(vector(2, 2), vector(4, 1))}, {counter(vector(), vector()), counter(vector(), vector())},
		// One list may be both sides of what is handed in.
		{counter(one, one), counter(one, one)},
	} {
		for name, maker := range map[string]func(a, b impl.Counter) (impl.Counter, int){
			"CounterJoin": impl.CounterJoin,
			"plus":        func(a, _ impl.Counter) (impl.Counter, int) { return impl.CounterAdd(a, 1, 5) },
			"minus":       func(a, _ impl.Counter) (impl.Counter, int) { return impl.CounterAdd(a, 1, -5) },
			"nothing":     func(a, _ impl.Counter) (impl.Counter, int) { return impl.CounterAdd(a, 1, 0) },
		} {
			plus, minus := slices.Clone(c[0].Plus.Counts), slices.Clone(c[0].Minus.Counts)
			first, _ := maker(c[0], c[1])
			again, _ := maker(c[0], c[1])
			kept := slices.Clone(again.Minus.Counts)
			scribbleCounter(first)
			scribble(again.Plus.Counts, -7)
			if !slices.Equal(again.Minus.Counts, kept) || !slices.Equal(c[0].Plus.Counts, plus) || !slices.Equal(c[0].Minus.Counts, minus) {
				t.Errorf("%s: an answer shares memory", name)
			}
		}
	}
}

// An empty list and nil are the same value.
func TestP1EmptyStates(t *testing.T) {
	for _, entries := range [][]impl.Entry{nil, {}} {
		m := impl.Multi{Seen: vector(2), Entries: entries}
		for name, maker := range makers() {
			got, code := maker(m, m)
			wantCode(t, name, code, impl.OK)
			if len(got.Seen.Counts) != 16 || len(got.Entries) > 1 {
				t.Errorf("%s: %v", name, got)
			}
		}
		checkElements(t, m)
	}
}

func anyState(random *rand.Rand) impl.Multi {
	numbers := []int{math.MinInt, -1, 0, 0, 1, 1, 2, 3, 3, impl.MaxTime, impl.MaxTime + 1, math.MaxInt}
	number := func() int { return numbers[random.Intn(len(numbers))] }
	m := impl.Multi{Seen: impl.Vector{Counts: make([]int, random.Intn(20))}}
	if random.Intn(3) > 0 {
		m.Seen = fullVector(3)
	}
	for range random.Intn(3) {
		if n := len(m.Seen.Counts); n > 0 {
			m.Seen.Counts[random.Intn(n)] = number()
		}
	}
	for range random.Intn(4) {
		m.Entries = append(m.Entries, entry(number(), random.Intn(18)-1, letters(random.Intn(250))))
	}
	return m
}

// No panic and an end, and nothing beside a code, for states of all kinds.
func TestP1AnyStates(t *testing.T) {
	random := rand.New(rand.NewSource(4))
	done := 0
	for range 20000 {
		a, b := anyState(random), anyState(random)
		for name, maker := range makers() {
			got, code := maker(a, b)
			if code != impl.OK {
				checkNoMulti(t, name, got, code, code)
			} else {
				done++
				checkMulti(t, name+", joined with itself", mustJoin(t, impl.MultiJoin, got, got), impl.OK, got)
			}
		}
		list, code := impl.SetElements(impl.Set(a))
		zeroWithCode(t, list, code)
		impl.CounterAdd(counter(a.Seen, b.Seen), random.Intn(20)-2, random.Int()-random.Int())
		impl.CounterJoin(counter(a.Seen, b.Seen), counter(b.Seen, a.Seen))
		impl.CounterValue(counter(a.Seen, b.Seen))
	}
	if done < 1000 {
		t.Errorf("only %d were done", done)
	}
}
