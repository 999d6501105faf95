package tests

import (
	"math"
	"testing"

	"loop.example/g00028/impl"
)

func counter(plus, minus impl.Vector) impl.Counter {
	return impl.Counter{Plus: plus, Minus: minus}
}

func sameCounter(a, b impl.Counter) bool {
	return sameVector(a.Plus, b.Plus) && sameVector(a.Minus, b.Minus)
}

func checkCounter(t *testing.T, what string, got impl.Counter, code int, want impl.Counter) {
	t.Helper()
	if code != impl.OK || !sameCounter(got, want) {
		t.Errorf("%s: %v, code %d, want %v", what, got, code, want)
	}
}

func checkNoCounter(t *testing.T, what string, got impl.Counter, code, want int) {
	t.Helper()
	if code != want || len(got.Plus.Counts) != 0 || len(got.Minus.Counts) != 0 {
		t.Errorf("%s: %.20v, code %d, want code %d", what, got, code, want)
	}
}

func mustJoinCounters(t *testing.T, a, b impl.Counter) impl.Counter {
	t.Helper()
	c, code := impl.CounterJoin(a, b)
	if code != impl.OK {
		t.Fatalf("CounterJoin(%v, %v): code %d", a, b, code)
	}
	return c
}

// someCounters are small ones in many ways, and some at the limits.
func someCounters() []impl.Counter {
	list := []impl.Counter{
		counter(fullVector(impl.MaxTime), vector()), counter(vector(), fullVector(impl.MaxTime)),
		counter(fullVector(impl.MaxTime), fullVector(impl.MaxTime)), counter(vectorOf(15, impl.MaxTime-1), vectorOf(15, 4)),
	}
	small := smallVectors()
	for i, plus := range small {
		list = append(list, counter(plus, small[(7*i+3)%27]))
	}
	return list
}

func wrongCounters() []impl.Counter {
	list := []impl.Counter{{}}
	for _, w := range wrongVectors() {
		list = append(list, counter(w, vector(1)), counter(vector(1), w), counter(w, w))
	}
	return list
}

func TestP4CounterAdd(t *testing.T) {
	for _, c := range someCounters() {
		for actor := range 16 {
			for _, n := range []int{0, 1, -1, 5, -7, impl.MaxTime - 1, 1 - impl.MaxTime, impl.MaxTime, -impl.MaxTime} {
				want := counter(vector(c.Plus.Counts...), vector(c.Minus.Counts...))
				want.Plus.Counts[actor] += max(n, 0)
				want.Minus.Counts[actor] += max(-n, 0)
				got, code := impl.CounterAdd(c, actor, n)
				if want.Plus.Counts[actor] > 1000000000000 || want.Minus.Counts[actor] > 1000000000000 {
					checkNoCounter(t, "CounterAdd", got, code, impl.ErrMany)
				} else {
					checkCounter(t, "CounterAdd", got, code, want)
				}
			}
		}
	}
}

func TestP4CounterAddToMaxTime(t *testing.T) {
	none := counter(vector(), vector())
	for actor := range 16 {
		up, code := impl.CounterAdd(none, actor, impl.MaxTime)
		checkCounter(t, "all at once", up, code, counter(vectorOf(actor, impl.MaxTime), vector()))
		down, code := impl.CounterAdd(up, actor, -impl.MaxTime)
		checkCounter(t, "all back", down, code, counter(vectorOf(actor, impl.MaxTime), vectorOf(actor, impl.MaxTime)))
		same, code := impl.CounterAdd(down, actor, 0)
		checkCounter(t, "nothing", same, code, down)
		for _, n := range []int{1, -1} {
			got, code := impl.CounterAdd(down, actor, n)
			checkNoCounter(t, "one more", got, code, impl.ErrMany)
		}
	}
}

func TestP4CounterValue(t *testing.T) {
	for _, c := range someCounters() {
		want := 0
		for actor := range 16 {
			want += c.Plus.Counts[actor]
		}
		for actor := range 16 {
			want -= c.Minus.Counts[actor]
		}
		if got, code := impl.CounterValue(c); got != want || code != impl.OK {
			t.Errorf("CounterValue(%v): %d, code %d, want %d", c, got, code, want)
		}
	}
	if got, _ := impl.CounterValue(counter(fullVector(impl.MaxTime), vector())); got != 16*impl.MaxTime {
		t.Errorf("%d", got)
	}
	if got, _ := impl.CounterValue(counter(vector(), fullVector(impl.MaxTime))); got != -16*impl.MaxTime {
		t.Errorf("%d", got)
	}
}

func TestP4CountersWhateverFirst(t *testing.T) {
	list := someCounters()
	for _, a := range list {
		for _, b := range list {
			both := mustJoinCounters(t, a, b)
			checkCounter(t, "by actor", both, impl.OK, counter(joined(t, a.Plus, b.Plus), joined(t, a.Minus, b.Minus)))
			checkCounter(t, "the other first", mustJoinCounters(t, b, a), impl.OK, both)
			checkCounter(t, "once more", mustJoinCounters(t, both, a), impl.OK, both)
			for _, c := range list {
				checkCounter(t, "of three", mustJoinCounters(t, a, mustJoinCounters(t, b, c)), impl.OK, mustJoinCounters(t, both, c))
			}
		}
		checkCounter(t, "with itself", mustJoinCounters(t, a, a), impl.OK, a)
	}
}

func TestP4CounterAddOfWrongArguments(t *testing.T) {
	for _, c := range someCounters() {
		for _, actor := range []int{-1, 16, 17, math.MinInt, math.MaxInt} {
			for _, n := range []int{0, 1, impl.MaxTime, math.MaxInt} {
				got, code := impl.CounterAdd(c, actor, n)
				checkNoCounter(t, "CounterAdd by no actor", got, code, impl.ErrRange)
			}
		}
		for _, n := range []int{impl.MaxTime + 1, -impl.MaxTime - 1, impl.MaxNum, -impl.MaxNum, math.MaxInt, math.MinInt, math.MinInt + 1} {
			got, code := impl.CounterAdd(c, 3, n)
			checkNoCounter(t, "CounterAdd of a number beyond", got, code, impl.ErrRange)
		}
	}
}

func TestP4WrongCounters(t *testing.T) {
	for _, w := range wrongCounters() {
		for _, actor := range []int{0, 15, -1, 16} {
			for _, n := range []int{0, -1, impl.MaxTime, impl.MaxTime + 1, math.MinInt} {
				got, code := impl.CounterAdd(w, actor, n)
				checkNoCounter(t, "CounterAdd", got, code, impl.ErrBad)
			}
		}
		for _, c := range append(someCounters(), w) {
			got, code := impl.CounterJoin(w, c)
			checkNoCounter(t, "CounterJoin", got, code, impl.ErrBad)
			got, code = impl.CounterJoin(c, w)
			checkNoCounter(t, "CounterJoin", got, code, impl.ErrBad)
		}
		if n, code := impl.CounterValue(w); n != 0 || code != impl.ErrBad {
			t.Errorf("CounterValue(%.20v): %d, code %d", w, n, code)
		}
	}
}
