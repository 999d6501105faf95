package tests

import (
	"math"
	"slices"
	"testing"

	"loop.example/g00028/impl"
)

// vector tells the first counts; the others are 0.
func vector(first ...int) impl.Vector {
	counts := make([]int, 16)
	copy(counts, first)
	return impl.Vector{Counts: counts}
}

// vectorOf has n for one actor alone.
func vectorOf(actor, n int) impl.Vector {
	v := vector()
	v.Counts[actor] = n
	return v
}

func fullVector(n int) impl.Vector {
	return impl.Vector{Counts: slices.Repeat([]int{n}, 16)}
}

// smallVectors are all with counts of 0 to 2 of three actors.
func smallVectors() []impl.Vector {
	var list []impl.Vector
	for i := range 27 {
		v := vector()
		v.Counts[0], v.Counts[7], v.Counts[15] = i%3, i/3%3, i/9
		list = append(list, v)
	}
	return list
}

func someVectors() []impl.Vector {
	list := append(smallVectors(), fullVector(1), fullVector(impl.MaxTime), vector(1, 2, 3, 4, 5, 6, 7, 8, 9, 8, 7, 6, 5, 4, 3, 2))
	for actor := range 16 {
		list = append(list, vectorOf(actor, 1), vectorOf(actor, impl.MaxTime-1), vectorOf(actor, impl.MaxTime))
	}
	return list
}

func wrongVectors() []impl.Vector {
	var list []impl.Vector
	for _, size := range []int{0, 1, 2, 8, 15, 17, 18, 32, impl.MaxList, impl.MaxList + 1} {
		list = append(list, impl.Vector{Counts: make([]int, size)}, impl.Vector{Counts: slices.Repeat([]int{3}, size)})
	}
	list = append(list, impl.Vector{})
	for actor := range 16 {
		for _, n := range []int{-1, -2, -impl.MaxTime, math.MinInt, impl.MaxTime + 1, impl.MaxNum, math.MaxInt} {
			list = append(list, vectorOf(actor, n))
		}
	}
	return list
}

// notAbove tells whether no count of a is above that of b.
func notAbove(a, b impl.Vector) bool {
	for i, n := range a.Counts {
		if n > b.Counts[i] {
			return false
		}
	}
	return true
}

func sameVector(a, b impl.Vector) bool { return slices.Equal(a.Counts, b.Counts) }

func checkOrder(t *testing.T, a, b impl.Vector, want int) {
	t.Helper()
	if got, code := impl.VecOrder(a, b); got != want || code != impl.OK {
		t.Errorf("VecOrder(%v, %v): %d, code %d, want %d", a.Counts, b.Counts, got, code, want)
	}
}

func joined(t *testing.T, a, b impl.Vector) impl.Vector {
	t.Helper()
	v, code := impl.VecJoin(a, b)
	if code != impl.OK || !impl.VecOK(v) {
		t.Fatalf("VecJoin(%v, %v): %v, code %d", a.Counts, b.Counts, v.Counts, code)
	}
	return v
}

func met(t *testing.T, a, b impl.Vector) impl.Vector {
	t.Helper()
	v, code := impl.VecMeet(a, b)
	if code != impl.OK || !impl.VecOK(v) {
		t.Fatalf("VecMeet(%v, %v): %v, code %d", a.Counts, b.Counts, v.Counts, code)
	}
	return v
}

func TestP3ValidVectors(t *testing.T) {
	for _, v := range append(someVectors(), vector(), fullVector(0)) {
		if !impl.VecOK(v) {
			t.Errorf("%v is valid", v.Counts)
		}
	}
	for _, v := range wrongVectors() {
		if impl.VecOK(v) {
			t.Errorf("%.20v is not valid", v.Counts)
		}
	}
}

func TestP3OrderOfVectors(t *testing.T) {
	for _, a := range someVectors() {
		for _, b := range someVectors() {
			want := impl.Beside
			if sameVector(a, b) {
				want = impl.Same
			} else if notAbove(a, b) {
				want = impl.Before
			} else if notAbove(b, a) {
				want = impl.After
			}
			checkOrder(t, a, b, want)
		}
	}
}

func TestP3OrderHangsOnEveryActor(t *testing.T) {
	for actor := range 16 {
		checkOrder(t, vector(), vectorOf(actor, 1), impl.Before)
		checkOrder(t, vectorOf(actor, 1), vector(), impl.After)
		checkOrder(t, vectorOf(actor, impl.MaxTime), vectorOf(actor, impl.MaxTime), impl.Same)
		checkOrder(t, vectorOf(actor, impl.MaxTime), vectorOf(actor, impl.MaxTime-1), impl.After)
		checkOrder(t, vectorOf(actor, 1), vectorOf((actor+1)%16, 1), impl.Beside)
		checkOrder(t, vectorOf(actor, 1), vectorOf((actor+15)%16, impl.MaxTime), impl.Beside)
		without := fullVector(5)
		without.Counts[actor] = 4
		checkOrder(t, without, fullVector(5), impl.Before)
		without.Counts[actor] = 6
		checkOrder(t, without, fullVector(5), impl.After)
		without.Counts[(actor+3)%16] = 4
		checkOrder(t, without, fullVector(5), impl.Beside)
	}
}

func TestP3JoinsAndMeetsByActor(t *testing.T) {
	for _, a := range someVectors() {
		for _, b := range someVectors() {
			greater, lesser := joined(t, a, b), met(t, a, b)
			for actor := range 16 {
				x, y := a.Counts[actor], b.Counts[actor]
				if greater.Counts[actor] != max(x, y) || lesser.Counts[actor] != min(x, y) {
					t.Fatalf("%v and %v: %v, %v", a.Counts, b.Counts, greater.Counts, lesser.Counts)
				}
			}
		}
	}
}

// beforeOrSame asks the program itself: the promise is about what VecOrder tells.
func beforeOrSame(t *testing.T, a, b impl.Vector) bool {
	t.Helper()
	order, code := impl.VecOrder(a, b)
	wantCode(t, "VecOrder", code, impl.OK)
	return order == impl.Before || order == impl.Same
}

func TestP3JoinIsTheLeastAbove(t *testing.T) {
	all := smallVectors()
	for _, a := range all {
		for _, b := range all {
			above, below := joined(t, a, b), met(t, a, b)
			if !beforeOrSame(t, a, above) || !beforeOrSame(t, b, above) || !beforeOrSame(t, below, a) || !beforeOrSame(t, below, b) {
				t.Errorf("%v and %v: %v, %v", a.Counts, b.Counts, above.Counts, below.Counts)
			}
			for _, c := range all {
				if notAbove(a, c) && notAbove(b, c) && !beforeOrSame(t, above, c) {
					t.Errorf("%v is above %v and %v, but not above their join", c.Counts, a.Counts, b.Counts)
				}
				if notAbove(c, a) && notAbove(c, b) && !beforeOrSame(t, c, below) {
					t.Errorf("%v is below %v and %v, but not below their meet", c.Counts, a.Counts, b.Counts)
				}
			}
		}
	}
}

func TestP3WrongVectors(t *testing.T) {
	for _, wrong := range wrongVectors() {
		for _, pair := range [][2]impl.Vector{{wrong, vector(1)}, {vector(1), wrong}, {wrong, wrong}} {
			a, b := pair[0], pair[1]
			v, code := impl.VecJoin(a, b)
			wantCode(t, "VecJoin", code, impl.ErrBad)
			zeroWithCode(t, v.Counts, code)
			v, code = impl.VecMeet(a, b)
			wantCode(t, "VecMeet", code, impl.ErrBad)
			zeroWithCode(t, v.Counts, code)
			if order, code := impl.VecOrder(a, b); order != 0 || code != impl.ErrBad {
				t.Errorf("VecOrder(%.20v, %.20v): %d, code %d", a.Counts, b.Counts, order, code)
			}
		}
	}
}

func TestP1VectorsAreNotWrittenInto(t *testing.T) {
	for _, first := range append(wrongVectors(), vector(4, 5, 6), fullVector(2)) {
		for _, second := range []impl.Vector{{}, vector(5, 4, 0, 9), fullVector(impl.MaxTime), vector(-1)} {
			a, checkA := watched(t, first.Counts, 55)
			b, checkB := watched(t, second.Counts, 56)
			v, w := impl.Vector{Counts: a}, impl.Vector{Counts: b}
			impl.VecOK(v)
			for _, pair := range [][2]impl.Vector{{v, w}, {w, v}, {v, v}} {
				impl.VecJoin(pair[0], pair[1])
				impl.VecMeet(pair[0], pair[1])
				impl.VecOrder(pair[0], pair[1])
			}
			impl.VecBytes(v)
			checkA()
			checkB()
		}
	}
}

func TestP1AnswersOfVectorsAreNew(t *testing.T) {
	for name, both := range map[string]func(a, b impl.Vector) (impl.Vector, int){"VecJoin": impl.VecJoin, "VecMeet": impl.VecMeet} {
		for _, c := range [][2]impl.Vector{{vector(1, 5), vector(3, 2)}, {vector(1), vector(2)}, {vector(2), vector(1)}, {vector(3), vector(3)}, {vector(), vector()}} {
			a, checkA := watched(t, c[0].Counts, 55)
			b, checkB := watched(t, c[1].Counts, 56)
			v, w := impl.Vector{Counts: a}, impl.Vector{Counts: b}
			first, _ := both(v, w)
			again, _ := both(v, w)
			same, _ := both(v, v)
			kept := slices.Clone(again.Counts)
			scribble(first.Counts, -7)
			scribble(same.Counts, -8)
			checkA()
			checkB()
			scribble(a, -9)
			scribble(b, -10)
			if !slices.Equal(again.Counts, kept) {
				t.Errorf("%s: an answer shares memory: %v, was %v", name, again.Counts, kept)
			}
		}
	}
}
