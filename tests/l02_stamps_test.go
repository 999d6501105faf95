package tests

import (
	"math"
	"testing"

	"loop.example/g00028/impl"
)

func stamp(time, actor int) impl.Stamp { return impl.Stamp{Time: time, Actor: actor} }

// anyTimes and anyActors rise; the good ones are told by goodTime and goodActor alone.
func anyTimes() []int {
	return []int{math.MinInt, -impl.MaxTime, -1, 0, 1, 2, impl.MaxTime - 1, impl.MaxTime, impl.MaxTime + 1, math.MaxInt}
}

func anyActors() []int {
	return []int{math.MinInt, -1, 0, 1, 14, 15, 16, 17, math.MaxInt}
}

func goodTime(time int) bool { return time > 0 && time <= 1000000000000 }

func goodActor(actor int) bool { return actor > -1 && actor < 16 }

// anyStamps are stamps of all kinds, each above the one ahead.
func anyStamps() []impl.Stamp {
	var list []impl.Stamp
	for _, time := range anyTimes() {
		for _, actor := range anyActors() {
			list = append(list, stamp(time, actor))
		}
	}
	return list
}

func wrongStamps() []impl.Stamp {
	var list []impl.Stamp
	for _, s := range anyStamps() {
		if s != (impl.Stamp{}) && !(goodTime(s.Time) && goodActor(s.Actor)) {
			list = append(list, s)
		}
	}
	return list
}

func checkNext(t *testing.T, list []impl.Stamp, actor int, want impl.Stamp) {
	t.Helper()
	if got, code := impl.StampNext(list, actor); got != want || code != impl.OK {
		t.Errorf("StampNext(%.6v, %d): %v, code %d, want %v", list, actor, got, code, want)
	}
}

func checkNoNext(t *testing.T, list []impl.Stamp, actor, want int) {
	t.Helper()
	if got, code := impl.StampNext(list, actor); got != (impl.Stamp{}) || code != want {
		t.Errorf("StampNext(%.6v, %d): %v, code %d, want code %d", list, actor, got, code, want)
	}
}

func TestP3StampLimits(t *testing.T) {
	if impl.Actors != 16 || impl.MaxTime != 1000000000000 {
		t.Errorf("Actors %d, MaxTime %d", impl.Actors, impl.MaxTime)
	}
	if impl.Same != 0 || impl.Before != 1 || impl.After != 2 || impl.Beside != 3 {
		t.Errorf("%d %d %d %d", impl.Same, impl.Before, impl.After, impl.Beside)
	}
}

func TestP3ValidStamps(t *testing.T) {
	good := 0
	for _, s := range anyStamps() {
		want := goodTime(s.Time) && goodActor(s.Actor)
		if impl.StampOK(s) != want {
			t.Errorf("StampOK(%v) is %v", s, !want)
		}
		if want {
			good++
		}
	}
	if good != 16 {
		t.Errorf("%d good ones were asked for", good)
	}
	if impl.StampOK(impl.Stamp{}) {
		t.Error("the zero stamp is none")
	}
	for actor := range 16 {
		if !impl.StampOK(stamp(1, actor)) || !impl.StampOK(stamp(impl.MaxTime, actor)) || impl.StampOK(stamp(0, actor)) {
			t.Errorf("stamps of actor %d", actor)
		}
	}
}

// The order holds of all stamps, valid or not: just those that stand ahead in the list are below.
func TestP3OneOrderOfStamps(t *testing.T) {
	list := anyStamps()
	for i, a := range list {
		for j, b := range list {
			if impl.StampLess(a, b) != (i < j) {
				t.Errorf("StampLess(%v, %v) is %v", a, b, i >= j)
			}
		}
	}
}

func TestP3ZeroStampIsBelowAll(t *testing.T) {
	for _, s := range anyStamps() {
		if !impl.StampOK(s) {
			continue
		}
		if !impl.StampLess(impl.Stamp{}, s) || impl.StampLess(s, impl.Stamp{}) {
			t.Errorf("%v is not above the zero stamp", s)
		}
	}
	if impl.StampLess(impl.Stamp{}, impl.Stamp{}) {
		t.Error("the zero stamp is below itself")
	}
}

// nextOf goes through all stamps of an actor, from the least one on.
func nextOf(list []impl.Stamp, actor int) impl.Stamp {
	for time := 1; ; time++ {
		above := true
		for _, s := range list {
			above = above && (s.Time < time || s.Time == time && s.Actor < actor)
		}
		if above {
			return stamp(time, actor)
		}
	}
}

func TestP3NextIsTheLeastAboveAll(t *testing.T) {
	pool := []impl.Stamp{{}, stamp(1, 0), stamp(1, 7), stamp(1, 15), stamp(2, 0), stamp(2, 6), stamp(2, 8), stamp(3, 15), stamp(9, 7)}
	everyList(pool, 3, func(list []impl.Stamp) {
		for _, actor := range []int{0, 1, 6, 7, 8, 14, 15} {
			checkNext(t, list, actor, nextOf(list, actor))
		}
	})
}

func TestP3NextOfNone(t *testing.T) {
	for actor := range 16 {
		for _, list := range [][]impl.Stamp{nil, {}, {{}}, {{}, {}, {}}} {
			checkNext(t, list, actor, stamp(1, actor))
		}
	}
}

func TestP3NextAtMaxTime(t *testing.T) {
	for last := range 16 {
		for actor := range 16 {
			list := []impl.Stamp{stamp(3, 15), stamp(impl.MaxTime, last), {}}
			if actor > last {
				checkNext(t, list, actor, stamp(impl.MaxTime, actor))
			} else {
				checkNoNext(t, list, actor, impl.ErrMany)
			}
			list = []impl.Stamp{stamp(impl.MaxTime-1, last)}
			if actor > last {
				checkNext(t, list, actor, stamp(impl.MaxTime-1, actor))
			} else {
				checkNext(t, list, actor, stamp(impl.MaxTime, actor))
			}
		}
	}
}

func TestP3NextOfWrongActors(t *testing.T) {
	for _, actor := range []int{-1, -2, 16, 17, math.MinInt, math.MaxInt} {
		for _, list := range [][]impl.Stamp{nil, {{}}, {stamp(1, 3)}, {stamp(impl.MaxTime, 15)}, {stamp(-1, 0)}} {
			checkNoNext(t, list, actor, impl.ErrRange)
		}
	}
}

func TestP3NextOfWrongStamps(t *testing.T) {
	wrong := wrongStamps()
	if len(wrong) != 73 {
		t.Errorf("%d wrong ones were asked for", len(wrong))
	}
	// A Time of 0 is none's but the zero stamp's.
	for _, s := range append(wrong, stamp(0, 2), stamp(0, 8)) {
		for _, list := range [][]impl.Stamp{
			{s}, {s, s}, {{}, s}, {s, {}}, {stamp(5, 5), s}, {s, stamp(5, 5)}, {stamp(5, 5), s, stamp(impl.MaxTime, 15)},
			{stamp(impl.MaxTime, 15), s},
		} {
			for _, actor := range []int{0, 3, 15} {
				checkNoNext(t, list, actor, impl.ErrRange)
			}
		}
	}
}

func TestP1NextMaxList(t *testing.T) {
	list := make([]impl.Stamp, impl.MaxList+1)
	for i := range list {
		list[i] = stamp(1+i%100, i%16)
	}
	full := list[:impl.MaxList]
	checkNext(t, full, 4, nextOf(full, 4))
	full[impl.MaxList-1] = stamp(700, 9)
	checkNext(t, full, 4, stamp(701, 4))
	checkNext(t, make([]impl.Stamp, impl.MaxList), 4, stamp(1, 4))
	for _, actor := range []int{4, -1, 16} {
		checkNoNext(t, list, actor, impl.ErrLong)
		checkNoNext(t, make([]impl.Stamp, impl.MaxList+1), actor, impl.ErrLong)
		checkNoNext(t, append([]impl.Stamp{stamp(-1, -1)}, full...), actor, impl.ErrLong)
		checkNoNext(t, append([]impl.Stamp{stamp(impl.MaxTime, 15)}, full...), actor, impl.ErrLong)
	}
}

func TestP1NextWritesIntoNoArgument(t *testing.T) {
	for _, stamps := range [][]impl.Stamp{
		nil, {stamp(5, 5)}, {stamp(9, 1), stamp(2, 3), {}, stamp(2, 1)}, {stamp(7, 7), stamp(-1, 3), stamp(2, 2)},
		{stamp(impl.MaxTime, 15), stamp(1, 1)}, make([]impl.Stamp, impl.MaxList+1),
	} {
		list, check := watched(t, stamps, stamp(77, 7))
		for _, actor := range []int{-1, 0, 9, 15, 16} {
			impl.StampNext(list, actor)
		}
		check()
	}
}
