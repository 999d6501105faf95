package tests

import (
	"fmt"
	"slices"
	"testing"

	"loop.example/g00028/impl"
)

func TestP10Since(t *testing.T) {
	s := story()
	log := inOrder(s)
	check := func(what string, v impl.Vector, want ...impl.Op) {
		t.Helper()
		if got, code := impl.LogSince(log, v); code != impl.OK || !sameLog(got, want) {
			t.Errorf("%s: %s, code %d, want %s", what, brief(got), code, brief(want))
		}
	}
	check("noughts", vector(), log...)
	own, _ := impl.LogVector(log)
	check("its own", own)
	check("more than there is", fullVector(3))
	check("as much as can be", fullVector(impl.MaxTime))
	check("more of one", vector(9), log[3:]...)
	check("all but the last one", vector(2, 2, 0, 0, 0, 0, 0, 0, 0, 0, 0, 0, 0, 0, 0, 2), log[2])
	check("of each the first", fullVector(1), log[1], log[2], log[4], log[6])
	check("without regard to causes", vector(0, 2, 0, 0, 0, 0, 0, 0, 0, 0, 0, 0, 0, 0, 0, 2), log[:3]...)
	check("of an actor that is not there", vectorOf(9, 5), log...)
	for a := range 4 {
		for b := range 4 {
			for c := range 4 {
				v := vector(a, b)
				v.Counts[15] = c
				check("any", v, slices.Concat(log[min(a, 3):3], log[3+min(b, 2):5], log[5+min(c, 2):])...)
			}
		}
	}
	for _, v := range wrongVectors() {
		for _, log := range [][]impl.Op{log, nil, log[1:]} {
			list, code := impl.LogSince(log, v)
			wantCode(t, "not valid", code, impl.ErrBad)
			zeroWithCode(t, list, code)
		}
	}
	for _, v := range someVectors() {
		list, code := impl.LogSince(log[1:], v)
		wantCode(t, "no log", code, impl.ErrBad)
		zeroWithCode(t, list, code)
		list, code = impl.LogSince(nil, v)
		wantCode(t, "none", code, impl.OK)
		if len(list) != 0 {
			t.Errorf("%s since %v of nothing", brief(list), v)
		}
	}
}

// Who has the beginning and adds what LogSince tells has the whole log.
func TestP10SinceGivesTheRest(t *testing.T) {
	full := fullLog(impl.MaxLog)
	for _, size := range []int{0, 1, 2, 100, 777, impl.MaxLog} {
		log := fullLog(size)
		v, _ := impl.LogVector(log)
		rest, code := impl.LogSince(full, v)
		wantCode(t, "LogSince", code, impl.OK)
		if len(rest) != impl.MaxLog-size {
			t.Errorf("%d are told, %d are missing", len(rest), impl.MaxLog-size)
		}
		slices.Reverse(rest)
		checkAdded(t, fmt.Sprint("the rest behind ", size), log, rest, full, nil)
	}
}
