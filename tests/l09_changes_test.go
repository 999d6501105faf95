package tests

import (
	"slices"
	"testing"

	"loop.example/g00028/impl"
)

// checkChanged asks for changes that are written down.
func checkChanged(t *testing.T, what string, log []impl.Op, v, w impl.Vector, want ...string) {
	t.Helper()
	if got, code := impl.DocChanges(log, v, w); code != impl.OK || !slices.Equal(got, want) {
		t.Errorf("%s: DocChanges from %v to %v: %q, code %d, want %q", what, v.Counts, w.Counts, got, code, want)
	}
	checkChanges(t, what, log, v, w)
	checkChanges(t, what, log, w, v)
}

func TestP11Changes(t *testing.T) {
	log := inOrder(story())
	all, _ := impl.LogVector(log)
	checkChanged(t, "from nothing to nothing", log, vector(), vector())
	checkChanged(t, "from all to all", log, all, all)
	checkChanged(t, "from nothing to all", log, vector(), all, "+map 1 b=two", "+list 3 y", "+count 5 4")
	checkChanged(t, "from all to nothing", log, all, vector(), "-map 1 b=two", "-list 3 y", "-count 5 4")
	checkChanged(t, "an object comes", log, vector(2), vector(2, 1), "-list 3 x", "+list 3 xy")
	checkChanged(t, "an object comes, another changes", log, vector(2), vector(2, 2), "-list 3 x", "+list 3 xy", "+count 5 4")
	checkChanged(t, "an object goes, another changes", log, vector(2, 2), vector(2), "-list 3 xy", "+list 3 x", "-count 5 4")
	checkChanged(t, "an object changes", log, vector(2, 2), vector(3, 2), "-map 1 a=one", "+map 1")
	checkChanged(t, "all change or come", log, vector(2), all, "-map 1 a=one", "+map 1 b=two", "-list 3 x", "+list 3 y", "+count 5 4")
	checkChanged(t, "times beside each other", log, vector(3, 2), vectors(t, vector(2, 2), vectorOf(15, 2)),
		"-map 1", "+map 1 a=one b=two", "-list 3 xy", "+list 3 y")
	for _, v := range allTimes(log, 0, 1, 15) {
		for _, w := range allTimes(log, 0, 1, 15) {
			checkTurned(t, log, v, w, checkChanges(t, "the story", log, v, w))
		}
	}
}

// vectors joins two.
func vectors(t *testing.T, a, b impl.Vector) impl.Vector {
	t.Helper()
	v, code := impl.VecJoin(a, b)
	wantCode(t, "VecJoin", code, impl.OK)
	return v
}

// checkTurned asks that the way back goes over the same lines.
func checkTurned(t *testing.T, log []impl.Op, v, w impl.Vector, there []string) {
	t.Helper()
	back, _ := impl.DocChanges(log, w, v)
	sign := map[byte]string{'-': "+", '+': "-"}
	var turned []string
	for _, line := range back {
		turned = append(turned, sign[line[0]]+line[1:])
	}
	slices.Sort(turned)
	there = slices.Sorted(slices.Values(there))
	if !slices.Equal(turned, there) {
		t.Errorf("from %v to %v: %q, and back %q", v.Counts, w.Counts, there, back)
	}
}

// Lines that are told the same at both times are no changes, whatever was done between.
func TestP11ChangesThatAreNone(t *testing.T) {
	log := diary(2, 1, writes(1, "k", "v"), writes(1, "k", "v"), counts(2, 5), counts(2, 0), counts(2, 1), counts(2, -1),
		types(3, 'a', start()), types(3, 'a', start()), takes(3, stamp(8, 2)), writes(1, "l", ""))
	checkChanged(t, "set to the same", log, vectorOf(2, 1), vectorOf(2, 2))
	checkChanged(t, "0 added", log, vectorOf(2, 3), vectorOf(2, 4))
	checkChanged(t, "added and taken back", log, vectorOf(2, 4), vectorOf(2, 6))
	checkChanged(t, "one a for another", log, vectorOf(2, 7), vectorOf(2, 9))
	checkChanged(t, "another Key set to nothing", log, vectorOf(2, 9), vectorOf(2, 10))
	checkChanged(t, "in between", log, vectorOf(2, 7), vectorOf(2, 8), "-list 3 a", "+list 3 aa")
}

// An object that is told empty is a line as any other.
func TestP11ChangesOfWhatIsEmpty(t *testing.T) {
	log := diary(2, 1, types(3, 'a', start()), takes(3, stamp(1, 2)), writes(1, "k", ""), counts(2, 0), writes(1, "k", "v"))
	checkChanged(t, "a list gets empty", log, vectorOf(2, 1), vectorOf(2, 2), "-list 3 a", "+list 3 ")
	checkChanged(t, "a list was empty", log, vectorOf(2, 2), vectorOf(2, 1), "-list 3 ", "+list 3 a")
	checkChanged(t, "an empty list comes", log, vector(), vectorOf(2, 2), "+list 3 ")
	checkChanged(t, "an empty list goes", log, vectorOf(2, 2), vector(), "-list 3 ")
	checkChanged(t, "an empty map comes", log, vectorOf(2, 2), vectorOf(2, 3), "+map 1")
	checkChanged(t, "a counter of 0 comes", log, vectorOf(2, 3), vectorOf(2, 4), "+count 2 0")
	checkChanged(t, "a map was empty", log, vectorOf(2, 4), vectorOf(2, 5), "-map 1", "+map 1 k=v")
	checkChanged(t, "all of them go", log, vectorOf(2, 4), vector(), "-map 1", "-count 2 0", "-list 3 ")
}

// By rising Obj as numbers, of one the - first.
func TestP11ChangesRise(t *testing.T) {
	first := []impl.Op{counts(100, 1), counts(10, 1), counts(9, 1), counts(2, 1), counts(99, 1)}
	second := []impl.Op{counts(99, 1), counts(1, 1), counts(100, 1), counts(9, 1), counts(11, 1), counts(10, 1)}
	log := diary(2, 1, slices.Concat(first, second)...)
	checkChanged(t, "all", log, vector(), vectorOf(2, 5), "+count 2 1", "+count 9 1", "+count 10 1", "+count 99 1", "+count 100 1")
	checkChanged(t, "some change and some come", log, vectorOf(2, 5), vectorOf(2, 11),
		"+count 1 1", "-count 9 1", "+count 9 2", "-count 10 1", "+count 10 2", "+count 11 1", "-count 99 1", "+count 99 2", "-count 100 1", "+count 100 2")
	checkChanged(t, "turned over", log, vectorOf(2, 11), vectorOf(2, 5),
		"-count 1 1", "-count 9 2", "+count 9 1", "-count 10 2", "+count 10 1", "-count 11 1", "-count 99 2", "+count 99 1", "-count 100 2", "+count 100 1")
}

// One time has an object that the other has not, and the other way round.
func TestP11ChangesBesideEachOther(t *testing.T) {
	log := logOf(diary(0, 1, counts(7, 1), writes(3, "k", "v")), diary(1, 1, counts(5, 2), counts(7, 2), writes(3, "k", "w")))
	checkChanged(t, "beside", log, vector(2), vector(0, 3), "-map 3 k=v", "+map 3 k=w", "+count 5 2", "-count 7 1", "+count 7 2")
	checkChanged(t, "beside, turned over", log, vector(0, 3), vector(2), "-map 3 k=w", "+map 3 k=v", "-count 5 2", "-count 7 2", "+count 7 1")
	checkChanged(t, "to both", log, vector(2), vector(2, 3), "-map 3 k=v", "+map 3 k=w", "+count 5 2", "-count 7 1", "+count 7 3")
}
