package tests

import (
	"math/rand"
	"slices"
	"testing"

	"loop.example/g00028/impl"
)

// A moment is what a document was at a time.
type moment struct {
	at   impl.Vector
	text string
}

// An archivist does and hears operations, and keeps what its document was behind each of them.
type archivist struct {
	actor   int
	log     []impl.Op
	moments []moment
}

// does makes an operation upon all that the archivist knows.
func (a *archivist) does(t *testing.T, random *rand.Rand) {
	t.Helper()
	knew, code := impl.LogVector(a.log)
	wantCode(t, "LogVector", code, impl.OK)
	time := 1
	for _, op := range a.log {
		time = max(time, op.Time+1)
	}
	op := anyDone(random, by(a.actor, knew.Counts[a.actor]+1, time, knew.Counts...), a.log)
	if op.At != start() && !slices.ContainsFunc(a.log, func(other impl.Op) bool { return told8(other) == op.At && other.Obj == op.Obj }) {
		return
	}
	a.log = mergedLog(t, a.log, []impl.Op{op})
	a.keeps(t)
}

func (a *archivist) keeps(t *testing.T) {
	t.Helper()
	at, code := impl.LogVector(a.log)
	wantCode(t, "LogVector", code, impl.OK)
	text, code := impl.DocText(a.log)
	wantCode(t, "DocText", code, impl.OK)
	a.moments = append(a.moments, moment{at, text})
}

// hears merges another one's log, whichever into which.
func (a *archivist) hears(t *testing.T, random *rand.Rand, log []impl.Op) {
	t.Helper()
	into, onto := mergedLog(t, a.log, mixed(random, log)), mergedLog(t, log, mixed(random, a.log))
	one, code := impl.DocText(into)
	wantCode(t, "DocText", code, impl.OK)
	if other, _ := impl.DocText(onto); other != one || !sameLog(into, onto) {
		t.Errorf("%s, merged the other way round %s", brief(one), brief(other))
	}
	a.log = into
	a.keeps(t)
}

// checkMoments asks that what the document was is what it was.
func checkMoments(t *testing.T, what string, log []impl.Op, moments []moment) {
	t.Helper()
	for i, m := range moments {
		if got, code := impl.DocAt(log, m.at); got != m.text || code != impl.OK {
			t.Errorf("%s: at %v %s, code %d, was %s", what, m.at.Counts, brief(got), code, brief(m.text))
		}
		if i == 0 {
			continue
		}
		checkSteps(t, log, moments[i-1], m)
	}
}

// checkSteps asks that the changes make of what the document was then what it is now.
func checkSteps(t *testing.T, log []impl.Op, old, now moment) {
	t.Helper()
	changes, code := impl.DocChanges(log, old.at, now.at)
	wantCode(t, "DocChanges", code, impl.OK)
	lines := map[string]bool{}
	for _, line := range textLines(old.text) {
		lines[line] = true
	}
	for _, change := range changes {
		if lines[change[1:]] == (change[0] == '+') {
			t.Errorf("%q among %q, of %q", change, changes, old.text)
		}
		lines[change[1:]] = change[0] == '+'
	}
	for _, line := range textLines(now.text) {
		if !lines[line] {
			t.Errorf("%q does not come by %q, of %q", line, changes, old.text)
		}
		delete(lines, line)
	}
	for line, there := range lines {
		if there {
			t.Errorf("%q does not go by %q, of %q", line, changes, old.text)
		}
	}
}

func textLines(text string) []string {
	var lines []string
	for from, i := 0, 0; i < len(text); i++ {
		if text[i] == '\n' {
			lines = append(lines, text[from:i])
			from = i + 1
		}
	}
	return lines
}

// mergedLog adds all of more, none of which may wait.
func mergedLog(t *testing.T, log, more []impl.Op) []impl.Op {
	t.Helper()
	both, waits, code := impl.LogAdd(log, more)
	if code != impl.OK || len(waits) != 0 {
		t.Fatalf("LogAdd: code %d, %s wait", code, brief(waits))
	}
	return both
}

// archivists are some that know nothing yet.
func archivists(t *testing.T) []*archivist {
	t.Helper()
	var all []*archivist
	for i := range replicas {
		a := &archivist{actor: actor(i)}
		a.keeps(t)
		all = append(all, a)
	}
	return all
}

// Archivists that hear each other in any order have the same document in the end, and all that one of them was told
// stays true with what comes later, also with the others.
func TestP11ArchivistsInAWorld(t *testing.T) {
	for seed := range 40 {
		random := rand.New(rand.NewSource(int64(seed)))
		all := archivists(t)
		for range 50 {
			a, other := all[random.Intn(replicas)], all[random.Intn(replicas)]
			if random.Intn(4) > 0 {
				a.does(t, random)
			} else {
				a.hears(t, random, other.log)
			}
		}
		var moments []moment
		for _, a := range all {
			checkMoments(t, "before the end", a.log, a.moments)
			moments = append(moments, a.moments...)
		}
		want := ""
		for i, a := range all {
			for _, other := range random.Perm(replicas) {
				a.hears(t, random, all[other].log)
			}
			text, code := impl.DocText(a.log)
			wantCode(t, "DocText", code, impl.OK)
			if i == 0 {
				want = text
				checkAll(t, "at the end", a.log)
			}
			if text != want {
				t.Errorf("seed %d: %s, want %s", seed, brief(text), brief(want))
			}
			checkMoments(t, "in the end", a.log, moments)
		}
	}
}

// Three that go apart from one log: every order of merging, and every way of putting two together first.
func TestP11MergedInEveryOrder(t *testing.T) {
	base := diary(0, 1, writes(1, "k", "base"), types(3, 'm', start()), counts(5, 1))
	knows := func(actor int, deeds ...impl.Op) []impl.Op {
		list := diary(actor, 10, deeds...)
		for i := range list {
			list[i].Deps.Counts[0] = 3
		}
		return logOf(base, list)
	}
	one := knows(1, writes(1, "k", "one"), types(3, 'a', stamp(2, 0)), counts(5, 10), undoes(1, writes(1, "k", "")))
	two := knows(2, writes(1, "k", "two"), takes(3, stamp(2, 0)), counts(5, 100), writes(1, "l", "two"))
	three := knows(3, writes(1, "l", ""), types(3, 'b', stamp(2, 0)), counts(9, 1000), types(3, 'c', start()))
	want := "map 1 k=two l=two\nlist 3 cba\ncount 5 111\ncount 9 1000\n"
	everyOrder([][]impl.Op{one, two, three}, func(logs [][]impl.Op) {
		checkDoc(t, "one behind the other", mergedLog(t, mergedLog(t, logs[0], logs[1]), logs[2]), want)
		checkDoc(t, "two together first", mergedLog(t, logs[0], mergedLog(t, logs[1], logs[2])), want)
		checkDoc(t, "one twice", mergedLog(t, mergedLog(t, logs[0], logs[1]), mergedLog(t, logs[2], logs[0])), want)
	})
	for _, log := range [][]impl.Op{one, two, three} {
		before, _ := impl.DocText(log)
		at, _ := impl.LogVector(log)
		merged := mergedLog(t, mergedLog(t, one, two), three)
		if got, code := impl.DocAt(merged, at); got != before || code != impl.OK {
			t.Errorf("%q, code %d, was %q", got, code, before)
		}
	}
	checkText9(t, "one alone", one, "map 1 k=base\nlist 3 ma\ncount 5 11\n")
	checkText9(t, "two alone", two, "map 1 k=two l=two\nlist 3 \ncount 5 101\n")
	checkText9(t, "three alone", three, "map 1 k=base\nlist 3 cmb\ncount 5 1\ncount 9 1000\n")
}

// What comes later changes nothing of a time, also where it comes with stamps below those that are there.
func TestP11EarlierStampsThatComeLater(t *testing.T) {
	log := diary(5, 100, writes(1, "k", "five"), types(3, 'x', start()), counts(5, 5))
	at, _ := impl.LogVector(log)
	before, _ := impl.DocText(log)
	later := logOf(diary(0, 1, writes(1, "k", "zero"), types(3, 'y', start()), counts(5, 1), takes(3, stamp(2, 0)), writes(1, "a", "zero")), diary(9, 500, writes(1, "k", "nine"), takes(3, stamp(101, 5))))
	both := mergedLog(t, log, later)
	checkDoc(t, "all", both, "map 1 a=zero k=nine\nlist 3 \ncount 5 6\n")
	checkTime(t, "the time", both, at, before, 3)
	checkTime(t, "with the earlier stamps", both, vectors(t, at, vector(5)), "map 1 a=zero k=five\nlist 3 x\ncount 5 6\n", 8)
	checkTime(t, "with the later stamps", both, vectors(t, at, vectorOf(9, 2)), "map 1 k=nine\nlist 3 \ncount 5 5\n", 5)
}
