package tests

import (
	"fmt"
	"math"
	"math/rand"
	"slices"
	"strings"
	"testing"

	"loop.example/g00028/impl"
)

// documentLogs are logs and lists of operations, good ones and others.
func documentLogs() [][]impl.Op {
	random := rand.New(rand.NewSource(93))
	list := memoryLogs()
	list = append(list, diary(0, 1, takes(3, stamp(1, 7))), diary(2, 1, writes(1, "k", "v"), undoes(1, writes(1, "k", "")), undoes(2, writes(1, "k", ""))))
	for range 10 {
		list = append(list, anyStory(random, 12))
	}
	return list
}

func TestP1DocumentsWriteIntoNothing(t *testing.T) {
	for _, list := range documentLogs() {
		log, checkLog := watchedLog(t, list)
		whole, _ := impl.LogVector(list)
		for _, given := range []impl.Vector{vector(), vector(1), vector(2, 1), whole, vector(0, 1), {}} {
			counts, checkCounts := watched(t, given.Counts, 55)
			more, checkMore := watched(t, vector(1).Counts, 66)
			v, w := impl.Vector{Counts: counts}, impl.Vector{Counts: more}
			impl.DocText(log)
			impl.DocObjects(log)
			impl.DocAt(log, v)
			impl.LogAt(log, v)
			for _, obj := range []int{-1, 1, 3, 40, 101} {
				impl.Blame(log, obj)
			}
			impl.DocChanges(log, v, w)
			impl.DocChanges(log, w, v)
			impl.DocChanges(log, v, v)
			checkCounts()
			checkMore()
		}
		checkLog()
	}
}

// What is answered shares no memory with the log, nor with another answer.
func TestP1AnsweredDocumentsAreNew(t *testing.T) {
	told := 0
	for _, list := range documentLogs() {
		if !validLog(list) {
			continue
		}
		log, check := watchedLog(t, list)
		v, _ := impl.LogVector(log)
		first, _ := impl.LogAt(log, v)
		again, code := impl.LogAt(log, v)
		wantCode(t, "LogAt", code, impl.OK)
		kept := copyLog(again)
		told += len(kept)
		checkNoSharing(t, first)
		check()
		objs, _ := impl.DocObjects(log)
		scribble(objs, -9)
		objs, _ = impl.DocObjects(log)
		keptObjs := slices.Clone(objs)
		text, _ := impl.DocText(log)
		scribbleLog(log)
		scribble(v.Counts, -9)
		if !sameLog(again, kept) || !slices.Equal(objs, keptObjs) {
			t.Errorf("an answer shares memory: %s and %v, was %s and %v", brief(again), objs, brief(kept), keptObjs)
		}
		if other, _ := impl.DocText(kept); other != text {
			t.Errorf("%s, was %s", brief(other), brief(text))
		}
	}
	if told < 300 {
		t.Errorf("only %d operations were told", told)
	}
}

func TestP1AnsweredBlamesAndChangesAreNew(t *testing.T) {
	log := logOf(diary(5, 1, typed(3, 5, 1, "five")...), diary(2, 1, typed(3, 2, 1, "two")...))
	blame, _ := impl.Blame(log, 3)
	scribble(blame, -9)
	again, _ := impl.Blame(log, 3)
	if !slices.Equal(again, []int{5, 5, 5, 5, 2, 2, 2}) {
		t.Errorf("two answers share memory: %v", again)
	}
	v, w := vectorOf(5, 2), vectorOf(2, 3)
	changes, _ := impl.DocChanges(log, v, w)
	scribble(changes, "!")
	if changes, _ = impl.DocChanges(log, v, w); !slices.Equal(changes, []string{"-list 3 fi", "+list 3 two"}) {
		t.Errorf("two answers share memory: %q", changes)
	}
	// Nothing is kept from call to call: a log that is wrong leaves nothing behind, nor does another one.
	impl.DocText(diary(0, 1, takes(3, stamp(1, 7))))
	impl.DocText(diary(0, 1, writes(3, "k", "v"), counts(7, 7)))
	checkText9(t, "behind others", log, "list 3 fivetwo\n")
}

// No panic and an end, and nothing beside a code, for logs, vectors and objects of all kinds.
func TestP1AnyDocuments(t *testing.T) {
	random := rand.New(rand.NewSource(94))
	vectors := append(wrongVectors(), someVectors()...)
	objs := []int{math.MinInt, -1, 0, 1, 2, 3, 4, 5, 99, 100, 101, impl.MaxTime, math.MaxInt}
	codes := map[int]int{}
	for range 6000 {
		log := someDeeds(random)
		v, w := vectors[random.Intn(len(vectors))], vectors[random.Intn(len(vectors))]
		if whole, code := impl.LogVector(log); code == impl.OK && random.Intn(2) == 0 {
			v = whole
		}
		codes[checkAt(t, "any", log, v)]++
		checkChanges(t, "any", log, v, w)
		checkBlame(t, "any", log, objs[random.Intn(len(objs))])
		checkObjects(t, "any", log)
		lines, want := linesOf(log)
		if got, code := impl.DocText(log); got != pageOf(lines) || code != want {
			t.Errorf("DocText of %s: %s, code %d, want %s, code %d", brief(log), brief(got), code, brief(pageOf(lines)), want)
		}
	}
	for _, code := range []int{impl.OK, impl.ErrBad, impl.ErrCause} {
		if codes[code] < 100 {
			t.Errorf("code %d came %d times", code, codes[code])
		}
	}
}

// onAndOn is a setting and as many undoings as a log has room for. Each undoes the one ahead, so that whether the first
// one counts hangs on all of them.
func onAndOn() []impl.Op {
	deeds := []impl.Op{writes(1, "k", "v")}
	for seq := 2; seq <= impl.MaxLog; seq++ {
		deeds = append(deeds, undoes(seq-1, writes(1, "k", "")))
	}
	return deeds
}

// The longest that there are come to an end soon.
func TestP1LongestDocuments(t *testing.T) {
	log := diary(15, 1, onAndOn()...)
	checkText9(t, "undone on and on", log, "map 1\n")
	for _, n := range []int{1, 2, 3, impl.MaxLog - 2, impl.MaxLog - 1, impl.MaxLog} {
		want := "map 1\n"
		if n%2 == 1 {
			want = "map 1 k=v\n"
		}
		if got, code := impl.DocAt(log, vectorOf(15, n)); got != want || code != impl.OK {
			t.Errorf("undone on and on, at %d: %q, code %d", n, got, code)
		}
	}
	text := strings.Repeat("%", impl.MaxLog)
	typing := diary(0, impl.MaxTime-impl.MaxLog+1, typed(100, 0, impl.MaxTime-impl.MaxLog+1, text)...)
	checkText9(t, "typed on and on", typing, "list 100 "+strings.Repeat("%25", impl.MaxLog)+"\n")
	changes, code := impl.DocChanges(typing, vector(impl.MaxLog), vector())
	if code != impl.OK || !slices.Equal(changes, []string{"-list 100 " + strings.Repeat("%25", impl.MaxLog)}) {
		t.Errorf("%s, code %d", brief(changes), code)
	}
	for _, n := range []int{impl.MaxLog + 1, impl.MaxList + 1, impl.MaxTime} {
		checkNoTime(t, fmt.Sprint("at ", n), typing, vector(n), impl.ErrCause)
	}
	checkNoTime(t, "very many counts", typing, impl.Vector{Counts: make([]int, 1<<22)}, impl.ErrBad)
	checkNothing(t, "one too many", fullLog(impl.MaxLog+1), vector(), impl.ErrBad)
}
