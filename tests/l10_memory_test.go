package tests

import (
	"math"
	"math/rand"
	"slices"
	"testing"

	"loop.example/g00028/impl"
)

// undoLogs are logs and lists of operations, good ones and others, with something to undo of every kind.
func undoLogs() [][]impl.Op {
	random := rand.New(rand.NewSource(102))
	list := documentLogs()
	list = append(list,
		diary(3, 5, types(3, 'x', start()), takes(3, stamp(5, 3))), diary(3, 5, types(3, 'x', start())), diary(3, 5, counts(5, 9)), diary(3, 5, writes(1, "k", "v")),
		diary(15, impl.MaxTime, counts(5, 9)), fullLog(impl.MaxLog),
	)
	for range 20 {
		list = append(list, anyStory(random, 20))
	}
	return list
}

func TestP1UndoingsWriteIntoNothing(t *testing.T) {
	for _, list := range undoLogs() {
		log, check := watchedLog(t, list)
		for actor := -1; actor <= 16; actor++ {
			impl.UndoOf(log, actor)
			impl.UndoDone(log, actor)
		}
		check()
	}
}

// What is answered shares no memory with the log, nor with another answer.
func TestP1AnsweredUndoingsAreNew(t *testing.T) {
	told, done := 0, 0
	for _, list := range undoLogs() {
		for actor := range 16 {
			log, check := watchedLog(t, list)
			first, code := impl.UndoOf(log, actor)
			firstDone, _ := impl.UndoDone(log, actor)
			again, _ := impl.UndoOf(log, actor)
			againDone, _ := impl.UndoDone(log, actor)
			kept, keptDone := copyLog([]impl.Op{again}), slices.Clone(againDone)
			scribble(first.Deps.Counts, -9)
			scribble(firstDone, -9)
			check()
			scribbleLog(log)
			if code == impl.OK && !sameLog([]impl.Op{again}, kept) || !slices.Equal(againDone, keptDone) {
				t.Errorf("an answer shares memory: %v and %v, was %v and %v", again, againDone, kept, keptDone)
			}
			if code == impl.OK {
				told++
			}
			done += len(keptDone)
		}
	}
	if told < 60 || done < 40 {
		t.Errorf("only %d were told, and %d undone", told, done)
	}
	// Nothing is kept from call to call: others that are asked for between leave nothing behind.
	log := diary(2, 5, types(3, 'x', start()), takes(3, stamp(5, 2)))
	want, _ := impl.UndoOf(log, 2)
	impl.UndoOf(diary(2, 5, types(3, 'y', start()), takes(3, stamp(5, 2))), 2)
	impl.UndoOf(diary(2, 5, takes(3, stamp(1, 7))), 2)
	impl.UndoDone(diary(2, 5, counts(1, 1), undoes(1, counts(1, 1))), 2)
	checkUndo(t, "behind others", log, 2, want)
	checkDone(t, "behind others", log, 2)
}

// No panic and an end, and nothing beside a code, for logs and actors of all kinds.
func TestP1AnyUndoings(t *testing.T) {
	random := rand.New(rand.NewSource(103))
	actors := []int{math.MinInt, -1, 0, 0, 0, 1, 1, 1, 2, 15, 15, 16, 17, 1 << 32, math.MaxInt}
	codes := map[int]int{}
	for range 6000 {
		log := someDeeds(random)
		_, code := checkUndoing(t, "any", log, actors[random.Intn(len(actors))])
		codes[code]++
	}
	for range 600 {
		log := anyStory(random, random.Intn(20))
		for _, actor := range []int{0, 6, 15, 3, 16} {
			_, code := checkUndoing(t, "any story", log, actor)
			codes[code]++
		}
	}
	for _, code := range []int{impl.OK, impl.ErrBad, impl.ErrCause, impl.ErrRange, impl.ErrMissing} {
		if codes[code] < 100 {
			t.Errorf("code %d came %d times", code, codes[code])
		}
	}
}

// The longest that there are come to an end soon.
func TestP1LongestUndoings(t *testing.T) {
	deeds := onAndOn()
	for _, size := range []int{impl.MaxLog, impl.MaxLog - 1, impl.MaxLog - 2} {
		log := diary(15, 1, deeds[:size]...)
		var want []int
		for seq := 1 + size%2; seq < size; seq += 2 {
			want = append(want, seq)
		}
		checkDone(t, "undone on and on", log, 15, want...)
		if size%2 == 0 {
			checkNotUndone(t, "undone on and on", log, 15, impl.ErrMissing)
		} else {
			checkUndo(t, "undone on and on", log, 15, nextDeed(log, 15, undoes(1, writes(1, "k", ""))))
		}
	}
	// All others undo the first one.
	for seq := 2; seq <= impl.MaxLog; seq++ {
		deeds[seq-1].Undo = 1
	}
	checkDone(t, "undone many times", diary(15, 1, deeds...), 15, 1)
	// The last character of a long line, and one that was put first of all.
	text := letters(impl.MaxLog - 2)
	typing := diary(0, 1, typed(100, 0, 1, text)...)
	log := withNext(typing, 0, takes(100, stamp(1, 0)))
	checkUndo(t, "the first of a long line", log, 0, nextDeed(log, 0, undoes(impl.MaxLog-1, types(100, 'x', stamp(1, 0)))))
	log = withNext(typing, 0, takes(100, stamp(impl.MaxLog-2, 0)))
	checkUndo(t, "the last of a long line", log, 0, nextDeed(log, 0, undoes(impl.MaxLog-1, types(100, 'x', stamp(impl.MaxLog-2, 0)))))
	checkUndo(t, "a long line", typing, 0, nextDeed(typing, 0, undoes(impl.MaxLog-2, takes(100, stamp(impl.MaxLog-2, 0)))))
	checkNoUndoing(t, "very many", make([]impl.Op, 1<<22), 0, impl.ErrBad)
}
