package tests

import (
	"fmt"
	"math/rand"
	"slices"
	"testing"

	"loop.example/g00028/impl"
)

func TestP12NothingToUndo(t *testing.T) {
	for actor := range 16 {
		checkNotUndone(t, "no operations at all", nil, actor, impl.ErrMissing)
		checkNotUndone(t, "no operations at all", []impl.Op{}, actor, impl.ErrMissing)
		checkDone(t, "no operations at all", nil, actor)
		for other := range 16 {
			log := diary(other, 5, writes(1, "k", "v"), counts(2, 3))
			undone := diary(other, 5, writes(1, "k", "v"), undoes(1, writes(1, "k", "")))
			checkDone(t, "nothing undone", log, actor)
			if other == actor {
				checkUndo(t, "something done", log, actor, nextDeed(log, actor, undoes(2, counts(2, -3))))
				checkNotUndone(t, "all undone", undone, actor, impl.ErrMissing)
				checkDone(t, "all undone", undone, actor, 1)
				continue
			}
			checkNotUndone(t, "done by another one", log, actor, impl.ErrMissing)
			checkNotUndone(t, "done by another one, and undone", undone, actor, impl.ErrMissing)
			checkDone(t, "undone by another one", undone, actor)
		}
	}
}

// Which one is undone, and which were.
func TestP12WhichOne(t *testing.T) {
	one, two, three, none := writes(1, "k", "one"), writes(1, "k", "two"), writes(1, "k", "three"), writes(1, "k", "")
	for _, c := range []struct {
		what  string
		deeds []impl.Op
		// The Seq of the one that is undone next (0: there is none), and of those that were.
		next int
		done []int
	}{
		{"one", []impl.Op{one}, 1, nil},
		{"several", []impl.Op{one, two, three}, 3, nil},
		{"several of several things", []impl.Op{one, counts(2, 1), types(3, 'x', start()), writes(4, "k", "v")}, 4, nil},
		{"one of nothing", []impl.Op{none}, 1, nil},
		{"the only one was undone", []impl.Op{one, undoes(1, none)}, 0, []int{1}},
		{"the last was undone", []impl.Op{one, two, undoes(2, none)}, 1, []int{2}},
		{"one ahead was undone", []impl.Op{one, two, undoes(1, none)}, 2, []int{1}},
		{"one amid was undone", []impl.Op{one, two, three, undoes(2, none)}, 3, []int{2}},
		{"the last and the one ahead", []impl.Op{one, two, three, undoes(3, none), undoes(2, none)}, 1, []int{2, 3}},
		{"the last and the first", []impl.Op{one, two, three, undoes(3, none), undoes(1, none)}, 2, []int{1, 3}},
		{"all were, from the last on", []impl.Op{one, two, three, undoes(3, none), undoes(2, none), undoes(1, none)}, 0, []int{1, 2, 3}},
		{"all were, from the first on", []impl.Op{one, two, undoes(1, none), undoes(2, none)}, 0, []int{1, 2}},
		{"done since", []impl.Op{one, undoes(1, none), two}, 3, []int{1}},
		{"done since, and undone", []impl.Op{one, undoes(1, none), two, undoes(3, none)}, 0, []int{1, 3}},
		{"done amid", []impl.Op{one, two, undoes(2, none), three, undoes(4, none)}, 1, []int{2, 4}},
		{"all others undo it", []impl.Op{one, undoes(1, none), undoes(1, none), undoes(1, none)}, 0, []int{1}},
		{"undone twice by hand", []impl.Op{one, two, undoes(2, none), undoes(2, none)}, 1, []int{2}},
		{"undone twice, the first undone", []impl.Op{one, undoes(1, none), undoes(1, none), undoes(2, none)}, 0, []int{1, 2}},
		{"undone twice, the second undone", []impl.Op{one, undoes(1, none), undoes(1, none), undoes(3, none)}, 0, []int{1, 3}},
		{"undone twice, both undone", []impl.Op{one, undoes(1, none), undoes(1, none), undoes(2, none), undoes(3, none)}, 1, []int{2, 3}},
		{"undone, done again, undone again", []impl.Op{one, undoes(1, none), undoes(2, none), undoes(1, none)}, 0, []int{1, 2}},
		{"a chain of two", []impl.Op{one, undoes(1, none), undoes(2, none)}, 1, []int{2}},
		{"a chain of three", []impl.Op{one, undoes(1, none), undoes(2, none), undoes(3, none)}, 0, []int{1, 3}},
		{"a chain of four", []impl.Op{one, undoes(1, none), undoes(2, none), undoes(3, none), undoes(4, none)}, 1, []int{2, 4}},
		{"a chain of five", []impl.Op{one, undoes(1, none), undoes(2, none), undoes(3, none), undoes(4, none), undoes(5, none)}, 0, []int{1, 3, 5}},
		{"a chain upon the last", []impl.Op{one, two, undoes(2, none), undoes(3, none)}, 2, []int{3}},
		{"two chains", []impl.Op{one, two, undoes(1, none), undoes(2, none), undoes(3, none), undoes(4, none), undoes(5, none)}, 2, []int{1, 4, 5}},
		// Which one is undone goes by the Seq alone.
		{"undone by another Key", []impl.Op{one, two, undoes(2, writes(1, "l", ""))}, 1, []int{2}},
		{"undone by another map", []impl.Op{one, two, undoes(2, writes(2, "k", ""))}, 1, []int{2}},
		{"undone by a counter", []impl.Op{one, undoes(1, counts(2, 5))}, 0, []int{1}},
		{"a counter, undone by a list", []impl.Op{one, counts(2, 5), undoes(2, types(3, 'x', start()))}, 1, []int{2}},
		{"a character, undone by another one", []impl.Op{types(3, 'x', start()), undoes(1, types(3, 'y', start()))}, 0, []int{1}},
		{"a character, undone by a setting", []impl.Op{types(3, 'x', start()), undoes(1, one)}, 0, []int{1}},
		{"a character, whose taking away undoes another", []impl.Op{types(3, 'x', start()), one, undoes(2, takes(3, stamp(5, 3)))}, 1, []int{2}},
		{"a character, taken away without undoing", []impl.Op{types(3, 'x', start()), takes(3, stamp(5, 3))}, 2, nil},
		{"set to nothing without undoing", []impl.Op{one, none}, 2, nil},
		{"added and taken off without undoing", []impl.Op{counts(2, 5), counts(2, -5)}, 2, nil},
	} {
		for _, actor := range []int{3, 0, 15} {
			deeds := copyLog(c.deeds)
			for i := range deeds {
				if deeds[i].At != start() {
					deeds[i].At.Actor = actor
				}
			}
			log := diary(actor, 5, deeds...)
			checkDone(t, c.what, log, actor, c.done...)
			if c.next == 0 {
				checkNotUndone(t, c.what, log, actor, impl.ErrMissing)
			} else if op, code := impl.UndoOf(log, actor); code != impl.OK || op.Undo != c.next {
				t.Errorf("%s: %v, code %d, want Undo %d", c.what, op, code, c.next)
			}
			checkUndoing(t, c.what, log, actor)
			// Others' operations with the same Seqs touch nothing, whatever they undo.
			beside := logOf(log, diary(7, 2, counts(9, 1), undoes(1, counts(9, 1)), counts(9, 1), undoes(3, counts(9, 1)), undoes(2, counts(9, 1))))
			checkDone(t, c.what+", beside another actor", beside, actor, c.done...)
			checkDone(t, c.what+", of the other actor", beside, 7, 2, 3)
			checkUndoing(t, c.what+", beside another actor", beside, actor)
			checkUndoing(t, c.what+", of the other actor", beside, 7)
		}
	}
}

// undoAll undoes until nothing is left, and gives the Seqs in the order in which they were undone, and the log.
func undoAll(t *testing.T, what string, log []impl.Op, actor int) ([]int, []impl.Op) {
	t.Helper()
	var seqs []int
	for {
		after, code := checkUndoing(t, what, log, actor)
		if after == nil {
			wantCode(t, what, code, impl.ErrMissing)
			return seqs, log
		}
		seqs = append(seqs, after[slices.IndexFunc(after, func(op impl.Op) bool { return !hasDeed(log, op) })].Undo)
		log = after
	}
}

// Again and again: each time the one ahead, until there is nothing left, and what was is undone then.
func TestP12UntilNothingIsLeft(t *testing.T) {
	log := diary(4, 1, writes(1, "a", "x"), types(3, 'h', start()), writes(1, "a", "y"), types(3, 'i', stamp(2, 4)), counts(5, 7), writes(1, "b", "z"), types(3, 'o', start()), counts(5, -9))
	texts := []string{
		"map 1 a=y b=z\nlist 3 ohi\ncount 5 7\n", "map 1 a=y b=z\nlist 3 hi\ncount 5 7\n", "map 1 a=y\nlist 3 hi\ncount 5 7\n", "map 1 a=y\nlist 3 hi\ncount 5 0\n",
		"map 1 a=y\nlist 3 h\ncount 5 0\n", "map 1 a=x\nlist 3 h\ncount 5 0\n", "map 1 a=x\nlist 3 \ncount 5 0\n", "map 1\nlist 3 \ncount 5 0\n",
	}
	now := log
	for i, text := range texts {
		op, code := impl.UndoOf(now, 4)
		wantCode(t, "UndoOf", code, impl.OK)
		if op.Undo != 8-i || op.Seq != 9+i || op.Time != 9+i {
			t.Errorf("undoing %d: %v", i, op)
		}
		now = mergedLog(t, now, []impl.Op{op})
		checkDoc(t, fmt.Sprint("undone ", i+1), now, text)
	}
	checkNotUndone(t, "nothing left", now, 4, impl.ErrMissing)
	checkDone(t, "nothing left", now, 4, 1, 2, 3, 4, 5, 6, 7, 8)
	// With others between, who do not undo it.
	var stories []impl.Op
	for _, actor := range []int{0, 4, 9} {
		stories = logOf(stories, diary(actor, 1+actor, writes(1, "a", "x"), types(3, 'h', start()), counts(5, actor), takes(3, stamp(2+actor, actor)), writes(2, "b", "z")))
	}
	for _, actor := range []int{9, 0, 4} {
		var seqs []int
		seqs, stories = undoAll(t, "with others between", stories, actor)
		if !slices.Equal(seqs, []int{5, 4, 3, 2, 1}) {
			t.Errorf("undone were %v", seqs)
		}
		checkDone(t, "with others between", stories, actor, 1, 2, 3, 4, 5)
	}
	checkText9(t, "all undone", stories, "map 1\nmap 2\nlist 3 hhh\ncount 5 0\n")
}

// Every way in which six operations can undo one another, of one kind and of several.
func TestP12EveryUndoing(t *testing.T) {
	things := []func(seq int) impl.Op{
		func(seq int) impl.Op { return writes(1, "k", fmt.Sprint("text", seq)) },
		func(seq int) impl.Op { return types(3, 'a'+seq, start()) },
		func(seq int) impl.Op { return counts(5, seq) },
		func(seq int) impl.Op {
			return []impl.Op{writes(1, "k", "v"), types(3, 'x', start()), counts(5, 9), writes(2, "l", "w"), types(3, 'y', start()), counts(5, -1)}[seq-1]
		},
	}
	left := map[int]int{}
	for i := range 1 * 2 * 3 * 4 * 5 * 6 {
		var deeds []impl.Op
		rest := i
		for seq := 1; seq <= 6; seq++ {
			deeds = append(deeds, undoes(rest%seq, things[i%4](seq)))
			rest /= seq
		}
		log := diary(6, 10, deeds...)
		seqs, _ := undoAll(t, fmt.Sprint("undoing ", i), log, 6)
		if !slices.IsSortedFunc(seqs, func(a, b int) int { return b - a }) {
			t.Errorf("undoing %d: %v do not fall", i, seqs)
		}
		left[len(seqs)]++
	}
	// Five is no way: what undoes is one of the six, and so is what it undoes.
	if len(left) != 6 || left[5] != 0 {
		t.Errorf("how many there were to undo: %v", left)
	}
}

// Many that are undone in any order are told rising, each once, however often they are undone.
func TestP12DoneRises(t *testing.T) {
	random := rand.New(rand.NewSource(101))
	for range 20 {
		var deeds []impl.Op
		for i := range 120 {
			deeds = append(deeds, counts(5, i))
		}
		some := random.Perm(120)[:1+random.Intn(120)]
		for _, i := range some {
			for range 1 + random.Intn(2) {
				deeds = append(deeds, undoes(i+1, counts(5, -i)))
			}
		}
		var want []int
		for _, i := range some {
			want = append(want, i+1)
		}
		slices.Sort(want)
		checkDone(t, "in any order", diary(12, 3, deeds...), 12, want...)
	}
}
