package tests

import (
	"fmt"
	"math/rand"
	"testing"

	"loop.example/g00028/impl"
)

func TestP11Undone(t *testing.T) {
	one, two := writes(1, "k", "one"), writes(1, "k", "two")
	none := writes(1, "k", "")
	for _, c := range []struct {
		what  string
		deeds []impl.Op
		want  string
	}{
		{"the only one", []impl.Op{one, undoes(1, none)}, "map 1\n"},
		{"the last one", []impl.Op{one, two, undoes(2, none)}, "map 1 k=one\n"},
		{"the first one", []impl.Op{one, two, undoes(1, none)}, "map 1 k=two\n"},
		{"both", []impl.Op{one, two, undoes(2, none), undoes(1, none)}, "map 1\n"},
		{"the undoing is undone", []impl.Op{one, undoes(1, none), undoes(2, none)}, "map 1 k=one\n"},
		{"and that is undone too", []impl.Op{one, undoes(1, none), undoes(2, none), undoes(3, none)}, "map 1\n"},
		{"and that", []impl.Op{one, undoes(1, none), undoes(2, none), undoes(3, none), undoes(4, none)}, "map 1 k=one\n"},
		{"undone twice", []impl.Op{one, undoes(1, none), undoes(1, none)}, "map 1\n"},
		{"undone twice, one of them undone", []impl.Op{one, undoes(1, none), undoes(1, none), undoes(2, none)}, "map 1\n"},
		{"undone twice, the other one undone", []impl.Op{one, undoes(1, none), undoes(1, none), undoes(3, none)}, "map 1\n"},
		{"undone twice, both undone", []impl.Op{one, undoes(1, none), undoes(1, none), undoes(3, none), undoes(2, none)}, "map 1 k=one\n"},
		{"set since", []impl.Op{one, undoes(1, none), two}, "map 1 k=two\n"},
		{"set to nothing, undone", []impl.Op{one, none, undoes(2, none)}, "map 1 k=one\n"},
		{"set to nothing, not undone", []impl.Op{one, none, two, undoes(3, none)}, "map 1\n"},
		// What undoes sets nothing itself, whatever its Text is, and also when it is undone.
		{"undone by a Text", []impl.Op{one, undoes(1, two)}, "map 1\n"},
		{"undone by a Text behind another", []impl.Op{two, one, undoes(2, two)}, "map 1 k=two\n"},
		{"undone by a Text that is undone", []impl.Op{one, undoes(1, two), undoes(2, two)}, "map 1 k=one\n"},
		// What is undone is told by the Seq alone: the Key, the map and the Kind are not asked.
		{"by another Key", []impl.Op{one, undoes(1, writes(1, "l", "three"))}, "map 1\n"},
		{"by another map", []impl.Op{one, undoes(1, writes(2, "k", "three"))}, "map 1\nmap 2\n"},
		{"by a counter", []impl.Op{one, undoes(1, counts(2, 5))}, "map 1\ncount 2 5\n"},
		{"by a list", []impl.Op{one, undoes(1, types(2, 'x', start()))}, "map 1\nlist 2 x\n"},
		{"a counter's undoing is undone", []impl.Op{one, undoes(1, counts(2, 5)), undoes(2, counts(2, -5))}, "map 1 k=one\ncount 2 0\n"},
		{"another Key is left alone", []impl.Op{one, writes(1, "l", "three"), undoes(2, writes(1, "l", ""))}, "map 1 k=one\n"},
	} {
		log := diary(3, 5, c.deeds...)
		checkDoc(t, c.what, log, c.want)
		for n := range len(log) + 1 {
			checkAt(t, c.what, log, vectorOf(3, n))
		}
	}
}

// Lists and counters hold all that was done: there the undoing takes back by what it does itself.
func TestP11UndoneInListsAndCounters(t *testing.T) {
	checkDoc(t, "added", diary(0, 1, counts(5, 4), undoes(1, counts(5, -4))), "count 5 0\n")
	checkDoc(t, "added, undone by another amount", diary(0, 1, counts(5, 4), undoes(1, counts(5, -3))), "count 5 1\n")
	checkDoc(t, "added, undone and done again", diary(0, 1, counts(5, 4), undoes(1, counts(5, -4)), undoes(2, counts(5, 4))), "count 5 4\n")
	checkDoc(t, "typed", diary(0, 1, types(3, 'x', start()), undoes(1, takes(3, stamp(1, 0)))), "list 3 \n")
	checkDoc(t, "typed, undone by typing", diary(0, 1, types(3, 'x', start()), undoes(1, types(3, 'y', stamp(1, 0)))), "list 3 xy\n")
	again := diary(0, 1, types(3, 'x', start()), types(3, 'z', stamp(1, 0)), takes(3, stamp(1, 0)), undoes(3, types(3, 'x', stamp(1, 0))))
	checkDoc(t, "taken away and put again", again, "list 3 xz\n")
	checkDoc(t, "the putting is undone", diary(0, 1, append(again, undoes(4, takes(3, stamp(4, 0))))...), "list 3 z\n")
}

// Others set the same Key: what is told is what would be told without what was undone.
func TestP11UndoneWhileOthersSet(t *testing.T) {
	none := writes(1, "k", "")
	before := diary(7, 1, writes(1, "k", "before"))
	behind := diary(9, 30, writes(1, "k", "behind"))
	mine := diary(3, 10, writes(1, "k", "mine"), undoes(1, none))
	checkDoc(t, "nobody else", mine, "map 1\n")
	checkDoc(t, "one before", logOf(before, mine), "map 1 k=before\n")
	checkDoc(t, "one since", logOf(mine, behind), "map 1 k=behind\n")
	checkDoc(t, "both", logOf(before, mine, behind), "map 1 k=behind\n")
	// The undoing has the greatest stamp of all, and hides nothing.
	late := diary(3, 40, writes(1, "k", "mine"), undoes(1, none))
	checkDoc(t, "undone last of all", logOf(before, late, behind), "map 1 k=behind\n")
	again := logOf(before, diary(3, 20, writes(1, "k", "mine"), undoes(1, none), undoes(2, none)))
	checkDoc(t, "done again, and nobody since", again, "map 1 k=mine\n")
	checkDoc(t, "done again, but another came since", logOf(again, behind), "map 1 k=behind\n")
}

// What is undone is the actor's own: the same Seq of another one stays.
func TestP11UndoneOfOneActor(t *testing.T) {
	for one := range 16 {
		other := (one + 5) % 16
		log := logOf(diary(one, 1, writes(1, "a", "x"), undoes(1, writes(1, "a", ""))), diary(other, 1, writes(1, "b", "y"), writes(1, "c", "z")))
		checkText9(t, fmt.Sprint("actor ", one), log, "map 1 b=y c=z\n")
	}
}

// Every way in which five settings can undo one another, alone and beside another actor's setting.
func TestP11EveryUndoing(t *testing.T) {
	told := map[string]int{}
	for i := range 1 * 2 * 3 * 4 * 5 {
		var deeds []impl.Op
		rest := i
		for seq := 1; seq <= 5; seq++ {
			deeds = append(deeds, undoes(rest%seq, writes(1, "k", fmt.Sprint("text", seq))))
			rest /= seq
		}
		log := diary(3, 10, deeds...)
		checkAll(t, fmt.Sprint("undoing ", i), log)
		for n := range 6 {
			checkAt(t, fmt.Sprint("undoing ", i), log, vectorOf(3, n))
		}
		for time := 9; time < 16; time++ {
			with := logOf(log, diary(8, time, writes(1, "k", "other")))
			checkAll(t, fmt.Sprint("undoing ", i, " beside another"), with)
			checkWithout(t, with)
		}
		text, _ := impl.DocText(log)
		told[text]++
	}
	if len(told) != 6 {
		t.Errorf("only these were told: %v", told)
	}
}

// checkWithout asks that a map is told as if what undoes and what is undone had never been.
func checkWithout(t *testing.T, log []impl.Op) {
	t.Helper()
	left := map[int][]impl.Op{}
	for _, op := range log {
		if op.Undo == 0 && !undoneDeed(log, op) {
			left[op.Actor] = append(left[op.Actor], op)
		}
	}
	var without []impl.Op
	for actor, ops := range left {
		for i, op := range ops {
			op.Seq, op.Deps = i+1, vectorOf(actor, i)
			without = append(without, op)
		}
	}
	want, code := impl.DocText(inOrder(without))
	wantCode(t, "without", code, impl.OK)
	if got, _ := impl.DocText(log); got != want && len(without) > 0 {
		t.Errorf("%s with what was undone, %s without", brief(got), brief(want))
	}
}

// Settings of several Keys and actors that undo at random.
func TestP11AnyUndoing(t *testing.T) {
	random := rand.New(rand.NewSource(91))
	for range 400 {
		var diaries [][]impl.Op
		for _, actor := range []int{0, 6, 15} {
			var deeds []impl.Op
			for seq := range random.Intn(9) {
				deed := writes(1, names()[random.Intn(5)], fmt.Sprint(actor, ".", seq))
				if random.Intn(2) == 0 {
					deed = undoes(random.Intn(seq+1), deed)
				}
				deeds = append(deeds, deed)
			}
			diaries = append(diaries, diary(actor, 1+random.Intn(9), deeds...))
		}
		log := logOf(diaries...)
		checkAll(t, "any undoing", log)
		checkWithout(t, log)
	}
}
