package tests

import (
	"fmt"
	"testing"

	"loop.example/g00028/impl"
)

// A turn lets an actor undo, and says what is told then.
type turn struct {
	actor int
	want  string
}

// checkTurns lets them undo one after the other.
func checkTurns(t *testing.T, what string, log []impl.Op, turns ...turn) []impl.Op {
	t.Helper()
	for i, next := range turns {
		after, code := checkUndoing(t, what, log, next.actor)
		if code != impl.OK {
			t.Errorf("%s: turn %d: code %d", what, i, code)
			return log
		}
		log = after
		checkDoc(t, fmt.Sprintf("%s: turn %d", what, i), log, next.want)
	}
	return log
}

// Others set the same Key: what is told is what would be told without what was undone.
func TestP12KeysThatOthersSet(t *testing.T) {
	mine := diary(3, 10, writes(1, "k", "mine"))
	lower := func(time int) []impl.Op { return diary(1, time, writes(1, "k", "lower")) }
	higher := func(time int) []impl.Op { return diary(9, time, writes(1, "k", "higher")) }
	checkTurns(t, "nobody else", mine, turn{3, "map 1\n"})
	// Behind it in stamps, by the Time or by the actor alone.
	checkTurns(t, "behind it", logOf(mine, higher(30)), turn{3, "map 1 k=higher\n"})
	checkTurns(t, "just behind it", logOf(mine, higher(10)), turn{3, "map 1 k=higher\n"})
	checkTurns(t, "behind it, and undone too", logOf(mine, higher(30)), turn{3, "map 1 k=higher\n"}, turn{9, "map 1\n"})
	checkTurns(t, "behind it, and undone first", logOf(mine, higher(30)), turn{9, "map 1 k=mine\n"}, turn{3, "map 1\n"})
	// Ahead of it in stamps.
	checkTurns(t, "ahead of it", logOf(mine, higher(2)), turn{3, "map 1 k=higher\n"})
	checkTurns(t, "just ahead of it", logOf(mine, lower(10)), turn{3, "map 1 k=lower\n"})
	checkTurns(t, "ahead of it, and undone first", logOf(mine, lower(10)), turn{1, "map 1 k=mine\n"}, turn{3, "map 1\n"})
	three := logOf(lower(5), mine, higher(15))
	checkTurns(t, "between two", three, turn{3, "map 1 k=higher\n"}, turn{9, "map 1 k=lower\n"}, turn{1, "map 1\n"})
	checkTurns(t, "between two, the last first", three, turn{9, "map 1 k=mine\n"}, turn{3, "map 1 k=lower\n"}, turn{1, "map 1\n"})
	checkTurns(t, "between two, the first first", three, turn{1, "map 1 k=higher\n"}, turn{3, "map 1 k=higher\n"}, turn{9, "map 1\n"})
	// Another one set it to nothing: that stays, or what stood below it is told again.
	nothing := diary(9, 15, writes(1, "k", ""))
	checkTurns(t, "set to nothing since", logOf(lower(5), mine, nothing), turn{3, "map 1\n"}, turn{9, "map 1 k=lower\n"})
	// Other Keys, other maps, and another map's same Key stay.
	beside := logOf(mine, diary(9, 20, writes(1, "l", "l"), writes(2, "k", "two")))
	checkTurns(t, "beside it", beside, turn{3, "map 1 l=l\nmap 2 k=two\n"}, turn{9, "map 1 l=l\nmap 2\n"}, turn{9, "map 1\nmap 2\n"})
	// Somebody sets the Key when it was undone, and when that was undone again.
	log := checkTurns(t, "set when it was undone", logOf(lower(5), mine), turn{3, "map 1 k=lower\n"})
	log = withNext(log, 9, writes(1, "k", "since"))
	log = checkTurns(t, "set when it was undone", log, turn{1, "map 1 k=since\n"}, turn{9, "map 1\n"})
	checkNotUndone(t, "all is undone", log, 3, impl.ErrMissing)
	log = withNext(log, 3, undoes(2, writes(1, "k", "")))
	checkDoc(t, "done again by hand", log, "map 1 k=mine\n")
	checkDone(t, "done again by hand", log, 3, 2)
	checkTurns(t, "done again by hand", log, turn{3, "map 1\n"})
}

// One actor's own settings of a Key, some undone ahead.
func TestP12KeysSetAgain(t *testing.T) {
	log := diary(3, 10, writes(1, "k", "a"), writes(1, "k", "b"), writes(1, "k", "c"))
	checkTurns(t, "set three times", log, turn{3, "map 1 k=b\n"}, turn{3, "map 1 k=a\n"}, turn{3, "map 1\n"})
	ahead := withNext(log, 3, undoes(2, writes(1, "k", "")))
	checkDoc(t, "one ahead undone by hand", ahead, "map 1 k=c\n")
	checkTurns(t, "one ahead undone by hand", ahead, turn{3, "map 1 k=a\n"}, turn{3, "map 1\n"})
	again := withNext(checkTurns(t, "set since", log, turn{3, "map 1 k=b\n"}), 3, writes(1, "k", "d"))
	checkTurns(t, "set since", again, turn{3, "map 1 k=b\n"}, turn{3, "map 1 k=a\n"}, turn{3, "map 1\n"})
	back := withNext(checkTurns(t, "the undoing undone", log, turn{3, "map 1 k=b\n"}), 3, undoes(4, writes(1, "k", "")))
	checkDoc(t, "the undoing undone", back, "map 1 k=c\n")
	checkTurns(t, "the undoing undone", back, turn{3, "map 1 k=b\n"}, turn{3, "map 1 k=a\n"})
}

// A character that was put, and what others did with it.
func TestP12CharactersOfOthers(t *testing.T) {
	mine := diary(3, 10, types(3, 'x', start()))
	checkTurns(t, "typed", mine, turn{3, "list 3 \n"})
	taken := withNext(mine, 9, takes(3, stamp(10, 3)))
	checkTurns(t, "another one took it away", taken, turn{3, "list 3 \n"})
	checkTurns(t, "another one took it away, and undoes that", taken, turn{9, "list 3 x\n"})
	// What was put again is the other one's character: undoing the first takes away that one alone, which is gone.
	checkTurns(t, "put again by the other one", taken, turn{9, "list 3 x\n"}, turn{3, "list 3 x\n"})
	checkTurns(t, "undone by both", taken, turn{3, "list 3 \n"}, turn{9, "list 3 x\n"})
	behind := logOf(mine, diary(9, 20, types(3, 'y', stamp(10, 3)), types(3, 'z', stamp(20, 9)), types(3, 'w', stamp(10, 3))))
	checkDoc(t, "others put some behind it", behind, "list 3 xwyz\n")
	checkTurns(t, "others put some behind it", behind, turn{3, "list 3 wyz\n"}, turn{9, "list 3 yz\n"}, turn{9, "list 3 y\n"}, turn{9, "list 3 \n"})
	checkTurns(t, "those behind it go first", behind, turn{9, "list 3 xyz\n"}, turn{3, "list 3 yz\n"})
	// Behind what was taken away others can still put some.
	late := withNext(checkTurns(t, "typed", mine, turn{3, "list 3 \n"}), 1, types(3, 'l', stamp(10, 3)))
	checkTurns(t, "put behind what is gone", late, turn{1, "list 3 \n"})
}

// A character that was taken away: of the same actor, of another one, and by others too.
func TestP12TakenAway(t *testing.T) {
	own := diary(3, 10, types(3, 'x', start()), takes(3, stamp(10, 3)))
	after := checkTurns(t, "its own", own, turn{3, "list 3 x\n"})
	// The character that is there now was put by the undoing; what is undone next put the one that is gone.
	after = checkTurns(t, "its own, all undone", after, turn{3, "list 3 x\n"})
	checkNotUndone(t, "its own, all undone", after, 3, impl.ErrMissing)
	typing := diary(1, 1, typed(3, 1, 1, "abc")...)
	for i, without := range []string{"bc", "ac", "ab"} {
		log := withNext(typing, 3, takes(3, stamp(1+i, 1)))
		checkDoc(t, "another one's", log, "list 3 "+without+"\n")
		checkTurns(t, "another one's", log, turn{3, "list 3 abc\n"})
	}
	both := withNext(withNext(typing, 3, takes(3, stamp(2, 1))), 9, takes(3, stamp(2, 1)))
	checkTurns(t, "others took it away too", both, turn{3, "list 3 abc\n"}, turn{9, "list 3 abbc\n"})
	checkTurns(t, "others took it away too, and undo first", both, turn{9, "list 3 abc\n"})
	// It was put again by hand, behind the one that is gone and elsewhere.
	put := withNext(withNext(typing, 3, takes(3, stamp(2, 1))), 9, types(3, 'b', stamp(2, 1)))
	checkTurns(t, "it was put again", put, turn{3, "list 3 abbc\n"}, turn{9, "list 3 abc\n"})
	again := withNext(checkTurns(t, "put again", withNext(typing, 3, takes(3, stamp(2, 1))), turn{3, "list 3 abc\n"}), 9, takes(3, stamp(4, 3)))
	checkDoc(t, "what was put again is taken away", again, "list 3 ac\n")
	last := checkTurns(t, "what was put again is taken away", again, turn{9, "list 3 abc\n"})
	if op := last[len(last)-1]; op.Actor != 9 || op.At != stamp(4, 3) || op.N != 'b' {
		t.Errorf("%v", op)
	}
	// All are gone, and come back where they stood, whichever comes first.
	gone := typing
	for i := range 3 {
		gone = withNext(gone, 3+i, takes(3, stamp(1+i, 1)))
	}
	everyOrder([]int{0, 1, 2}, func(order []int) {
		log, seen := gone, [3]bool{}
		for _, i := range order {
			seen[i] = true
			want := ""
			for j, there := range seen {
				if there {
					want += "abc"[j : j+1]
				}
			}
			log = checkTurns(t, "behind one that is gone", log, turn{3 + i, "list 3 " + want + "\n"})
		}
	})
	// Others put some behind it since: it stands ahead of them, as it did.
	since := withNext(withNext(typing, 3, takes(3, stamp(2, 1))), 9, types(3, 'n', stamp(2, 1)))
	checkTurns(t, "others put some behind it since", since, turn{3, "list 3 abnc\n"})
	// The same character in another list is another one.
	lists := logOf(typing, diary(5, 40, types(4, 'q', start()), takes(4, stamp(40, 5))), diary(6, 40, types(2, 'r', start()), takes(2, stamp(40, 6))))
	checkTurns(t, "several lists", lists, turn{5, "list 2 \nlist 3 abc\nlist 4 q\n"}, turn{6, "list 2 r\nlist 3 abc\nlist 4 q\n"})
}

// What is added by others stays; only the amount is taken off.
func TestP12CountersOfOthers(t *testing.T) {
	log := logOf(diary(3, 10, counts(5, 4)), diary(9, 1, counts(5, 100), counts(5, -30)), diary(0, 50, counts(6, 7), counts(5, 1)))
	checkTurns(t, "added", log, turn{3, "count 5 71\ncount 6 7\n"}, turn{9, "count 5 101\ncount 6 7\n"}, turn{0, "count 5 100\ncount 6 7\n"}, turn{0, "count 5 100\ncount 6 0\n"}, turn{9, "count 5 0\ncount 6 0\n"})
	most := logOf(diary(0, 1, counts(5, impl.MaxTime), counts(5, impl.MaxTime)), diary(1, 1, counts(5, -impl.MaxTime)))
	checkTurns(t, "the most", most, turn{1, "count 5 2000000000000\n"}, turn{0, "count 5 1000000000000\n"}, turn{0, "count 5 0\n"})
}

// Two that undo at the same time, apart from each other: their logs go together, and both are taken back.
func TestP12UndoneApart(t *testing.T) {
	base := logOf(diary(2, 1, writes(1, "k", "two"), types(3, 'x', start()), counts(5, 20)), diary(8, 4, writes(1, "k", "eight"), types(3, 'y', stamp(2, 2)), counts(5, 8)))
	left, right := base, base
	for i := range 3 {
		left, _ = checkUndoing(t, "left", left, 2)
		right, _ = checkUndoing(t, "right", right, 8)
		both, other := mergedLog(t, left, right), mergedLog(t, right, left)
		want := []string{"map 1 k=eight\nlist 3 xy\ncount 5 0\n", "map 1 k=eight\nlist 3 \ncount 5 0\n", "map 1\nlist 3 \ncount 5 0\n"}[i]
		checkDoc(t, "both", both, want)
		if !sameLog(both, other) {
			t.Errorf("%s, merged the other way round %s", brief(both), brief(other))
		}
		for _, actor := range []int{2, 8} {
			checkDone(t, "both", both, actor, []int{1, 2, 3}[2-i:]...)
			checkUndoing(t, "both", both, actor)
		}
	}
}
