package tests

import (
	"fmt"
	"math"
	"slices"
	"testing"

	"loop.example/g00028/impl"
)

// shelf is a log that operations are picked onto: a map, a list of which a character is gone, and a counter, by the
// actors 0, 4 and 15; its greatest stamp is {40, 4}.
func shelf() []impl.Op {
	return logOf(
		diary(0, 10, writes(1, "k", "old"), types(3, 'a', start()), types(3, 'b', stamp(11, 0)), takes(3, stamp(12, 0))),
		diary(4, 39, counts(5, 7), writes(1, "l", "left")), diary(15, 20, types(4, 'z', start())),
	)
}

// Of each Kind every field of what is picked, by one who has operations there and by one who has none.
func TestP13PickedFields(t *testing.T) {
	for what, deed := range map[string]impl.Op{
		"a setting":                           writes(1, "k", "new"),
		"a setting of another Key":            writes(1, "m", "new"),
		"a setting to nothing":                writes(1, "k", ""),
		"a setting of an empty Key":           writes(1, "", "v"),
		"a setting of odd bytes":              writes(1, "\x00\xff", "\xff%="),
		"a setting of long ones":              writes(1, letters(200), letters(200)),
		"a setting in a new map":              writes(100, "k", "v"),
		"a character at the beginning":        types(3, 'x', start()),
		"a character behind another one":      types(3, 'x', stamp(11, 0)),
		"a character behind one that is gone": types(3, 'x', stamp(12, 0)),
		"a character of another list":         types(4, 0x1f600, stamp(20, 15)),
		"character 0":                         types(3, 0, stamp(11, 0)),
		"the last character":                  types(3, 1114111, start()),
		"a character in a new list":           types(2, 'x', start()),
		"a taking away":                       takes(3, stamp(11, 0)),
		"a taking away of what is gone":       takes(3, stamp(12, 0)),
		"a taking away in another list":       takes(4, stamp(20, 15)),
		"an adding":                           counts(5, 3),
		"an adding below 0":                   counts(5, -3),
		"an adding of 0":                      counts(5, 0),
		"an adding of the most":               counts(5, impl.MaxTime),
		"an adding of the least":              counts(5, -impl.MaxTime),
		"an adding to a new counter":          counts(99, 1),
	} {
		// In the other log it is the third that actor 9 did, late, and knowing another one; all of that is left there.
		from := logOf(diary(1, 3, counts(60, 1)), diary(9, 500, counts(60, 1), counts(60, 2), deed, counts(60, 3)))
		from[3].Deps.Counts[1] = 1
		for by, want := range map[int]struct{ seq, time int }{0: {5, 41}, 3: {1, 41}, 4: {3, 41}, 5: {1, 40}, 9: {1, 40}, 15: {2, 40}} {
			op := deed
			op.Actor, op.Seq, op.Time, op.Deps = by, want.seq, want.time, vector(4, 0, 0, 0, 2, 0, 0, 0, 0, 0, 0, 0, 0, 0, 0, 1)
			checkPicked(t, fmt.Sprint(what, ", by ", by), from, shelf(), picking{9, 3, by}, op)
			undone := logWith(from, 3, func(op *impl.Op) { op.Undo = 2 })
			checkPicked(t, fmt.Sprint(what, " that undoes, by ", by), undone, shelf(), picking{9, 3, by}, op)
			later := logWith(from, 4, func(op *impl.Op) { op.Undo = 3 })
			checkPicked(t, fmt.Sprint(what, " that is undone, by ", by), later, shelf(), picking{9, 3, by}, op)
		}
	}
}

// What was picked does the same thing again, told by the documents; picked twice, it is done twice.
func TestP13PickedDoesItAgain(t *testing.T) {
	const ahead, behind = "map 1 k=old l=left\n", "list 4 z\ncount 5 7\n"
	for _, c := range []struct {
		what        string
		deed        impl.Op
		want, twice string
	}{
		{"a setting", writes(1, "k", "new"), "map 1 k=new l=left\nlist 3 a\n" + behind, "map 1 k=new l=left\nlist 3 a\n" + behind},
		{"a setting to nothing", writes(1, "l", ""), "map 1 k=old\nlist 3 a\n" + behind, "map 1 k=old\nlist 3 a\n" + behind},
		{"a new map", writes(2, "k", "v"), ahead + "map 2 k=v\nlist 3 a\n" + behind, ahead + "map 2 k=v\nlist 3 a\n" + behind},
		{"a character", types(3, 'x', start()), ahead + "list 3 xa\n" + behind, ahead + "list 3 xxa\n" + behind},
		{"a character behind one", types(3, 'x', stamp(11, 0)), ahead + "list 3 ax\n" + behind, ahead + "list 3 axx\n" + behind},
		{"a character behind one that is gone", types(3, 'x', stamp(12, 0)), ahead + "list 3 ax\n" + behind, ahead + "list 3 axx\n" + behind},
		{"a taking away", takes(4, stamp(20, 15)), ahead + "list 3 a\nlist 4 \ncount 5 7\n", ahead + "list 3 a\nlist 4 \ncount 5 7\n"},
		{"an adding", counts(5, -10), ahead + "list 3 a\nlist 4 z\ncount 5 -3\n", ahead + "list 3 a\nlist 4 z\ncount 5 -13\n"},
	} {
		onto := shelf()
		for _, want := range []string{c.want, c.twice} {
			op, code := impl.BranchPick(diary(9, 500, c.deed), 9, 1, onto, 7)
			wantCode(t, c.what, code, impl.OK)
			onto = mergedLog(t, onto, []impl.Op{op})
			checkText9(t, c.what, onto, want)
		}
		// It is undone as any other operation.
		if undoing, code := impl.UndoOf(onto, 7); code != impl.OK || undoing.Undo != 2 {
			t.Errorf("%s: %v undoes what was picked, code %d", c.what, undoing, code)
		}
	}
	// What undoes a setting sets the Key to nothing when it is picked, though it did not in its own log.
	from := diary(9, 500, writes(1, "k", "a"), writes(1, "k", "b"), undoes(2, writes(1, "k", "")))
	checkText9(t, "undone there", from, "map 1 k=a\n")
	op, code := impl.BranchPick(from, 9, 3, shelf(), 7)
	wantCode(t, "what undoes", code, impl.OK)
	checkText9(t, "what undoes", mergedLog(t, shelf(), []impl.Op{op}), "map 1 l=left\nlist 3 a\nlist 4 z\ncount 5 7\n")
	checkDone(t, "what undoes", mergedLog(t, shelf(), []impl.Op{op}), 7)
}

// Onto a log with nothing: all of it is the first.
func TestP13PickedOntoNothing(t *testing.T) {
	for by := range 16 {
		for _, none := range [][]impl.Op{nil, {}} {
			for _, deed := range []impl.Op{writes(1, "k", "v"), types(3, 'x', start()), counts(5, 4)} {
				want := deed
				want.Actor, want.Seq, want.Time, want.Deps = by, 1, 1, vector()
				checkPicked(t, "onto nothing", diary(9, 500, deed), none, picking{9, 1, by}, want)
			}
			for _, deed := range []impl.Op{types(3, 'x', stamp(1, 7)), takes(3, stamp(1, 7))} {
				checkNotPicked(t, "onto nothing, with an At", diary(9, 500, deed), none, picking{9, 1, by}, impl.ErrCause)
			}
		}
	}
}

// From and onto one and the same log: each of its operations, by each actor.
func TestP13PickedOntoItself(t *testing.T) {
	for what, log := range map[string][]impl.Op{"the shelf": shelf(), "the story": inOrder(story()), "some": fullLog(40)} {
		for _, op := range log {
			for by := range 16 {
				want := op
				want.Actor, want.Seq, want.Time, want.Deps, want.Undo = by, seqsOf(log, by)+1, timeAbove(log, by), knownIn(log), 0
				checkPicked(t, what, log, log, picking{op.Actor, op.Seq, by}, want)
				checkPicked(t, what+", in other memory", log, copyLog(log), picking{op.Actor, op.Seq, by}, want)
			}
		}
	}
	text, _ := impl.DocText(inOrder(story()))
	if text != "map 1 b=two\nlist 3 y\ncount 5 4\n" {
		t.Fatalf("the test is at odds with itself: %q", text)
	}
	log := inOrder(story())
	for _, op := range inOrder(story()) {
		again, code := impl.BranchPick(log, op.Actor, op.Seq, log, 2)
		wantCode(t, "one behind the other", code, impl.OK)
		log = mergedLog(t, log, []impl.Op{again})
	}
	checkText9(t, "one behind the other", log, "map 1 b=two\nlist 3 xyy\ncount 5 8\n")
}

// Which stamp: above all of onto, whoever has the greatest there.
func TestP13PickedStamps(t *testing.T) {
	from := diary(3, impl.MaxTime, counts(5, 1))
	for by := range 16 {
		for other := range 16 {
			for _, time := range []int{1, 7, impl.MaxTime - 1} {
				onto := diary(other, time, counts(5, 1))
				if other != by {
					onto = logOf(onto, diary(by, 1, counts(5, 1)))
				}
				want := counts(5, 1)
				want.Actor, want.Seq, want.Time, want.Deps = by, seqsOf(onto, by)+1, time, knownIn(onto)
				if by <= other || time == 1 {
					want.Time++
				}
				checkPicked(t, fmt.Sprintf("by %d, where %d has %d", by, other, time), from, onto, picking{3, 1, by}, want)
			}
			// The last Time that there is: a greater actor still has a stamp above it.
			onto := diary(other, impl.MaxTime, counts(5, 1))
			if by <= other {
				checkNotPicked(t, "no stamp left", from, onto, picking{3, 1, by}, impl.ErrMany)
				continue
			}
			want := counts(5, 1)
			want.Actor, want.Seq, want.Time, want.Deps = by, 1, impl.MaxTime, vectorOf(other, 1)
			checkPicked(t, "the last Time", from, onto, picking{3, 1, by}, want)
		}
	}
}

// Stamps of from do not matter, only those of onto.
func TestP13PickedAcrossTimes(t *testing.T) {
	late, early := diary(3, impl.MaxTime-1, counts(5, 1), counts(5, 2)), diary(4, 1, counts(5, 3))
	checkPicked(t, "late onto early", late, early, picking{3, 2, 3}, opWith(opAdd(by(3, 1, 2), 5, 2), func(op *impl.Op) { op.Deps.Counts[4] = 1 }))
	checkNotPicked(t, "early onto late", early, late, picking{4, 1, 3}, impl.ErrMany)
	checkPicked(t, "early onto late, by a greater one", early, late, picking{4, 1, 4}, opWith(opAdd(by(4, 1, impl.MaxTime), 5, 3), func(op *impl.Op) { op.Deps.Counts[3] = 2 }))
}

// What from has not: no such actor, one without operations, no such Seq.
func TestP13PickedOfNobody(t *testing.T) {
	s := inOrder(story())
	targets := [][]impl.Op{nil, s, shelf(), fullLog(impl.MaxLog), diary(15, impl.MaxTime, counts(1, 1))}
	numbers := []int{math.MinInt, -1 << 32, -16, -1, 0, 1, 2, 3, 4, 5, 14, 15, 16, 17, 256, 1 << 32, 1<<32 + 1, impl.MaxTime, math.MaxInt}
	for _, actor := range numbers {
		for _, seq := range numbers {
			there := slices.ContainsFunc(s, func(op impl.Op) bool { return op.Actor == actor && op.Seq == seq })
			for _, onto := range targets {
				checkNotPicked(t, "of nothing", nil, onto, picking{actor, seq, 3}, impl.ErrMissing)
				if !there {
					checkNotPicked(t, "not there", s, onto, picking{actor, seq, 3}, impl.ErrMissing)
				}
				for _, by := range noActors() {
					checkNotPicked(t, "by nobody", s, onto, picking{actor, seq, by}, impl.ErrRange)
					checkNotPicked(t, "of nothing, by nobody", nil, onto, picking{actor, seq, by}, impl.ErrRange)
				}
			}
		}
	}
	// Who has one there and none here, and the other way round.
	checkNotPicked(t, "only onto has it", diary(3, 1, counts(5, 1)), diary(4, 1, counts(5, 1)), picking{4, 1, 3}, impl.ErrMissing)
	checkNotPicked(t, "only onto has so many", diary(3, 1, counts(5, 1)), diary(3, 1, counts(5, 1), counts(5, 1)), picking{3, 2, 3}, impl.ErrMissing)
	checkPicked(t, "only from has it", diary(4, 1, counts(5, 1)), diary(3, 1, counts(5, 1)), picking{4, 1, 3}, opAdd(by(3, 2, 2), 5, 1))
	for actor := range 16 {
		log := diary(actor, 1, counts(5, 1), counts(5, 2))
		for seq, want := range map[int]int{-1: impl.ErrMissing, 0: impl.ErrMissing, 1: impl.OK, 2: impl.OK, 3: impl.ErrMissing} {
			for other := range 16 {
				if other == actor {
					wantCode(t, "its own", checkPicking(t, "its own", log, shelf(), picking{actor, seq, 0}), want)
				} else {
					checkNotPicked(t, "another one's", log, shelf(), picking{other, seq, 0}, impl.ErrMissing)
				}
			}
		}
	}
}

// An Obj that is another thing in onto.
func TestP13PickedUnlikeThings(t *testing.T) {
	for _, obj := range []int{1, 50, 100} {
		for i, x := range kindsOf(7, obj) {
			for j, y := range kindsOf(8, obj) {
				alike := i == j || i+j == 3 && i*j == 2
				from := []impl.Op{x}
				what := fmt.Sprint("kinds ", x.Kind, y.Kind, " of ", obj)
				for _, onto := range [][]impl.Op{{y}, logOf(diary(0, 1, counts(60, 1)), []impl.Op{y}, diary(15, 1, counts(60, 1)))} {
					code := checkPicking(t, what, from, onto, picking{7, 1, 3})
					switch {
					case !alike:
						wantCode(t, what, code, impl.ErrKind)
					case x.Kind == impl.ODel:
						wantCode(t, what, code, impl.ErrCause)
					default:
						wantCode(t, what, code, impl.OK)
					}
				}
				// Only the own Obj is asked for.
				beside := opWith(y, func(op *impl.Op) { op.Obj = 51 })
				if code := checkPicking(t, what, from, []impl.Op{beside}, picking{7, 1, 3}); x.Kind != impl.ODel {
					wantCode(t, what+" beside", code, impl.OK)
				}
			}
		}
	}
}

// What an At stands upon: an OIns of this Obj in onto, and nothing else.
func TestP13PickedUponWhat(t *testing.T) {
	onto := logOf(
		diary(2, 10, types(3, 'a', start()), types(4, 'b', start()), takes(3, stamp(10, 2)), writes(1, "k", "v"), counts(5, 1), types(3, 'c', stamp(10, 2))),
		diary(6, 10, types(4, 'd', start()), types(3, 'e', start())),
	)
	for at, want := range map[impl.Stamp]int{
		start():          impl.OK,
		stamp(10, 2):     impl.OK,       // it is gone, which is not asked
		stamp(15, 2):     impl.OK,       // behind another one
		stamp(11, 6):     impl.OK,       // another actor's
		stamp(11, 2):     impl.ErrCause, // of another Obj
		stamp(10, 6):     impl.ErrCause, // of another Obj, where this Time is another actor's of this Obj
		stamp(12, 2):     impl.ErrCause, // an ODel
		stamp(13, 2):     impl.ErrCause, // an OSet
		stamp(14, 2):     impl.ErrCause, // an OAdd
		stamp(10, 0):     impl.ErrCause, // nothing: another actor
		stamp(10, 15):    impl.ErrCause,
		stamp(9, 2):      impl.ErrCause, // nothing: another Time
		stamp(16, 2):     impl.ErrCause,
		stamp(1, 0):      impl.ErrCause,
		stamp(499, 15):   impl.ErrCause,
		stamp(10+512, 2): impl.ErrCause,
	} {
		for _, deed := range []impl.Op{types(3, 'x', at), takes(3, at)} {
			if deed.Kind == impl.ODel && at == start() {
				continue
			}
			from := diary(9, 600, deed)
			what := fmt.Sprint("upon ", at, " with kind ", deed.Kind)
			wantCode(t, what, checkPicking(t, what, from, onto, picking{9, 1, 2}), want)
			if want != impl.OK {
				checkNotPicked(t, what, from, onto, picking{9, 1, 2}, want)
			}
			// In from it may be there: this is not asked.
			with := logOf(from, diary(at.Actor, max(at.Time, 1), types(3, 'y', start())))
			if at.Actor != 9 {
				wantCode(t, what+", which is in from", checkPicking(t, what, with, onto, picking{9, 1, 2}), want)
			}
			// Onto has the object not at all.
			if code := checkPicking(t, what, from, onto[:0], picking{9, 1, 2}); at != start() {
				wantCode(t, what+", onto nothing", code, impl.ErrCause)
			}
		}
	}
}

// What is picked first can be stood upon only by its new stamp.
func TestP13PickedOneBehindTheOther(t *testing.T) {
	from := diary(9, 500, typed(3, 9, 500, "xy")...)
	onto := shelf()
	checkNotPicked(t, "the second alone", from, onto, picking{9, 2, 4}, impl.ErrCause)
	op, code := impl.BranchPick(from, 9, 1, onto, 4)
	wantCode(t, "the first", code, impl.OK)
	onto = mergedLog(t, onto, []impl.Op{op})
	checkNotPicked(t, "the second behind the first", from, onto, picking{9, 2, 4}, impl.ErrCause)
	// When onto was merged with from, both are there.
	both, code := impl.BranchMerge(onto, from)
	wantCode(t, "both", code, impl.OK)
	wantCode(t, "the second, when both are there", checkPicking(t, "both", from, both, picking{9, 2, 4}), impl.OK)
}

// Logs that are unlike at one Actor and Seq: this is not asked.
func TestP13PickedFromUnlikeLogs(t *testing.T) {
	a, b := diary(3, 5, types(3, 'a', start()), counts(5, 1)), diary(3, 5, types(3, 'b', start()), counts(5, 2))
	checkNotParted(t, "unlike", a, b, impl.ErrFork)
	checkPicked(t, "the unlike one", a, b, picking{3, 1, 3}, nextDeed(b, 3, types(3, 'a', start())))
	checkPicked(t, "the unlike one, the other way round", b, a, picking{3, 2, 9}, nextDeed(a, 9, counts(5, 2)))
	// What it stands upon has the stamp, though it is another character.
	c := diary(3, 5, types(3, 'a', start()), types(3, 'c', stamp(5, 3)))
	checkPicked(t, "upon an unlike one", c, b, picking{3, 2, 4}, nextDeed(b, 4, types(3, 'c', stamp(5, 3))))
	op, _ := impl.BranchPick(c, 3, 2, b, 4)
	checkText9(t, "upon an unlike one", mergedLog(t, b, []impl.Op{op}), "list 3 bc\ncount 5 2\n")
}
