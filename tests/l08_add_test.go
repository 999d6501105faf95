package tests

import (
	"fmt"
	"slices"
	"testing"

	"loop.example/g00028/impl"
)

func TestP10AddOrdinary(t *testing.T) {
	s := story()
	log := inOrder(s)
	checkAdded(t, "all to nothing", nil, s, log, nil)
	checkAdded(t, "all to all", log, s, log, nil)
	checkAdded(t, "nothing to nothing", nil, nil, nil, nil)
	checkAdded(t, "nothing to all", log, nil, log, nil)
	checkAdded(t, "nothing to all", log, []impl.Op{}, log, nil)
	checkAdded(t, "the first", nil, s[:1], s[:1], nil)
	checkAdded(t, "the first twice", nil, []impl.Op{s[0], s[0]}, s[:1], nil)
	checkAdded(t, "the first again", s[:1], []impl.Op{s[0], s[0]}, s[:1], nil)
	checkAdded(t, "all twice", nil, slices.Concat(s, s), log, nil)
	for i := range s {
		checkAdded(t, fmt.Sprint("the story's next ", i), inOrder(s[:i]), s[i:i+1], inOrder(s[:i+1]), nil)
		checkAdded(t, fmt.Sprint("the rest from ", i), inOrder(s[:i]), s[i:], log, nil)
		checkAdded(t, fmt.Sprint("all upon a part ", i), inOrder(s[:i]), s, log, nil)
	}
}

// Whatever the order and the pieces in which operations come, and whatever comes twice, the log is the same in the end.
func TestP10EveryOrder(t *testing.T) {
	s := story()
	log := inOrder(s)
	everyOrder(s, func(ops []impl.Op) {
		checkAdded(t, "at once", nil, ops, log, nil)
		for _, cut := range []int{1, 3, 5} {
			got, waits, code := impl.LogAdd(nil, ops[:cut])
			wantCode(t, "the first part", code, impl.OK)
			if len(got)+len(waits) != cut {
				t.Errorf("%d came, %d and %d are told", cut, len(got), len(waits))
			}
			checkAdded(t, "in two parts", got, slices.Concat(waits, ops[cut:]), log, nil)
			checkAdded(t, "in two parts, what waited last", got, slices.Concat(ops[cut:], waits), log, nil)
			checkAdded(t, "in two parts, the first part again", got, slices.Concat(ops[cut:], ops[:cut]), log, nil)
		}
	})
}

// All subsets of the story, in two orders, upon every log that a part of the story is: what waits is what has no
// causes there.
func TestP10EveryPart(t *testing.T) {
	s := story()
	for set := range 1 << len(s) {
		var more []impl.Op
		for i, op := range s {
			if set&(1<<i) != 0 {
				more = append(more, op)
			}
		}
		turned := slices.Clone(more)
		slices.Reverse(turned)
		for i := range len(s) + 1 {
			checkAdd(t, inOrder(s[:i]), more)
			checkAdd(t, inOrder(s[:i]), turned)
			checkAdd(t, inOrder(s[:i]), slices.Concat(turned, more))
		}
		if validLog(inOrder(more)) {
			checkAdd(t, inOrder(more), s)
		}
	}
}

func TestP10CausesThatComeLate(t *testing.T) {
	s := story()
	// By their numbers in the story: 3 stands upon 2, this upon 1, this upon 0.
	checkAdded(t, "all but the first wait", nil, []impl.Op{s[3], s[2], s[1]}, nil, []impl.Op{s[3], s[2], s[1]})
	checkAdded(t, "the first comes last", nil, []impl.Op{s[3], s[2], s[1], s[0]}, inOrder(s[:4]), nil)
	checkAdded(t, "one is missing", nil, []impl.Op{s[3], s[2], s[0]}, s[:1], []impl.Op{s[3], s[2]})
	checkAdded(t, "one of two causes is missing", inOrder(s[:3]), []impl.Op{s[5], s[4]}, inOrder(slices.Concat(s[:3], s[4:5])), s[5:6])
	checkAdded(t, "what waits comes twice", nil, []impl.Op{s[3], s[2], s[3], s[3], s[2], s[0], s[2]}, s[:1], []impl.Op{s[3], s[2]})
	checkAdded(t, "what waits comes twice, turned over", nil, []impl.Op{s[2], s[3], s[0], s[2], s[3], s[3]}, s[:1], []impl.Op{s[2], s[3]})
	checkAdded(t, "what waits stands between what is added", s[:1], []impl.Op{s[6], s[1], s[5], s[2], s[4]}, inOrder(slices.Concat(s[:3], s[4:5])), []impl.Op{s[6], s[5]})
	// The own ones count: a gap in an actor's Seq.
	for gap := 1; gap < 4; gap++ {
		far := opAdd(by(7, 1+gap, 50), 9, 1)
		checkAdded(t, fmt.Sprint("a gap of ", gap), s[:1], []impl.Op{far, far}, s[:1], []impl.Op{far})
	}
	far := opAdd(by(0, impl.MaxTime, impl.MaxTime, 0, impl.MaxTime, 3), 9, 1)
	checkAdded(t, "as far as can be", inOrder(s), []impl.Op{far}, inOrder(s), []impl.Op{far})
}

// What counts one that is not below it never comes in, whatever comes; what stands upon it waits too.
func TestP10CausesThatNeverFit(t *testing.T) {
	first := opAdd(by(0, 1, 5), 1, 1)
	for _, late := range []impl.Op{
		opAdd(by(1, 1, 4, 1), 1, 1), opAdd(by(0, 2, 5), 1, 1), opAdd(by(0, 2, 4), 1, 1), opAdd(by(15, 1, 1, 1), 1, 1),
	} {
		upon := opWith(opAdd(by(2, 1, 9), 1, 1), func(op *impl.Op) { op.Deps.Counts[late.Actor] = late.Seq })
		checkAdded(t, "not above its cause", []impl.Op{first}, []impl.Op{upon, late}, []impl.Op{first}, []impl.Op{upon, late})
		checkAdded(t, "not above its cause, which comes too", nil, []impl.Op{late, first}, []impl.Op{first}, []impl.Op{late})
		// Its kind does not matter then.
		odd := opWith(late, func(op *impl.Op) { op.Kind, op.N, op.Key = impl.OSet, 0, "k" })
		checkAdded(t, "of another kind too", []impl.Op{first}, []impl.Op{odd}, []impl.Op{first}, []impl.Op{odd})
	}
	// By the actor alone it is above.
	above := opAdd(by(1, 1, 5, 1), 1, 1)
	checkAdded(t, "above by its actor", []impl.Op{first}, []impl.Op{above}, []impl.Op{first, above}, nil)
	below := opWith(opAdd(by(0, 1, 5), 1, 1), func(op *impl.Op) { op.Deps.Counts[1] = 1 })
	upper := opAdd(by(1, 1, 5), 1, 1)
	checkAdded(t, "below by its actor", []impl.Op{upper}, []impl.Op{below}, []impl.Op{upper}, []impl.Op{below})
}

// twins are unlike an operation in one thing each, and valid with the same Actor and Seq.
func twins(op impl.Op) map[string]impl.Op {
	list := map[string]impl.Op{
		"Time": opWith(op, func(op *impl.Op) { op.Time++ }),
		"Deps": opWith(op, func(op *impl.Op) { op.Deps.Counts[9]++ }),
		"Obj":  opWith(op, func(op *impl.Op) { op.Obj += 10 }),
		"Undo": opWith(op, func(op *impl.Op) { op.Undo = 1 - op.Undo }),
		"Key":  opWith(op, func(op *impl.Op) { op.Key += "." }),
		"Text": opWith(op, func(op *impl.Op) { op.Text += "." }),
		"N":    opWith(op, func(op *impl.Op) { op.N++ }),
		"At":   opWith(op, func(op *impl.Op) { op.At = stamp(1, 1) }),
		"Kind": opWith(opAdd(opWith(op, func(op *impl.Op) { op.Key, op.Text, op.At = "", "", start() }), 70, 7), func(*impl.Op) {}),
		"both": opWith(opSet(opWith(op, func(op *impl.Op) { op.N, op.At = 0, start() }), 71, "k", "t"), func(op *impl.Op) { op.Time++ }),
	}
	for name, twin := range list {
		if !validDeed(twin) || sameDeed(op, twin) {
			delete(list, name)
		}
	}
	return list
}

func TestP10Forks(t *testing.T) {
	s := story()
	log := inOrder(s)
	told := map[string]int{}
	for i, op := range s {
		for name, twin := range twins(op) {
			told[name]++
			what := fmt.Sprint(name, " of ", i)
			checkNotAdded(t, what+", against the log", log, []impl.Op{twin}, impl.ErrFork)
			checkNotAdded(t, what+", against the log, behind others", log, slices.Concat(s, []impl.Op{twin}), impl.ErrFork)
			checkNotAdded(t, what+", within", nil, []impl.Op{op, twin}, impl.ErrFork)
			checkNotAdded(t, what+", within, turned over", nil, []impl.Op{twin, op}, impl.ErrFork)
			checkNotAdded(t, what+", far apart", nil, slices.Concat([]impl.Op{twin}, s), impl.ErrFork)
			checkNotAdded(t, what+", with the right one too", log, []impl.Op{op, twin, op}, impl.ErrFork)
			// Against one that waits as well as against one that is there: no adding has begun.
			checkNotAdded(t, what+", of what waits", nil, []impl.Op{s[(i+1)%len(s)], op, s[(i+2)%len(s)], twin}, impl.ErrFork)
			checkAdd(t, inOrder(s[:i]), []impl.Op{twin})
		}
	}
	for _, name := range []string{"Time", "Deps", "Obj", "Undo", "Key", "Text", "N", "At", "Kind", "both"} {
		if told[name] < 2 {
			t.Errorf("%s: only %d twins", name, told[name])
		}
	}
	// The actor and the Seq are both of the name.
	checkAdd(t, log, []impl.Op{opWith(s[0], func(op *impl.Op) { op.Actor = 3 })})
	checkAdd(t, log, []impl.Op{opWith(s[0], func(op *impl.Op) { op.Seq, op.Deps.Counts[0] = 4, 3 })})
	// Alike in other memory is alike.
	checkAdded(t, "alike", log, copyLog(s), log, nil)
	checkAdded(t, "alike and waiting", nil, slices.Concat(s[2:], copyLog(s[2:])), nil, s[2:])
}

func TestP10WrongKinds(t *testing.T) {
	s := story()
	log := inOrder(s)
	odd := opAdd(by(7, 1, 50), 1, 1)
	fits := opAdd(by(8, 1, 50), 5, 1)
	// Whatever else can be added, and wherever it stands.
	everyOrder([]impl.Op{odd, fits, s[2], opAdd(by(8, 2, 51), 5, 1)}, func(more []impl.Op) { checkNotAdded(t, "against the log", log, more, impl.ErrKind) })
	checkNotAdded(t, "against what is added", nil, []impl.Op{odd, s[0]}, impl.ErrKind)
	checkNotAdded(t, "against what is added", nil, []impl.Op{s[0], odd}, impl.ErrKind)
	checkNotAdded(t, "against both", s[:1], []impl.Op{odd, opSet(by(8, 1, 50), 1, "z", "")}, impl.ErrKind)
	checkNotAdded(t, "against both", s[:1], []impl.Op{opSet(by(8, 1, 50), 1, "z", ""), odd}, impl.ErrKind)
	checkNotAdded(t, "when its cause comes", s[:1], []impl.Op{opAdd(by(7, 1, 50, 2), 1, 1), s[1]}, impl.ErrKind)
	// It is not only its kind.
	for name, waits := range map[string]impl.Op{
		"a gap":            opAdd(by(7, 2, 50), 1, 1),
		"a missing cause":  opAdd(by(7, 1, 50, 4), 1, 1),
		"not above causes": opAdd(by(7, 1, 5, 0, 0, 0, 0, 0, 0, 0, 0, 0, 0, 0, 0, 0, 0, 0, 2), 1, 1),
	} {
		checkAdded(t, name, log, []impl.Op{waits, fits}, inOrder(slices.Concat(log, []impl.Op{fits})), []impl.Op{waits})
	}
	// Two that wait may stand against each other.
	waits := []impl.Op{opAdd(by(7, 2, 50), 60, 1), opSet(by(8, 2, 50), 60, "k", "t")}
	checkAdded(t, "two that wait", log, waits, log, waits)
	checkNotAdded(t, "two that waited", log, slices.Concat(waits, []impl.Op{opAdd(by(7, 1, 40), 61, 1), opAdd(by(8, 1, 40), 61, 1)}), impl.ErrKind)
}
