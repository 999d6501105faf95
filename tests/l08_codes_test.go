package tests

import (
	"fmt"
	"math/rand"
	"slices"
	"testing"

	"loop.example/g00028/impl"
)

// A fork goes ahead of a wrong kind, of one too many, and of what waits.
func TestP10ForksGoAhead(t *testing.T) {
	s := story()
	log := inOrder(s)
	twin := opWith(s[0], func(op *impl.Op) { op.Text = "two" })
	odd := opAdd(by(7, 1, 50), 1, 1)
	wrong := opWith(odd, func(op *impl.Op) { op.Obj = 0 })
	checkNotAdded(t, "a wrong kind", log, []impl.Op{odd}, impl.ErrKind)
	everyOrder([]impl.Op{odd, twin, s[0], s[3]}, func(more []impl.Op) { checkNotAdded(t, "a fork and a wrong kind", log, more, impl.ErrFork) })
	everyOrder([]impl.Op{odd, twin, s[0], wrong}, func(more []impl.Op) { checkNotAdded(t, "a fork, a wrong kind and a fault", log, more, impl.ErrBad) })
	// The twin is of a wrong kind itself.
	odder := opWith(odd, func(op *impl.Op) { op.N = 2 })
	checkNotAdded(t, "both of a wrong kind", log, []impl.Op{odd, odder}, impl.ErrFork)
	checkNotAdded(t, "unlike in its kind", log, []impl.Op{opAdd(by(0, 1, 1), 1, 1)}, impl.ErrFork)
	full := fullLog(impl.MaxLog)
	more := opAdd(by(15, 1, 5000), 100, 1)
	checkNotAdded(t, "one too many", full, []impl.Op{more}, impl.ErrMany)
	fork := opWith(full[500], func(op *impl.Op) { op.N = 77 })
	checkNotAdded(t, "one too many, and a fork", full, []impl.Op{more, fork}, impl.ErrFork)
	checkNotAdded(t, "one too many that is a fork", full, []impl.Op{more, opWith(more, func(op *impl.Op) { op.N = 2 })}, impl.ErrFork)
}

// fullLog is a log of size operations of the actors 0 to 14 by turns, each of which knows all that came ahead.
func fullLog(size int) []impl.Op {
	var ops []impl.Op
	var knew [16]int
	for i := range size {
		actor := i * 7 % 15
		op := by(actor, knew[actor]+1, i+1, knew[:]...)
		switch i % 4 {
		case 0:
			op = opSet(op, 1+i%3, fmt.Sprint("key", i%50), fmt.Sprint("text", i))
		case 1:
			op = opIns(op, 40, 'a'+i%26, start())
		case 2:
			op = opDel(op, 40, stamp(i, (i-1)*7%15))
		case 3:
			op = opAdd(op, 100, 500-i)
		}
		knew[actor]++
		ops = append(ops, op)
	}
	return inOrder(ops)
}

func TestP10FullLogs(t *testing.T) {
	full := fullLog(impl.MaxLog)
	checkLog(t, "full", full, true)
	checkLog(t, "one more", fullLog(impl.MaxLog+1), false)
	checkLog(t, "many more", fullLog(impl.MaxList+1), false)
	random := rand.New(rand.NewSource(81))
	for range 3 {
		more := slices.Clone(full)
		random.Shuffle(len(more), func(i, j int) { more[i], more[j] = more[j], more[i] })
		checkAdded(t, "mixed", nil, more, full, nil)
		checkAdded(t, "mixed, all there", full, more, full, nil)
		half, waits, code := impl.LogAdd(nil, more[:512])
		wantCode(t, "half", code, impl.OK)
		rest := slices.Concat(more[512:], waits)
		checkAdded(t, "the other half", half, rest, full, nil)
	}
	turned := slices.Clone(full)
	slices.Reverse(turned)
	checkAdded(t, "turned over", nil, turned, full, nil)
	checkAdded(t, "turned over without the first", nil, slices.DeleteFunc(slices.Clone(turned), func(op impl.Op) bool { return op.Time == 1 }), nil,
		slices.DeleteFunc(slices.Clone(turned), func(op impl.Op) bool { return op.Time == 1 }))
}

// One more than MaxLog: it is too many only when nothing else stands against it.
func TestP10OneTooMany(t *testing.T) {
	full := fullLog(impl.MaxLog)
	fits := opAdd(by(15, 1, 5000), 100, 1)
	waits := opAdd(by(15, 2, 5001), 100, 1)
	wrong := opAdd(by(15, 1, 5000), 40, 1)
	checkNotAdded(t, "it can be added", full, []impl.Op{fits}, impl.ErrMany)
	checkNotAdded(t, "it can be added, of a new object", full, []impl.Op{opAdd(by(15, 1, 1), 77, 1)}, impl.ErrMany)
	checkAdded(t, "it waits", full, []impl.Op{waits}, full, []impl.Op{waits})
	checkAdded(t, "it is there already", full, full[700:710], full, nil)
	checkAdded(t, "it is there, and another waits", full, []impl.Op{full[9], waits, full[9]}, full, []impl.Op{waits})
	checkNotAdded(t, "its kind stands against it", full, []impl.Op{wrong}, impl.ErrKind)
	checkNotAdded(t, "what waited comes", full, []impl.Op{waits, fits}, impl.ErrMany)
	// The log is filled on the way; the first that can be is asked first.
	almost := fullLog(impl.MaxLog - 1)
	checkAdded(t, "the last that has room", almost, []impl.Op{fits}, inOrder(slices.Concat(almost, []impl.Op{fits})), nil)
	checkAdded(t, "the last that has room, twice", almost, []impl.Op{fits, fits}, inOrder(slices.Concat(almost, []impl.Op{fits})), nil)
	checkNotAdded(t, "the first that has none", almost, []impl.Op{fits, waits}, impl.ErrMany)
	checkNotAdded(t, "the first that has none", almost, []impl.Op{waits, fits}, impl.ErrMany)
	odd := opAdd(by(14, seqsOf(almost, 14)+1, 6000), 1, 1)
	last := opAdd(by(13, seqsOf(almost, 13)+1, 6000), 100, 1)
	checkNotAdded(t, "a wrong kind ahead of one too many", almost, []impl.Op{fits, odd, last}, impl.ErrKind)
	checkNotAdded(t, "one too many ahead of a wrong kind", almost, []impl.Op{fits, last, odd}, impl.ErrMany)
	checkNotAdded(t, "a wrong kind in a full log, ahead of one too many", full, []impl.Op{wrong, opAdd(by(14, seqsOf(full, 14)+1, 6000), 100, 1)}, impl.ErrKind)
	// 1024 of them with all there twice over.
	checkAdded(t, "all there, as many as can be", full, slices.Concat(full[:512], full[:512]), full, nil)
}

func seqsOf(log []impl.Op, actor int) int {
	n := 0
	for _, op := range log {
		if op.Actor == actor {
			n++
		}
	}
	return n
}

// Two faults at once: ErrLong, ErrBad, ErrFork, and then what adding meets.
func TestP10OrderOfCodes(t *testing.T) {
	s := story()
	log := inOrder(s)
	twin := opWith(s[0], func(op *impl.Op) { op.Text = "two" })
	odd := opAdd(by(7, 1, 50), 1, 1)
	long := slices.Repeat(s[:1], impl.MaxLog+1)
	faults := [][]impl.Op{{{}}, {twin}, {odd}, {opAdd(by(7, 2, 50), 1, 1)}}
	codes := []int{impl.ErrBad, impl.ErrFork, impl.ErrKind, impl.OK}
	for i, fault := range faults {
		_, _, code := checkAdd(t, log, fault)
		wantCode(t, fmt.Sprint("fault ", i), code, codes[i])
		for _, bad := range [][]impl.Op{log, log[1:], {{}}, fullLog(impl.MaxLog + 1)} {
			checkNotAdded(t, fmt.Sprint("too many, and fault ", i), bad, slices.Concat(long, fault), impl.ErrLong)
			checkNotAdded(t, fmt.Sprint("fault ", i, " and too many"), bad, slices.Concat(fault, long), impl.ErrLong)
			checkNotAdded(t, fmt.Sprint("fault ", i, ", just too many"), bad, slices.Concat(fault, long[:impl.MaxLog]), impl.ErrLong)
			if !validLog(bad) {
				checkNotAdded(t, fmt.Sprint("no log, and fault ", i), bad, fault, impl.ErrBad)
			}
		}
		_, _, code = impl.LogAdd(log, slices.Concat(fault, long[:impl.MaxLog-1]))
		wantCode(t, fmt.Sprint("just MaxLog with fault ", i), code, codes[i])
		for j, other := range faults {
			_, _, code := checkAdd(t, log, slices.Concat(fault, other))
			wantCode(t, fmt.Sprint("faults ", i, j), code, codes[min(i, j)])
		}
	}
	checkAdded(t, "just MaxLog of one", nil, long[:impl.MaxLog], s[:1], nil)
	checkNotAdded(t, "one more of one", nil, long, impl.ErrLong)
	checkNotAdded(t, "very many", nil, make([]impl.Op, 1<<20), impl.ErrLong)
	checkNotAdded(t, "very many in the log", make([]impl.Op, 1<<20), nil, impl.ErrBad)
	checkNotAdded(t, "MaxLog of nothing", nil, make([]impl.Op, impl.MaxLog), impl.ErrBad)
}

// All lists of three out of a pool with every fault, upon some logs.
func TestP10EverySmallList(t *testing.T) {
	s := story()
	pool := []impl.Op{
		s[0], s[1], s[2], s[4], opWith(s[1], func(op *impl.Op) { op.N = 'z' }), opAdd(by(7, 1, 50), 3, 1), opAdd(by(7, 2, 51, 2), 5, 1),
		opSet(by(8, 1, 50), 5, "k", ""), opAdd(by(8, 1, 50), 5, 1), {},
	}
	codes := map[int]int{}
	waited := 0
	for _, log := range [][]impl.Op{nil, s[:1], inOrder(s[:3]), inOrder(s)} {
		everyList(pool, 3, func(more []impl.Op) {
			_, waits, code := checkAdd(t, log, more)
			codes[code]++
			waited += len(waits)
		})
	}
	for _, code := range []int{impl.OK, impl.ErrBad, impl.ErrFork, impl.ErrKind} {
		if codes[code] < 100 {
			t.Errorf("code %d came %d times", code, codes[code])
		}
	}
	if waited < 100 {
		t.Errorf("only %d waited", waited)
	}
}
