package tests

import (
	"cmp"
	"fmt"
	"math/rand"
	"slices"
	"testing"

	"loop.example/g00028/impl"
)

// Logs that are not valid, on either side and on both, go ahead of all else.
func TestP13WrongLogs(t *testing.T) {
	s := inOrder(story())
	wrong := wrongLogs()
	wrong["a count of what is not there"] = logWith(s, 3, func(op *impl.Op) { op.Deps.Counts[0] = 4 })
	wrong["a count of a later one"] = logWith(s, 3, func(op *impl.Op) { op.Deps.Counts[15] = 2 })
	wrong["a Time beyond the last"] = logWith(s, 6, func(op *impl.Op) { op.Time = impl.MaxTime + 1 })
	wrong["too few counts"] = logWith(s, 6, func(op *impl.Op) { op.Deps.Counts = op.Deps.Counts[:15] })
	wrong["turned over actors"] = slices.Concat(s[3:5], s[:3], s[5:])
	others := map[string][]impl.Op{
		"nothing": nil, "the story": s, "a fork": logWith(s, 0, func(op *impl.Op) { op.Text = "fork" }), "another kind": diary(9, 1, counts(1, 1), counts(3, 1)),
		"a full log": fullLog(impl.MaxLog), "no time left": diary(15, impl.MaxTime, counts(5, 1)),
	}
	for what, log := range wrong {
		for name, other := range others {
			checkNotParted(t, what+" and "+name, log, other, impl.ErrBad)
			for _, p := range []picking{{0, 1, 3}, {15, 1, 15}, {-1, 0, 3}, {9, 1, 16}, {16, 1, -1}} {
				checkNotPicked(t, what+" onto "+name, log, other, p, impl.ErrBad)
				checkNotPicked(t, name+" onto "+what, other, log, p, impl.ErrBad)
			}
		}
		checkNotParted(t, what+", twice", log, log, impl.ErrBad)
		checkNotPicked(t, what+", onto itself", log, log, picking{0, 1, 3}, impl.ErrBad)
	}
	for what, log := range wrong {
		for other, more := range wrong {
			if len(log) < 100 && len(more) < 100 {
				checkNotParted(t, what+" and "+other, log, more, impl.ErrBad)
			}
		}
	}
	// A list whose At nobody put is no fault of a log: it is not asked for here.
	loose := diary(3, 9, takes(3, stamp(1, 7)))
	checkParted(t, "a wrong list", loose, s, parted{base: vector(), left: loose, right: s, merged: logOf(loose, s)})
	checkPicked(t, "onto a wrong list", s, loose, picking{0, 1, 4}, nextDeed(loose, 4, writes(1, "a", "one")))
}

// Which of the codes is answered where several would do: ErrBad, ErrFork, ErrKind, ErrMany.
func TestP13OrderOfCodes(t *testing.T) {
	base := diary(2, 1, counts(100, 1), counts(100, 2))
	fork := diary(2, 1, counts(100, 1), counts(100, 3))
	kind := func(log []impl.Op) []impl.Op { return logOf(log, diary(0, 1, writes(90, "k", "v"))) }
	other := func(log []impl.Op) []impl.Op { return logOf(log, diary(15, 1, counts(90, 1))) }
	many := func(log []impl.Op, actor int) []impl.Op { return logOf(log, diary(actor, 1, ones(600)...)) }
	bad := func(log []impl.Op) []impl.Op { return logOf(log, diary(9, 1, counts(101, 1))) }
	for i, c := range []struct {
		a, b  []impl.Op
		apart int
		merge int
	}{
		{base, base, impl.OK, impl.OK},
		{many(base, 5), base, impl.OK, impl.OK},
		{many(base, 5), many(base, 6), impl.OK, impl.ErrMany},
		{kind(base), other(base), impl.OK, impl.ErrKind},
		{kind(base), base, impl.OK, impl.OK},
		{many(kind(base), 5), many(other(base), 6), impl.OK, impl.ErrKind},
		{many(kind(base), 1), many(other(base), 14), impl.OK, impl.ErrKind},
		{base, fork, impl.ErrFork, impl.ErrFork},
		{kind(base), other(fork), impl.ErrFork, impl.ErrFork},
		{many(base, 5), many(fork, 6), impl.ErrFork, impl.ErrFork},
		{many(base, 0), many(fork, 1), impl.ErrFork, impl.ErrFork},
		{many(kind(base), 5), many(other(fork), 6), impl.ErrFork, impl.ErrFork},
		{bad(base), base, impl.ErrBad, impl.ErrBad},
		{bad(base), fork, impl.ErrBad, impl.ErrBad},
		{bad(kind(base)), other(base), impl.ErrBad, impl.ErrBad},
		{bad(kind(base)), other(fork), impl.ErrBad, impl.ErrBad},
		{bad(many(base, 5)), many(base, 6), impl.ErrBad, impl.ErrBad},
		{bad(many(kind(base), 5)), many(other(fork), 6), impl.ErrBad, impl.ErrBad},
		{bad(base), bad(fork), impl.ErrBad, impl.ErrBad},
	} {
		what := fmt.Sprint("faults ", i)
		if c.apart != impl.OK {
			checkNotParted(t, what, c.a, c.b, c.apart)
		} else if c.merge != impl.OK {
			checkNotMerged(t, what, c.a, c.b, c.merge)
		}
		wantCode(t, what, checkBranches(t, what, c.a, c.b), c.merge)
	}
}

// The codes of BranchPick: ErrBad, ErrRange, ErrMissing, ErrKind, ErrCause, ErrMany. Each fault, alone and with all
// those that come later.
func TestP13OrderOfPickCodes(t *testing.T) {
	// In from, 1 of actor 9 has all faults, 2 lacks the wrong kind, 3 has none of its own.
	from := diary(9, 500, types(7, 'x', stamp(1, 3)), types(8, 'x', stamp(1, 3)), counts(9, 1))
	plain, late := diary(2, 1, counts(7, 1), counts(9, 1)), diary(2, impl.MaxTime-1, counts(7, 1), counts(9, 1))
	full := diary(2, 1, append(slices.Repeat([]impl.Op{counts(9, 1)}, impl.MaxLog-1), counts(7, 1))...)
	bad := diary(2, 1, counts(7, 1), counts(101, 1))
	for _, onto := range [][]impl.Op{plain, late, full} {
		for seq, want := range map[int]int{0: impl.ErrMissing, 1: impl.ErrKind, 2: impl.ErrCause, 3: impl.ErrMany, 4: impl.ErrMissing} {
			if want == impl.ErrMany && len(onto) == len(plain) && onto[0].Time == 1 {
				wantCode(t, "no fault", checkPicking(t, "no fault", from, onto, picking{9, seq, 1}), impl.OK)
				continue
			}
			checkNotPicked(t, fmt.Sprint("operation ", seq), from, onto, picking{9, seq, 1}, want)
			for _, by := range noActors() {
				checkNotPicked(t, fmt.Sprint("operation ", seq, " by nobody"), from, onto, picking{9, seq, by}, impl.ErrRange)
				checkNotPicked(t, fmt.Sprint("operation ", seq, " by nobody, onto no log"), from, bad, picking{9, seq, by}, impl.ErrBad)
				checkNotPicked(t, fmt.Sprint("operation ", seq, " by nobody, of no log"), bad, onto, picking{9, seq, by}, impl.ErrBad)
			}
			checkNotPicked(t, fmt.Sprint("operation ", seq, " of no log"), bad, onto, picking{9, seq, 1}, impl.ErrBad)
			checkNotPicked(t, fmt.Sprint("operation ", seq, " onto no log"), from, bad, picking{9, seq, 1}, impl.ErrBad)
			checkNotPicked(t, "of actor 16", from, onto, picking{16, seq, 1}, impl.ErrMissing)
			checkNotPicked(t, "of actor -1", from, onto, picking{-1, seq, 1}, impl.ErrMissing)
		}
	}
	// By each actor that is one, and by those beside.
	for by, want := range map[int]int{-1: impl.ErrRange, 0: impl.OK, 1: impl.OK, 14: impl.OK, 15: impl.OK, 16: impl.ErrRange} {
		wantCode(t, fmt.Sprint("by ", by), checkPicking(t, "by", from, plain, picking{9, 3, by}), want)
	}
}

// A full log has no room, one of one less has.
func TestP13PickedOntoFullLogs(t *testing.T) {
	from := diary(15, 500, counts(100, 1), writes(1, "k", "v"), types(40, 'x', start()), counts(77, 1), types(40, 'x', stamp(2, 7)), types(41, 'x', stamp(2, 7)), counts(3, 1))
	codes := []int{impl.OK, impl.OK, impl.OK, impl.OK, impl.OK, impl.ErrCause, impl.ErrKind}
	for _, size := range []int{impl.MaxLog, impl.MaxLog - 1, impl.MaxLog - 2} {
		onto := fullLog(size)
		for i, code := range codes {
			for _, by := range []int{0, 7, 15} {
				what := fmt.Sprint("operation ", i+1, " onto ", size)
				if code == impl.OK && size < impl.MaxLog {
					checkPickedOnce(t, what, from, onto, picking{15, i + 1, by}, nextDeed(onto, by, from[i]))
					continue
				}
				checkNotPicked(t, what, from, onto, picking{15, i + 1, by}, cmp.Or(code, impl.ErrMany))
			}
		}
	}
	// From may be full.
	full := fullLog(impl.MaxLog)
	for _, op := range []impl.Op{full[0], full[500], full[impl.MaxLog-1]} {
		checkPicking(t, "of a full log", full, nil, picking{op.Actor, op.Seq, 15})
	}
	// One behind the other, until there is no room.
	onto := fullLog(impl.MaxLog - 3)
	for i := range 3 {
		op, code := impl.BranchPick(from, 15, 1+i, onto, 15)
		wantCode(t, "filled on the way", code, impl.OK)
		onto = mergedLog(t, onto, []impl.Op{op})
	}
	checkNotPicked(t, "filled", from, onto, picking{15, 4, 15}, impl.ErrMany)
}

// smallLogs are all logs that some operations of two actors are, among them twins and wrong kinds.
func smallLogs() [][]impl.Op {
	return logsAmong([]impl.Op{
		opIns(by(0, 1, 1), 3, 'a', start()), opIns(by(0, 1, 1), 3, 'b', start()), opAdd(by(0, 1, 1), 5, 1),
		opDel(by(0, 2, 4), 3, stamp(1, 0)), opDel(by(0, 2, 4, 0, 1), 3, stamp(1, 0)), opIns(by(0, 3, 5), 3, 'c', stamp(2, 1)),
		opIns(by(1, 1, 2), 3, 'd', stamp(1, 0)), opSet(by(1, 1, 2), 3, "k", "v"), opWith(opSet(by(1, 2, 3), 1, "k", ""), func(op *impl.Op) { op.Undo = 1 }),
	})
}

// Each small log with each, and all that can be picked of the one onto the other.
func TestP13EverySmallPair(t *testing.T) {
	codes, picks := map[int]int{}, map[int]int{}
	logs := smallLogs()
	for _, a := range logs {
		for _, b := range logs {
			codes[checkOneWay(t, "small", a, b)]++
			for actor := range 3 {
				for seq := range 5 {
					for _, by := range []int{0, 1, 15} {
						picks[checkPicking(t, "small", a, b, picking{actor, seq, by})]++
					}
				}
			}
		}
	}
	for code, least := range map[int]int{impl.OK: 100, impl.ErrFork: 100, impl.ErrKind: 30} {
		if codes[code] < least {
			t.Errorf("merges: code %d came %d times", code, codes[code])
		}
	}
	for code, least := range map[int]int{impl.OK: 100, impl.ErrMissing: 100, impl.ErrKind: 100, impl.ErrCause: 100} {
		if picks[code] < least {
			t.Errorf("picks: code %d came %d times", code, picks[code])
		}
	}
}

// Logs at random that went apart from one: by what came later, by what was changed, and by objects of another kind.
func TestP13AnyBranches(t *testing.T) {
	random := rand.New(rand.NewSource(111))
	codes, picks := map[int]int{}, map[int]int{}
	for range 1500 {
		whole := anyStory(random, 14)
		a, b := anyCut(random, whole), anyCut(random, whole)
		switch random.Intn(5) {
		case 0, 1:
			b = anyChanged(random, b)
		case 2:
			b = anyBeside(random, b)
		case 3:
			b = anyBeside(random, b[:0])
		}
		codes[checkBranches(t, "any", a, b)]++
		for range 8 {
			p := picking{[]int{0, 6, 15, 3}[random.Intn(4)], 1 + random.Intn(4), random.Intn(16)}
			picks[checkPicking(t, "any", a, b, p)]++
		}
	}
	if codes[impl.OK] < 300 || codes[impl.ErrFork] < 100 || codes[impl.ErrKind] < 50 {
		t.Errorf("codes %v", codes)
	}
	if picks[impl.OK] < 1000 || picks[impl.ErrCause] < 200 || picks[impl.ErrMissing] < 300 || picks[impl.ErrKind] < 100 {
		t.Errorf("codes of picks %v", picks)
	}
}

// anyChanged gives a log with one operation exchanged for another one of its Actor and Seq, if that is a log.
func anyChanged(random *rand.Rand, log []impl.Op) []impl.Op {
	if len(log) == 0 {
		return log
	}
	i := random.Intn(len(log))
	fields := []string{"Time", "Deps", "Obj", "Undo", "Key", "Text", "N", "At", "Kind", "both"}
	twin, ok := twins(log[i])[fields[random.Intn(len(fields))]]
	changed := logWith(log, i, func(op *impl.Op) { *op = twin })
	if !ok || !validLog(changed) {
		return log
	}
	return changed
}

// anyBeside gives a log with what another actor did to one of the objects that the story has, if that is a log.
func anyBeside(random *rand.Rand, log []impl.Op) []impl.Op {
	obj := []int{1, 3, 4, 9, 10, 100}[random.Intn(6)]
	with := logOf(log, diary(3, 5, []impl.Op{writes(obj, "k", "v"), types(obj, 'x', start()), counts(obj, 1)}[random.Intn(3)]))
	if !validLog(with) {
		return log
	}
	return with
}

// anyCut gives a log of some of a log's operations: of each actor a beginning, less where that counts what is not there.
func anyCut(random *rand.Rand, log []impl.Op) []impl.Op {
	v := vector()
	for actor := range 16 {
		v.Counts[actor] = random.Intn(seqsOf(log, actor) + 1)
		if random.Intn(3) == 0 {
			v.Counts[actor] = seqsOf(log, actor)
		}
	}
again:
	for _, op := range log {
		if op.Seq <= v.Counts[op.Actor] && !notAbove(op.Deps, v) {
			v.Counts[op.Actor] = op.Seq - 1
			goto again
		}
	}
	return slices.DeleteFunc(slices.Clone(log), func(op impl.Op) bool { return op.Seq > v.Counts[op.Actor] })
}
