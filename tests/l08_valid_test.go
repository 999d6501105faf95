package tests

import (
	"fmt"
	"math"
	"slices"
	"strings"
	"testing"

	"loop.example/g00028/impl"
)

// checkLog asks whether a log is valid of all that takes one.
func checkLog(t *testing.T, what string, log []impl.Op, valid bool) {
	t.Helper()
	want := impl.ErrBad
	if valid {
		want = impl.OK
	}
	if impl.LogOK(log) != valid {
		t.Errorf("%s: LogOK is %v: %s", what, !valid, brief(log))
	}
	v, code := impl.LogVector(log)
	wantCode(t, what+": LogVector", code, want)
	since, code := impl.LogSince(log, vector())
	wantCode(t, what+": LogSince", code, want)
	b, code := impl.LogBytes(log)
	wantCode(t, what+": LogBytes", code, want)
	added, waits, code := impl.LogAdd(log, nil)
	wantCode(t, what+": LogAdd", code, want)
	if !valid && len(v.Counts)+len(since)+len(b)+len(added)+len(waits) > 0 {
		t.Errorf("%s: told beside a code: %v, %s, %v, %s, %s", what, v, brief(since), b, brief(added), brief(waits))
	}
	if valid {
		checkSameLog(t, what, log, since, added, b)
	}
}

// checkSameLog asks that what was told of a valid log is the log.
func checkSameLog(t *testing.T, what string, log, since, added []impl.Op, b []byte) {
	t.Helper()
	back, code := impl.ReadLog(b)
	wantCode(t, what+": ReadLog", code, impl.OK)
	if !sameLog(since, log) || !sameLog(added, log) || !sameLog(back, log) {
		t.Errorf("%s: %s came as %s, %s, %s", what, brief(log), brief(since), brief(added), brief(back))
	}
}

// checkOp asks whether an operation is valid by itself: added to nothing, it comes in or waits.
func checkOp(t *testing.T, what string, op impl.Op, valid bool) {
	t.Helper()
	if validDeed(op) != valid {
		t.Fatalf("%s: the test is at odds with itself: %s", what, brief(op))
	}
	if !valid {
		checkNotAdded(t, what, nil, []impl.Op{op}, impl.ErrBad)
		checkNotAdded(t, what+", behind others", inOrder(story()), []impl.Op{story()[0], op}, impl.ErrBad)
		checkLog(t, what, []impl.Op{op}, false)
		return
	}
	checkAdd(t, nil, []impl.Op{op})
	checkLog(t, what, []impl.Op{op}, op.Seq == 1 && !slices.ContainsFunc(op.Deps.Counts, func(n int) bool { return n > 0 }))
}

// eachKind has a good operation of every kind: the fifth of actor 2, who knows something of the actors 0 and 15.
func eachKind() map[string]impl.Op {
	base := by(2, 5, 50, 3, 0, 0, 0, 0, 0, 0, 0, 0, 0, 0, 0, 0, 0, 0, 1)
	return map[string]impl.Op{
		"OSet": opSet(base, 7, "key", "text"), "OIns": opIns(base, 7, 'x', stamp(9, 3)),
		"ODel": opDel(base, 7, stamp(9, 3)), "OAdd": opAdd(base, 7, 3),
	}
}

// eachFirst has the first operation of an actor that knows nothing, of every kind.
func eachFirst() map[string]impl.Op {
	list := eachKind()
	for name, op := range list {
		list[name] = opWith(op, func(op *impl.Op) { op.Seq, op.Deps = 1, vector() })
	}
	return list
}

func TestP10KindsOfOperations(t *testing.T) {
	for name, op := range eachKind() {
		checkOp(t, name, op, true)
	}
	for name, op := range eachFirst() {
		checkOp(t, "first "+name, op, true)
		for _, kind := range []int{math.MinInt, -1, 0, 5, 6, 256 + impl.OSet, math.MaxInt} {
			checkOp(t, fmt.Sprint(name, " of Kind ", kind), opWith(op, func(op *impl.Op) { op.Kind = kind }), false)
		}
	}
	checkOp(t, "nothing at all", impl.Op{}, false)
	checkOp(t, "nothing said", by(0, 1, 1), false)
	// What is named may be nothing, but an ODel's At.
	base := by(2, 1, 50)
	checkOp(t, "OSet of nothing", opSet(base, 1, "", ""), true)
	checkOp(t, "OSet to nothing", opSet(base, 1, "a", ""), true)
	checkOp(t, "OSet of no Key", opSet(base, 1, "", "a"), true)
	checkOp(t, "OIns of 0 at the beginning", opIns(base, 1, 0, start()), true)
	checkOp(t, "ODel without At", opDel(base, 1, start()), false)
	checkOp(t, "OAdd of 0", opAdd(base, 1, 0), true)
}

// What a Kind does not name is nothing.
func TestP10FieldsNotNamed(t *testing.T) {
	for field, change := range map[string]func(op *impl.Op){
		"Key":           func(op *impl.Op) { op.Key = "k" },
		"Key of a 0":    func(op *impl.Op) { op.Key = "\x00" },
		"Text":          func(op *impl.Op) { op.Text = "t" },
		"Text of a 0":   func(op *impl.Op) { op.Text = "\x00" },
		"N":             func(op *impl.Op) { op.N = 'x' },
		"N 1":           func(op *impl.Op) { op.N = 1 },
		"N below":       func(op *impl.Op) { op.N = -1 },
		"At":            func(op *impl.Op) { op.At = stamp(8, 8) },
		"At of actor 0": func(op *impl.Op) { op.At = stamp(1, 0) },
	} {
		named := map[string]string{"OSet": "Key Text", "OIns": "At N", "ODel": "At", "OAdd": "N"}
		for kind, op := range eachFirst() {
			valid := strings.Contains(" "+named[kind]+" ", " "+strings.Fields(field)[0]+" ") && !(kind == "OIns" && field == "N below")
			checkOp(t, kind+" with "+field, opWith(op, change), valid)
		}
	}
	// Undo is named for all.
	for kind, op := range eachKind() {
		checkOp(t, kind+" that undoes", opWith(op, func(op *impl.Op) { op.Undo = 3 }), true)
	}
}

func TestP10StampsOfOperations(t *testing.T) {
	for kind, op := range eachFirst() {
		for _, s := range notStamps() {
			checkOp(t, fmt.Sprint(kind, " at ", s), opWith(op, func(op *impl.Op) {
				op.Time, op.Actor = s.Time, s.Actor
				if goodActor(s.Actor) && op.At != start() {
					op.At = stamp(1, 0)
				}
			}), false)
		}
		for _, time := range anyTimes() {
			for _, actor := range anyActors() {
				op := opWith(op, func(op *impl.Op) { op.Time, op.Actor, op.At = time, actor, start() })
				checkOp(t, fmt.Sprint(kind, " at ", time, actor), op, goodTime(time) && goodActor(actor) && kind != "ODel")
			}
		}
	}
}

func TestP10SeqAndDeps(t *testing.T) {
	for kind, op := range eachKind() {
		for _, seq := range []int{math.MinInt, -impl.MaxTime, -1, 0, 1, 2, 5, impl.MaxTime - 1, impl.MaxTime, impl.MaxTime + 1, math.MaxInt} {
			for _, off := range []int{-2, -1, 0, 1} {
				op := opWith(op, func(op *impl.Op) { op.Seq, op.Deps.Counts[op.Actor] = seq, seq+off })
				checkOp(t, fmt.Sprint(kind, " of Seq ", seq, " with ", seq+off), op, off == -1 && seq >= 1 && seq <= impl.MaxTime)
			}
		}
		for _, v := range wrongVectors() {
			deps := impl.Vector{Counts: slices.Clone(v.Counts)}
			if len(deps.Counts) > op.Actor && deps.Counts[op.Actor] == 0 {
				deps.Counts[op.Actor] = op.Seq - 1
			}
			checkOp(t, fmt.Sprintf("%s with %.80s", kind, fmt.Sprint(deps)), opWith(op, func(op *impl.Op) { op.Deps = deps }), false)
		}
		// What it knew of others can be any number.
		for other := range 16 {
			for _, n := range []int{0, 1, impl.MaxTime} {
				if other != op.Actor {
					checkOp(t, fmt.Sprint(kind, " knowing ", n, " of ", other), opWith(op, func(op *impl.Op) { op.Deps.Counts[other] = n }), true)
				}
			}
		}
	}
}

func TestP10NumbersOfOperations(t *testing.T) {
	for kind, op := range eachKind() {
		for _, obj := range []int{math.MinInt, -1, 0, 1, 2, 99, 100, 101, 257, math.MaxInt} {
			checkOp(t, fmt.Sprint(kind, " of ", obj), opWith(op, func(op *impl.Op) { op.Obj = obj }), obj >= 1 && obj <= 100)
		}
		for _, undo := range []int{math.MinInt, -1, 0, 1, 3, 4, 5, 6, math.MaxInt} {
			checkOp(t, fmt.Sprint(kind, " undoing ", undo), opWith(op, func(op *impl.Op) { op.Undo = undo }), undo >= 0 && undo <= 4)
		}
	}
	for kind, op := range eachFirst() {
		for _, undo := range []int{-1, 0, 1} {
			checkOp(t, fmt.Sprint("first ", kind, " undoing ", undo), opWith(op, func(op *impl.Op) { op.Undo = undo }), undo == 0)
		}
		for _, n := range []int{math.MinInt, -impl.MaxTime - 1, -impl.MaxTime, -1, impl.MaxTime, impl.MaxTime + 1, math.MaxInt} {
			far := n < -impl.MaxTime || n > impl.MaxTime
			checkOp(t, fmt.Sprint(kind, " of N ", n), opWith(op, func(op *impl.Op) { op.N = n }), kind == "OAdd" && !far)
		}
	}
	for _, char := range []int{-impl.MaxTime, -1, 0, 1, 'x', 55295, 55296, 57343, 57344, 65535, 65536, 1114111, 1114112, 1 << 32, 1<<32 + 'x', impl.MaxTime} {
		character := char >= 0 && char <= 1114111 && (char < 55296 || char > 57343)
		checkOp(t, fmt.Sprint("OIns of ", char), opIns(by(2, 1, 50), 1, char, start()), character)
	}
}

func TestP10TextsOfOperations(t *testing.T) {
	base := by(2, 1, 50)
	for _, size := range []int{0, 1, 199, 200, 201, 202, 5000} {
		checkOp(t, fmt.Sprint("Key of ", size), opSet(base, 1, letters(size), "t"), size <= 200)
		checkOp(t, fmt.Sprint("Text of ", size), opSet(base, 1, "k", letters(size)), size <= 200)
		checkOp(t, fmt.Sprint("both of ", size), opSet(base, 1, letters(size), letters(size)), size <= 200)
	}
	// Bytes are counted, not characters, and any bytes will do.
	checkOp(t, "100 characters", opSet(base, 1, strings.Repeat("é", 100), strings.Repeat("é", 100)), true)
	checkOp(t, "101 characters", opSet(base, 1, strings.Repeat("é", 101), ""), false)
	checkOp(t, "101 characters", opSet(base, 1, "", strings.Repeat("é", 101)), false)
	checkOp(t, "no characters", opSet(base, 1, "\xff\x00=\n", strings.Repeat("\x80", 200)), true)
}

func TestP10AtOfOperations(t *testing.T) {
	for kind, op := range map[string]impl.Op{"OIns": opIns(by(2, 1, 50), 7, 'x', start()), "ODel": opDel(by(2, 1, 50), 7, stamp(1, 1))} {
		for _, at := range []impl.Stamp{
			stamp(1, 0), stamp(1, 2), stamp(1, 15), stamp(49, 0), stamp(49, 2), stamp(49, 15), stamp(50, 0), stamp(50, 1), stamp(50, 2), stamp(50, 3), stamp(50, 15),
			stamp(51, 0), stamp(51, 2), stamp(impl.MaxTime, 15),
		} {
			checkOp(t, fmt.Sprint(kind, " at ", at), opWith(op, func(op *impl.Op) { op.At = at }), at.Time < 50 || at.Time == 50 && at.Actor < 2)
		}
		for _, at := range append(notStamps(), stamp(0, 15), stamp(0, 16), stamp(49, 16), stamp(49, -1), stamp(-49, 1)) {
			checkOp(t, fmt.Sprint(kind, " at ", at), opWith(op, func(op *impl.Op) { op.At = at }), kind == "OIns" && at == start())
		}
	}
	checkOp(t, "the first stamp of all", opIns(by(0, 1, 1), 1, 'x', start()), true)
	checkOp(t, "the second of all", opIns(by(1, 1, 1), 1, 'x', stamp(1, 0)), true)
	checkOp(t, "the last of all", opIns(by(15, 1, impl.MaxTime), 1, 'x', stamp(impl.MaxTime, 14)), true)
	checkOp(t, "taken away first of all", opDel(by(0, 1, 1), 1, stamp(1, 0)), false)
}

func TestP10Logs(t *testing.T) {
	checkLog(t, "none", nil, true)
	checkLog(t, "none", []impl.Op{}, true)
	log := inOrder(story())
	checkLog(t, "story", log, true)
	if v, code := impl.LogVector(log); code != impl.OK || !sameVector(v, vector(3, 2, 0, 0, 0, 0, 0, 0, 0, 0, 0, 0, 0, 0, 0, 2)) {
		t.Errorf("LogVector: %v, code %d", v, code)
	}
	if v, code := impl.LogVector(nil); code != impl.OK || !sameVector(v, vector()) {
		t.Errorf("LogVector of none: %v, code %d", v, code)
	}
	// Every order but one is no log.
	valid := 0
	everyOrder(story(), func(ops []impl.Op) {
		if impl.LogOK(ops) {
			valid++
			checkLog(t, "ordered", ops, validLog(ops))
		}
	})
	if valid != 1 {
		t.Errorf("%d orders are valid", valid)
	}
	// Neither is what has lost or doubled one, but for the last of an actor that nobody counts.
	for i := range log {
		without := slices.Delete(slices.Clone(log), i, i+1)
		checkLog(t, fmt.Sprint("without ", i), without, log[i].Time == 5)
		checkLog(t, fmt.Sprint("twice ", i), slices.Insert(slices.Clone(log), i, log[i]), false)
	}
}

// Causes are there if the log goes on far enough, and their stamps are below.
func TestP10CausesInALog(t *testing.T) {
	first, second := opAdd(by(0, 1, 5), 1, 1), opAdd(by(0, 2, 7), 1, 1)
	for _, actor := range []int{1, 8, 15} {
		for knew := range 4 {
			for time := 4; time < 9; time++ {
				op := opAdd(by(actor, 1, time, knew), 1, 1)
				valid := knew == 0 || knew == 1 && time >= 5 || knew == 2 && time >= 7
				checkLog(t, fmt.Sprint("actor ", actor, " at ", time, " knows ", knew), []impl.Op{first, second, op}, valid)
			}
		}
	}
	// An actor that is ahead in the log can count one that stands behind it.
	later := func(time, knew int) []impl.Op {
		mine := opWith(opAdd(by(3, 1, time), 1, 1), func(op *impl.Op) { op.Deps.Counts[9] = knew })
		return []impl.Op{mine, opAdd(by(9, 1, 5), 1, 1), opAdd(by(9, 2, 7), 1, 1)}
	}
	for knew := range 4 {
		for time := 4; time < 9; time++ {
			valid := knew == 0 || knew == 1 && time >= 6 || knew == 2 && time >= 8
			checkLog(t, fmt.Sprint("at ", time, " knows behind it ", knew), later(time, knew), valid)
		}
	}
	// Stamps of one actor rise by its own count.
	for time := 1; time < 8; time++ {
		checkLog(t, fmt.Sprint("own at ", time), []impl.Op{opAdd(by(4, 1, 3), 1, 1), opAdd(by(4, 2, time), 1, 1)}, time > 3)
	}
	// Two that count each other have no stamps that fit.
	for _, times := range [][2]int{{5, 5}, {5, 6}, {6, 5}} {
		log := []impl.Op{opAdd(by(3, 1, times[0], 0, 0, 0, 0, 1), 1, 1), opAdd(by(4, 1, times[1], 0, 0, 0, 1), 1, 1)}
		checkLog(t, fmt.Sprint("in a ring at ", times), log, false)
	}
}

// What is counted only by what is counted need not be counted too, and it lies below all the same.
func TestP10CausesOfCauses(t *testing.T) {
	chained := func(times ...int) []impl.Op {
		return []impl.Op{opAdd(by(0, 1, times[0]), 1, 1), opAdd(by(1, 1, times[1], 1), 1, 1), opAdd(by(2, 1, times[2], 0, 1), 1, 1)}
	}
	checkLog(t, "a chain", chained(1, 2, 3), true)
	checkLog(t, "a chain at one time", chained(4, 4, 4), true)
	checkLog(t, "the last below the first", chained(5, 6, 4), false)
	checkLog(t, "the last at the first's time", chained(5, 6, 5), false)
	checkLog(t, "the last between", chained(4, 6, 5), false)
	checkLog(t, "without the first", chained(1, 2, 3)[1:], false)
	back := []impl.Op{opAdd(by(0, 1, 3, 0, 1), 1, 1), opAdd(by(1, 1, 2, 0, 0, 1), 1, 1), opAdd(by(2, 1, 1), 1, 1)}
	checkLog(t, "a chain from behind", back, true)
	checkLog(t, "a chain from behind at one time", logWith(back, 0, func(op *impl.Op) { op.Time = 2 }), false)
	checkLog(t, "a chain from behind, the last below", logWith(back, 0, func(op *impl.Op) { op.Time = 1 }), false)
}

func TestP10SeqsOfALog(t *testing.T) {
	one := func(actor, seq, time int) impl.Op { return opAdd(by(actor, seq, time), 1, 1) }
	for name, log := range map[string][]impl.Op{
		"a gap":                   {one(0, 1, 1), one(0, 3, 3)},
		"not from 1 on":           {one(0, 2, 2), one(0, 3, 3)},
		"one not from 1 on":       {one(0, 1, 1), one(1, 2, 2)},
		"twice the same":          {one(0, 1, 1), one(0, 1, 1)},
		"twice unlike":            {one(0, 1, 1), one(0, 1, 2)},
		"falling":                 {one(0, 2, 2), one(0, 1, 1)},
		"actors fall":             {one(1, 1, 1), one(0, 1, 2)},
		"actors by turns":         {one(0, 1, 1), one(1, 1, 2), one(0, 2, 3)},
		"actors by turns, from 1": {one(0, 1, 1), one(1, 1, 2), one(0, 1, 3)},
		"the last one again":      {one(0, 1, 1), one(0, 2, 2), one(0, 2, 2)},
		"a far one":               {one(0, impl.MaxTime, impl.MaxTime)},
	} {
		checkLog(t, name, log, false)
	}
	checkLog(t, "with actors left out", []impl.Op{one(2, 1, 1), one(2, 2, 2), one(9, 1, 1), one(15, 1, 1), one(15, 2, 9)}, true)
	checkLog(t, "of the last actor alone", []impl.Op{one(15, 1, 1), one(15, 2, 2), one(15, 3, 3)}, true)
	var all []impl.Op
	for actor := range 16 {
		all = append(all, one(actor, 1, 1), one(actor, 2, 2))
	}
	checkLog(t, "of all actors", all, true)
}

// kindsOf has an operation of each kind upon an object, by an actor.
func kindsOf(actor, obj int) []impl.Op {
	base := by(actor, 1, 50)
	return []impl.Op{opSet(base, obj, "k", "t"), opIns(base, obj, 'x', start()), opDel(base, obj, stamp(1, 1)), opAdd(base, obj, 3)}
}

func TestP10PairsOfKinds(t *testing.T) {
	for _, objs := range [][2]int{{1, 1}, {100, 100}, {1, 2}, {100, 99}, {1, 100}} {
		for i, a := range kindsOf(3, objs[0]) {
			for j, b := range kindsOf(4, objs[1]) {
				alike := i == j || i+j == 3 && i*j == 2
				valid := alike || objs[0] != objs[1]
				what := fmt.Sprint("kinds ", a.Kind, b.Kind, " of ", objs)
				checkLog(t, what, []impl.Op{a, b}, valid)
				checkLog(t, what+" with one between", []impl.Op{a, opAdd(by(3, 2, 60), 50, 1), b}, valid)
				if valid {
					checkAdded(t, what, []impl.Op{a}, []impl.Op{b}, []impl.Op{a, b}, nil)
					checkAdded(t, what, []impl.Op{b}, []impl.Op{a}, []impl.Op{a, b}, nil)
				} else {
					checkNotAdded(t, what, []impl.Op{a}, []impl.Op{b}, impl.ErrKind)
					checkNotAdded(t, what, []impl.Op{b}, []impl.Op{a}, impl.ErrKind)
					checkNotAdded(t, what, nil, []impl.Op{a, b}, impl.ErrKind)
				}
			}
		}
	}
}
