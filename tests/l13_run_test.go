package tests

import (
	"fmt"
	"math"
	"slices"
	"testing"

	"loop.example/g00028/impl"
)

// sizeOfRecords is how many bytes the records of operations have.
func sizeOfRecords(ops ...impl.Op) int { return len(recordsOf(ops...)) }

// A run whose answers were worked out by hand: the records have 24, 30, 30 and 29 bytes.
func TestP15RunWrittenDown(t *testing.T) {
	s := story()
	fork := opWith(s[0], func(op *impl.Op) { op.Text = "x" })
	checkObs(t, "by hand", runOf(
		asked(), s[1], s[0], s[0], fork, synced(), s[1], asked(), s[2], started(),
		crashed(30+29), asked(), started(), asked(), s[3], s[2], s[3], synced(), asked(), crashed(0), crashed(0), started(), asked(),
	), []impl.StoreObs{
		{}, {Code: impl.ErrCause}, {Ops: 1, Bytes: 24}, {Ops: 1, Bytes: 24}, {Code: impl.ErrFork, Ops: 1, Bytes: 24}, {Ops: 1, Bytes: 24, Synced: 24},
		{Ops: 2, Bytes: 54, Synced: 24}, {Ops: 2, Bytes: 54, Synced: 24, Text: "map 1 a=one\nlist 3 x\n"}, {Ops: 3, Bytes: 84, Synced: 24}, {Code: impl.ErrBad, Ops: 3, Bytes: 84, Synced: 24},
		{}, {Code: impl.ErrDown}, {Ops: 2, Bytes: 54, Synced: 54}, {Ops: 2, Bytes: 54, Synced: 54, Text: "map 1 a=one\nlist 3 x\n"}, {Code: impl.ErrCause, Ops: 2, Bytes: 54, Synced: 54},
		{Ops: 3, Bytes: 84, Synced: 54}, {Ops: 4, Bytes: 113, Synced: 54}, {Ops: 4, Bytes: 113, Synced: 113}, {Ops: 4, Bytes: 113, Synced: 113, Text: "map 1 a=one\nlist 3 xy\ncount 5 4\n"},
		{}, {Code: impl.ErrDown}, {Ops: 4, Bytes: 113, Synced: 113}, {Ops: 4, Bytes: 113, Synced: 113, Text: "map 1 a=one\nlist 3 xy\ncount 5 4\n"},
	}, impl.OK)
	checkRun(t, "the whole story", s, asked(), synced(), crashed(0), started(), asked())
	if size := sizeOfRecords(s[:4]...); size != 113 {
		t.Errorf("the records have %d bytes", size)
	}
}

func TestP15LengthsOfRuns(t *testing.T) {
	for _, run := range [][]impl.StoreOp{nil, {}} {
		checkObs(t, "nothing", run, nil, impl.OK)
	}
	for _, size := range []int{1, 2, impl.MaxStore - 1, impl.MaxStore} {
		for _, op := range []impl.StoreOp{{}, synced(), asked(), crashed(0), started(), written(story()[0]), {Kind: 9, N: 9}} {
			if told := checkRun(t, fmt.Sprint(size, " alike"), slices.Repeat([]impl.StoreOp{op}, size)); len(told) != size {
				t.Errorf("%d told of %d", len(told), size)
			}
		}
	}
	for _, size := range []int{impl.MaxStore + 1, impl.MaxStore + 2, 1024, impl.MaxList, impl.MaxList + 1} {
		for _, op := range []impl.StoreOp{{}, synced(), crashed(0), written(story()[0])} {
			checkObs(t, fmt.Sprint(size, " are too many"), slices.Repeat([]impl.StoreOp{op}, size), nil, impl.ErrMany)
		}
	}
	checkObs(t, "very many", make([]impl.StoreOp, 1<<20), nil, impl.ErrMany)
	// As many operations as a run can write, and one more.
	log := fullLog(impl.MaxStore + 1)
	slices.SortFunc(log, func(a, b impl.Op) int { return a.Time - b.Time })
	told, code := impl.StoreRun(allWritten(log[:impl.MaxStore]))
	if want := (impl.StoreObs{Ops: impl.MaxStore, Bytes: sizeOfRecords(log[:impl.MaxStore]...)}); code != impl.OK || told[impl.MaxStore-1] != want {
		t.Errorf("%+v, code %d, want %+v", told[impl.MaxStore-1], code, want)
	}
	checkObs(t, "one more to write", allWritten(log), nil, impl.ErrMany)
}

// otherKinds are numbers of no Kind.
func otherKinds() []int {
	return []int{0, 6, -1, 7, 9, 16, 257, -5, 1<<32 + 1, 1<<32 + 5, math.MinInt, math.MaxInt}
}

// Each Kind while it is on, upon nothing and upon something, synced or not.
func TestP15KindsWhileOn(t *testing.T) {
	s := story()
	one := sizeOfRecords(s[0])
	two := sizeOfRecords(s[:2]...)
	for _, ahead := range []struct {
		what string
		run  []impl.StoreOp
		told impl.StoreObs
		text string
	}{
		{"upon nothing", nil, impl.StoreObs{}, ""},
		{"upon one", runOf(s[0]), impl.StoreObs{Ops: 1, Bytes: one}, "map 1 a=one\n"},
		{"upon one that is synced", runOf(s[0], synced()), impl.StoreObs{Ops: 1, Bytes: one, Synced: one}, "map 1 a=one\n"},
		{"upon two, one synced", runOf(s[0], synced(), s[1]), impl.StoreObs{Ops: 2, Bytes: two, Synced: one}, "map 1 a=one\nlist 3 x\n"},
		{"behind a start", runOf(s[:2], crashed(99), started()), impl.StoreObs{Ops: 2, Bytes: two, Synced: two}, "map 1 a=one\nlist 3 x\n"},
	} {
		with := func(change func(told *impl.StoreObs)) impl.StoreObs {
			told := ahead.told
			change(&told)
			return told
		}
		other := opAdd(by(9, 1, 1), 50, 1)
		checkLast(t, ahead.what+", SWrite", with(func(told *impl.StoreObs) { told.Ops++; told.Bytes += sizeOfRecords(other) }), ahead.run, other)
		checkLast(t, ahead.what+", SSync", with(func(told *impl.StoreObs) { told.Synced = told.Bytes }), ahead.run, synced())
		checkLast(t, ahead.what+", SSync twice", with(func(told *impl.StoreObs) { told.Synced = told.Bytes }), ahead.run, synced(), synced())
		checkLast(t, ahead.what+", SText", with(func(told *impl.StoreObs) { told.Text = ahead.text }), ahead.run, asked())
		checkLast(t, ahead.what+", SCrash", impl.StoreObs{}, ahead.run, crashed(7))
		checkLast(t, ahead.what+", SStart", with(func(told *impl.StoreObs) { told.Code = impl.ErrBad }), ahead.run, started())
		checkLast(t, ahead.what+", SStart, and on", with(func(told *impl.StoreObs) { told.Text = ahead.text }), ahead.run, started(), started(), asked())
		for _, kind := range otherKinds() {
			checkLast(t, fmt.Sprint(ahead.what, ", Kind ", kind), with(func(told *impl.StoreObs) { told.Code = impl.ErrBad }), ahead.run, impl.StoreOp{Kind: kind, N: 1, Op: other})
			checkLast(t, fmt.Sprint(ahead.what, ", Kind ", kind, ", and on"), with(func(told *impl.StoreObs) { told.Text = ahead.text }), ahead.run, impl.StoreOp{Kind: kind, N: 1, Op: other}, asked())
		}
	}
}

// Each Kind while it is off: nothing is told and nothing is done, but by SStart.
func TestP15KindsWhileOff(t *testing.T) {
	s := story()
	two := sizeOfRecords(s[:2]...)
	for _, ahead := range [][]impl.StoreOp{runOf(s[:2], synced(), crashed(0)), runOf(s[:2], crashed(two)), runOf(s[:2], synced(), s[2], crashed(3), written(s[3]))} {
		fork := opWith(s[0], func(op *impl.Op) { op.Text = "x" })
		down := []impl.StoreOp{written(s[2]), written(s[0]), written(fork), written(impl.Op{}), synced(), asked(), crashed(0), crashed(-1), crashed(math.MaxInt)}
		for _, kind := range otherKinds() {
			down = append(down, impl.StoreOp{Kind: kind}, impl.StoreOp{Kind: kind, N: 1, Op: s[2]})
		}
		for _, op := range down {
			what := fmt.Sprint("Kind ", op.Kind, ", N ", op.N)
			checkLast(t, what, impl.StoreObs{Code: impl.ErrDown}, ahead, op)
			checkLast(t, what+" twice", impl.StoreObs{Code: impl.ErrDown}, ahead, op, op)
			checkLast(t, what+", and on", impl.StoreObs{Ops: 2, Bytes: two, Synced: two}, ahead, op, started())
			checkLast(t, what+", and told", impl.StoreObs{Ops: 2, Bytes: two, Synced: two, Text: "map 1 a=one\nlist 3 x\n"}, ahead, op, started(), asked())
		}
		checkLast(t, "all of them", impl.StoreObs{Ops: 2, Bytes: two, Synced: two}, ahead, down, started())
		checkLast(t, "SStart", impl.StoreObs{Ops: 2, Bytes: two, Synced: two}, ahead, started())
		checkLast(t, "SStart twice", impl.StoreObs{Code: impl.ErrBad, Ops: 2, Bytes: two, Synced: two}, ahead, started(), started())
	}
	checkLast(t, "off at once", impl.StoreObs{Code: impl.ErrDown}, crashed(0), written(s[0]))
	checkLast(t, "off at once, and on", impl.StoreObs{}, crashed(0), written(s[0]), started())
	checkLast(t, "off at once, and told", impl.StoreObs{}, crashed(5), synced(), started(), asked())
}

// N and Op of a Kind that does not name them do not matter, whatever they are.
func TestP15FieldsThatDoNotMatter(t *testing.T) {
	s := story()
	run := runOf(s[:2], synced(), asked(), s[2], started(), asked(), crashed(5), asked(), started(), asked(), s[2], synced(), asked())
	want, code := impl.StoreRun(run)
	wantCode(t, "a run", code, impl.OK)
	for _, n := range []int{1, -1, 3, math.MinInt, math.MaxInt} {
		for _, op := range []impl.Op{{}, s[3], s[0], opWith(s[0], func(op *impl.Op) { op.Text = "x" }), {Deps: impl.Vector{Counts: make([]int, 99)}, Key: letters(9999)}} {
			other := slices.Clone(run)
			for i := range other {
				if other[i].Kind != impl.SCrash {
					other[i].N = n
				}
				if other[i].Kind != impl.SWrite {
					other[i].Op = op
				}
			}
			checkObs(t, fmt.Sprint("N ", n), other, want, impl.OK)
		}
	}
}

// Text is told of SText alone, and of that only without a code.
func TestP15TextOfSTextAlone(t *testing.T) {
	s := story()
	loose := opDel(by(9, 1, 50), 3, stamp(40, 8))
	for _, run := range [][]impl.StoreOp{runOf(s, asked(), synced(), started(), asked(), crashed(9), started(), asked()), runOf(s, loose, asked(), synced(), asked(), crashed(9), started(), asked())} {
		told, _ := impl.StoreRun(run)
		for i, obs := range told {
			if (obs.Text != "") != (run[i].Kind == impl.SText && obs.Code == impl.OK) {
				t.Errorf("Kind %d, code %d: %q", run[i].Kind, obs.Code, obs.Text)
			}
		}
	}
	checkLast(t, "of nothing", impl.StoreObs{}, asked())
	checkLast(t, "of several things", impl.StoreObs{Ops: 7, Bytes: sizeOfRecords(s...), Text: "map 1 b=two\nlist 3 y\ncount 5 4\n"}, s, asked())
	checkLast(t, "of empty things", impl.StoreObs{Ops: 1, Bytes: sizeOfRecords(by9()), Text: "map 1\n"}, by9(), asked())
	// A list that stands upon what nobody put has a code, and all is told beside it but the text.
	all := slices.Concat(s, []impl.Op{loose})
	checkLast(t, "of a wrong list", impl.StoreObs{Code: impl.ErrCause, Ops: 8, Bytes: sizeOfRecords(all...)}, all, asked())
	checkLast(t, "of a wrong list, synced", impl.StoreObs{Code: impl.ErrCause, Ops: 8, Bytes: sizeOfRecords(all...), Synced: sizeOfRecords(all...)}, all, synced(), asked())
	checkLast(t, "of a wrong list that was lost", impl.StoreObs{Ops: 7, Bytes: sizeOfRecords(s...), Synced: sizeOfRecords(s...), Text: "map 1 b=two\nlist 3 y\ncount 5 4\n"}, s, synced(), loose, crashed(5), started(), asked())
	checkLast(t, "of a wrong list that came back", impl.StoreObs{Code: impl.ErrCause, Ops: 8, Bytes: sizeOfRecords(all...), Synced: sizeOfRecords(all...)}, all, crashed(9999), started(), asked())
}

// by9 sets a Key to nothing.
func by9() impl.Op { return opSet(by(9, 1, 1), 1, "k", "") }

// The text is what DocText tells of the log, of all logs that there are.
func TestP15TextIsDocText(t *testing.T) {
	for name, log := range edgeLogs() {
		ops := slices.Clone(log)
		slices.SortStableFunc(ops, func(a, b impl.Op) int { return a.Time - b.Time })
		text, code := impl.DocText(log)
		checkLast(t, name, impl.StoreObs{Code: code, Ops: len(log), Bytes: sizeOfRecords(log...), Text: text}, ops, asked())
	}
	for size := range len(story()) + 1 {
		text, code := impl.DocText(inOrder(story()[:size]))
		checkLast(t, fmt.Sprint("the first ", size), impl.StoreObs{Code: code, Ops: size, Bytes: sizeOfRecords(story()[:size]...), Text: text}, story()[:size], asked())
	}
}
