package tests

import (
	"fmt"
	"math"
	"math/rand"
	"slices"
	"testing"

	"loop.example/g00028/impl"
)

// backOf says what stands behind a start: some operations and no more, all of them synced.
func backOf(ops []impl.Op) impl.StoreObs {
	return impl.StoreObs{Ops: len(ops), Bytes: sizeOfRecords(ops...), Synced: sizeOfRecords(ops...)}
}

// toldOf says what SText answers behind that.
func toldOf(ops []impl.Op) impl.StoreObs {
	obs := backOf(ops)
	obs.Text, obs.Code = impl.DocText(inOrder(ops))
	return obs
}

// wholeWithin gives how many operations have their records whole within so many bytes.
func wholeWithin(ops []impl.Op, size int) int {
	whole := 0
	for whole < len(ops) && sizeOfRecords(ops[:whole+1]...) <= size {
		whole++
	}
	return whole
}

// Some operations are written, the first of them synced, and a crash leaves each number of bytes: behind the start the
// synced ones are there, and of the others those that stayed whole, and nothing else stands on the disk.
func TestP15EveryCrash(t *testing.T) {
	long := longDeeds()
	for i := range long {
		// Those of actor 3 as they were, and numbers, which wait for nothing, in the place of the others.
		if long[i].Actor != 3 {
			long[i] = opAdd(by(4+i, 1, 1), 5, i)
		}
	}
	for name, ops := range map[string][]impl.Op{"the story": story(), "long ones": long, "one alone": story()[:1]} {
		for kept := range len(ops) + 1 {
			rest := sizeOfRecords(ops[kept:]...)
			for n := -2; n <= rest+2; n++ {
				stay := kept + wholeWithin(ops[kept:], n)
				what := fmt.Sprint(name, ", ", kept, " synced, ", n, " bytes stay")
				checkLast(t, what, backOf(ops[:stay]), ops[:kept], synced(), ops[kept:], crashed(n), started())
				if n < 40 || n > rest-3 {
					checkLast(t, what+", told", toldOf(ops[:stay]), ops[:kept], synced(), ops[kept:], crashed(n), started(), asked())
					checkLast(t, what+", and nothing is new to sync", backOf(ops[:stay]), ops[:kept], synced(), ops[kept:], crashed(n), started(), synced())
					// What came back comes back again, whatever stays of what is not synced: there is nothing.
					checkLast(t, what+", and a crash", backOf(ops[:stay]), ops[:kept], synced(), ops[kept:], crashed(n), started(), crashed(0), started())
					checkLast(t, what+", and a crash", backOf(ops[:stay]), ops[:kept], synced(), ops[kept:], crashed(n), started(), crashed(999), started())
				}
			}
			for _, n := range []int{math.MinInt, math.MinInt + 1, -1 << 32, -sizeOfRecords(ops...), -1, 0} {
				checkLast(t, fmt.Sprint(name, ": nothing stays of what is not synced, N ", n), backOf(ops[:kept]), ops[:kept], synced(), ops[kept:], crashed(n), started())
			}
			for _, n := range []int{rest, rest + 1, 1 << 20, 1 << 32, 1<<62 - 1, math.MaxInt - 1000, math.MaxInt - sizeOfRecords(ops...), math.MaxInt} {
				checkLast(t, fmt.Sprint(name, ": all stays, N ", n), backOf(ops), ops[:kept], synced(), ops[kept:], crashed(n), started())
			}
		}
	}
}

// Writing goes on behind a start as if what was lost had never been; what was torn does not spoil it.
func TestP15WritingOnBehindAStart(t *testing.T) {
	s := story()
	for kept := range len(s) + 1 {
		for n := range sizeOfRecords(s[kept:]...) + 2 {
			stay := kept + wholeWithin(s[kept:], n)
			ahead := runOf(s[:kept], synced(), s[kept:], crashed(n), started())
			what := fmt.Sprint(kept, " synced, ", n, " bytes stay")
			all := backOf(s)
			all.Synced = sizeOfRecords(s[:stay]...)
			checkLast(t, what+", and the rest again", all, ahead, s[stay:])
			checkLast(t, what+", and all again", all, ahead, s)
			checkLast(t, what+", and the rest, synced", backOf(s), ahead, s[stay:], synced(), crashed(0), started())
			if n%7 == 0 {
				checkLast(t, what+", and the rest, torn", toldOf(s[:stay]), ahead, s[stay:], crashed(3), started(), asked())
				checkLast(t, what+", and the rest, all stays", toldOf(s), ahead, s[stay:], crashed(9999), started(), asked())
			}
		}
	}
}

// Crashes one behind the other with some writing and syncing between: each takes what was not synced since the last.
func TestP15CrashesOneBehindTheOther(t *testing.T) {
	s := story()
	var run []impl.StoreOp
	for i, op := range s {
		run = runOf(run, op)
		if i%2 == 0 {
			run = runOf(run, synced())
		}
		// An operation that is torn and one that stays, written again where it was lost.
		torn := sizeOfRecords(op) - 1
		run = runOf(run, crashed(torn), started(), asked(), op, crashed(torn+1), started(), asked())
		checkLast(t, fmt.Sprint("to ", i), toldOf(s[:i+1]), run)
	}
	for i := range s {
		// All of it again upon what is there, with a crash behind each, of which nothing is left.
		checkLast(t, fmt.Sprint("crashed at ", i), backOf(s[:i]), s[:i], synced(), s[i], crashed(0), started(), s[i], crashed(-1), started(), s[i], crashed(5), started())
		checkLast(t, fmt.Sprint("crashed behind ", i), backOf(s[:i+1]), s[:i], synced(), s[i], crashed(0), started(), s[i], synced(), crashed(-1), started())
	}
	checkLast(t, "off and on", impl.StoreObs{}, slices.Repeat(runOf(crashed(3), started()), 100))
	checkLast(t, "off and on with something", backOf(s), s, synced(), slices.Repeat(runOf(crashed(3), started()), 96))
	checkLast(t, "off twice", impl.StoreObs{Code: impl.ErrDown}, s, crashed(30), crashed(9999))
	// The second one does nothing: what the first one left stays.
	checkLast(t, "off twice, and on", backOf(s[:1]), s, crashed(30), crashed(0), started())
	checkLast(t, "off twice, and on", backOf(s[:1]), s, crashed(24), crashed(9999), started())
	checkLast(t, "on twice", impl.StoreObs{Code: impl.ErrBad, Ops: 1, Bytes: 24, Synced: 24}, s, crashed(24), started(), started())
	// On while it is on, it forgets nothing and syncs nothing.
	checkLast(t, "on while it is on", impl.StoreObs{Code: impl.ErrBad, Ops: 7, Bytes: sizeOfRecords(s...), Synced: 24}, s[0], synced(), s[1:], started())
	checkLast(t, "on while it is on, and off", backOf(s[:1]), s[0], synced(), s[1:], started(), crashed(0), started())
}

// Only what a sync was asked for is synced: neither writing nor asking for the text syncs.
func TestP15OnlySyncSyncs(t *testing.T) {
	s := story()
	between := []impl.StoreOp{asked(), started(), {Kind: 0}, {Kind: 6}, written(s[0]), written(impl.Op{}), written(s[6]), written(opAdd(by(9, 1, 1), 1, 1))}
	for _, op := range between {
		checkLast(t, fmt.Sprint("Kind ", op.Kind), backOf(s[:1]), s[0], synced(), s[1:3], op, op, crashed(0), started())
		checkLast(t, fmt.Sprint("Kind ", op.Kind, ", never synced"), impl.StoreObs{}, s[:3], op, op, crashed(0), started())
	}
	checkLast(t, "synced", backOf(s[:3]), s[0], synced(), s[1:3], between, synced(), between, crashed(0), started())
	// A sync is of all that stands, and of nothing that comes later.
	checkLast(t, "synced ahead of it", backOf(s[:2]), s[:2], synced(), s[2], crashed(0), started())
	checkLast(t, "synced, nothing new", backOf(s[:2]), s[:2], synced(), synced(), s[2], crashed(0), started())
}

// All runs of up to five operations out of a few, one of which waits for another, and crashes that leave something.
func TestP15EverySmallRun(t *testing.T) {
	s := story()
	pool := []impl.StoreOp{written(s[0]), written(s[1]), synced(), asked(), crashed(24), crashed(29), started()}
	runs := 0
	codes := map[int]int{}
	everyList(pool, 5, func(run []impl.StoreOp) {
		runs++
		for _, obs := range checkRun(t, "small", run) {
			codes[obs.Code]++
		}
	})
	if runs != 19608 || codes[impl.ErrDown] < 1000 || codes[impl.ErrCause] < 1000 || codes[impl.ErrBad] < 1000 || codes[impl.OK] < 10000 {
		t.Errorf("%d runs, codes %v", runs, codes)
	}
}

// anyRun gives a run of operations of a log, in their order with some left out, some twice and some wrong, with syncs,
// crashes and starts between.
func anyRun(random *rand.Rand, ops []impl.Op, size int) []impl.StoreOp {
	var run []impl.StoreOp
	next := 0
	for len(run) < size {
		switch random.Intn(12) {
		case 0, 1, 2, 3, 4:
			run = append(run, written(ops[next%len(ops)]))
			next++
		case 5:
			next = random.Intn(len(ops))
		case 6:
			op := ops[random.Intn(len(ops))]
			twin := opWith(op, func(op *impl.Op) { op.Time += 50 })
			beside := kindsOf(9, op.Obj)[random.Intn(4)]
			run = append(run, written([]impl.Op{twin, beside}[random.Intn(2)]))
		case 7:
			run = append(run, synced())
		case 8:
			run = append(run, asked())
		case 9:
			run = append(run, crashed(random.Intn(200)-10))
			next = 0
		default:
			run = append(run, impl.StoreOp{Kind: []int{0, 5, 5, 5, 6}[random.Intn(5)]})
		}
	}
	return run
}

func TestP15AnyRuns(t *testing.T) {
	random := rand.New(rand.NewSource(133))
	codes := map[int]int{}
	most := 0
	for range 1500 {
		ops := anyStory(random, 1+random.Intn(9))
		slices.SortFunc(ops, func(a, b impl.Op) int { return a.Time - b.Time })
		for _, obs := range checkRun(t, "any", anyRun(random, ops, 1+random.Intn(40))) {
			codes[obs.Code]++
			most = max(most, obs.Ops)
		}
	}
	for _, code := range []int{impl.OK, impl.ErrBad, impl.ErrFork, impl.ErrCause, impl.ErrDown, impl.ErrKind} {
		if codes[code] < 100 {
			t.Errorf("code %d came %d times", code, codes[code])
		}
	}
	if most < 8 {
		t.Errorf("at most %d operations", most)
	}
	// As long as a run can be.
	for range 3 {
		ops := anyStory(random, 30)
		slices.SortFunc(ops, func(a, b impl.Op) int { return a.Time - b.Time })
		checkRun(t, "any long one", anyRun(random, ops, impl.MaxStore))
	}
}

// A clerk writes operations in the order of their coming and holds a device to the promise, by what the device tells
// alone: it keeps what was written, and how much of it was synced when that was asked for.
type clerk struct {
	run     []impl.StoreOp
	written []impl.Op
	synced  int
}

// does lets the device do one more thing, and gives what it told of it.
func (c *clerk) does(t *testing.T, op impl.StoreOp) impl.StoreObs {
	t.Helper()
	c.run = append(c.run, op)
	told, code := impl.StoreRun(c.run)
	wantCode(t, "a run", code, impl.OK)
	return told[len(told)-1]
}

func (c *clerk) writes(t *testing.T, op impl.Op) {
	t.Helper()
	before := len(c.written)
	if obs := c.does(t, written(op)); obs.Code == impl.OK && obs.Ops == before+1 {
		c.written = append(c.written, op)
	} else if obs.Ops != before {
		t.Errorf("%+v behind %d operations", obs, before)
	}
}

func (c *clerk) syncs(t *testing.T) {
	t.Helper()
	c.synced = len(c.written)
	if obs := c.does(t, synced()); obs.Synced != obs.Bytes || obs.Ops != c.synced {
		t.Errorf("%+v behind a sync", obs)
	}
}

// crashes goes off and on again, and asks for what was synced, and for a beginning of what was written.
func (c *clerk) crashes(t *testing.T, n int) {
	t.Helper()
	if obs := c.does(t, crashed(n)); obs != (impl.StoreObs{}) {
		t.Errorf("%+v behind a crash", obs)
	}
	back := c.does(t, started())
	if back.Code != impl.OK || back.Ops < c.synced || back.Ops > len(c.written) || back.Synced != back.Bytes {
		t.Errorf("%+v is back, %d were synced and %d written", back, c.synced, len(c.written))
		return
	}
	c.written = c.written[:back.Ops]
	c.synced = back.Ops
	text, code := impl.DocText(inOrder(c.written))
	if obs := c.does(t, asked()); obs.Text != text || obs.Code != code {
		t.Errorf("%s is back, code %d, want %s, code %d", brief(obs.Text), obs.Code, brief(text), code)
	}
}

// What was synced survives every crash, and what comes back is a beginning of what was written; what was lost can be
// written again, until all is there.
func TestP15ClerksAndCrashes(t *testing.T) {
	lost := 0
	for seed := range 60 {
		random := rand.New(rand.NewSource(int64(5000 + seed)))
		ops := anyStory(random, 8+random.Intn(12))
		slices.SortFunc(ops, func(a, b impl.Op) int { return a.Time - b.Time })
		c := &clerk{}
		for len(c.run) < 130 {
			switch random.Intn(8) {
			case 0:
				c.syncs(t)
			case 1:
				before := len(c.written)
				c.crashes(t, random.Intn(120)-10)
				lost += before - len(c.written)
			case 2:
				c.writes(t, ops[random.Intn(len(ops))])
			default:
				c.writes(t, ops[min(len(c.written), len(ops)-1)])
			}
		}
		for _, op := range ops {
			c.writes(t, op)
		}
		c.syncs(t)
		c.crashes(t, -1)
		if !sameLog(inOrder(c.written), inOrder(ops)) {
			t.Errorf("seed %d: %d operations in the end, want %d", seed, len(c.written), len(ops))
		}
	}
	if lost < 200 {
		t.Errorf("only %d operations were lost", lost)
	}
}
