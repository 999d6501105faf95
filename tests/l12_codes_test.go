package tests

import (
	"fmt"
	"math"
	"math/rand"
	"testing"

	"loop.example/g00028/impl"
)

// noModes are numbers that are no mode.
func noModes() []int {
	return []int{0, 4, -1, 5, 1<<32 + 1, math.MinInt, math.MaxInt}
}

func TestP14Modes(t *testing.T) {
	s := inOrder(story())
	for _, c := range [][2][]impl.Op{{nil, nil}, {s, nil}, {s, s}, {s, s[:2]}, {logOf(s, diary(7, 9, counts(5, 1))), s}, {fullLog(impl.MaxLog), fullLog(9)}} {
		for _, mode := range noModes() {
			checkNotSent(t, "no mode", c[0], c[1], mode, impl.ErrRange)
		}
		for mode := 1; mode <= 3; mode++ {
			_, code := impl.SyncRun(c[0], c[1], mode)
			wantCode(t, fmt.Sprint("mode ", mode), code, impl.OK)
		}
	}
}

// Logs that are not valid, on either side and on both, go ahead of all else.
func TestP14WrongLogs(t *testing.T) {
	s := inOrder(story())
	wrong := wrongLogs()
	wrong["a count of what is not there"] = logWith(s, 3, func(op *impl.Op) { op.Deps.Counts[0] = 4 })
	wrong["a Time beyond the last"] = logWith(s, 6, func(op *impl.Op) { op.Time = impl.MaxTime + 1 })
	wrong["too few counts"] = logWith(s, 6, func(op *impl.Op) { op.Deps.Counts = op.Deps.Counts[:15] })
	others := [][]impl.Op{nil, s, logWith(s, 0, func(op *impl.Op) { op.Text = "fork" }), diary(9, 1, counts(1, 1), counts(3, 1)), fullLog(impl.MaxLog)}
	for what, log := range wrong {
		for _, other := range others {
			for mode := range 5 {
				checkNotSent(t, what, log, other, mode, impl.ErrBad)
			}
		}
		for _, mode := range append(noModes(), 1, 2, 3) {
			checkNotSent(t, what+", twice", log, log, mode, impl.ErrBad)
		}
		if got, code := impl.SketchOf(log); code != impl.ErrBad || len(got.Cells) != 0 {
			t.Errorf("%s: SketchOf %v, code %d, want code %d", what, got, code, impl.ErrBad)
		}
		// It goes ahead of an actor, a level and a place that there are not.
		for _, place := range [][3]int{{0, 0, 0}, {15, 8, 0}, {16, 0, 0}, {-1, 0, 0}, {0, 9, 0}, {0, -1, 0}, {0, 8, 1}, {0, 0, -1}, {0, 0, 256}} {
			checkNoTreeSum(t, what, log, place[0], place[1], place[2], impl.ErrBad)
		}
	}
	// A list whose At nobody put is no fault of a log.
	loose := diary(3, 9, takes(3, stamp(1, 7)))
	wantCode(t, "a wrong list", checkSync(t, "a wrong list", loose, s), impl.OK)
	checkSent(t, "a wrong list", loose, nil, 1, 1, 4+sizeOf(loose), 2)
}

// Which of the codes is answered where several would do: ErrBad, ErrFork, ErrKind, ErrMany, and then ErrRange.
func TestP14OrderOfCodes(t *testing.T) {
	base := diary(2, 1, counts(100, 1), counts(100, 2))
	fork := diary(2, 1, counts(100, 1), counts(100, 3))
	kind := func(log []impl.Op) []impl.Op { return logOf(log, diary(0, 1, writes(90, "k", "v"))) }
	other := func(log []impl.Op) []impl.Op { return logOf(log, diary(15, 1, counts(90, 1))) }
	many := func(log []impl.Op, actor int) []impl.Op { return logOf(log, diary(actor, 1, ones(600)...)) }
	bad := func(log []impl.Op) []impl.Op { return logOf(log, diary(9, 1, counts(101, 1))) }
	for i, c := range []struct {
		a, b []impl.Op
		want int
	}{
		{base, base, impl.OK}, {many(base, 5), base, impl.OK}, {kind(base), base, impl.OK},
		{many(base, 5), many(base, 6), impl.ErrMany},
		{kind(base), other(base), impl.ErrKind}, {many(kind(base), 5), many(other(base), 6), impl.ErrKind},
		{base, fork, impl.ErrFork}, {kind(base), other(fork), impl.ErrFork}, {many(base, 5), many(fork, 6), impl.ErrFork}, {many(kind(base), 5), many(other(fork), 6), impl.ErrFork},
		{bad(base), base, impl.ErrBad}, {bad(base), fork, impl.ErrBad}, {bad(kind(base)), other(base), impl.ErrBad}, {bad(many(base, 5)), many(base, 6), impl.ErrBad},
		{bad(many(kind(base), 5)), many(other(fork), 6), impl.ErrBad},
	} {
		what := fmt.Sprint("faults ", i)
		for mode := 1; mode <= 3; mode++ {
			if _, code := impl.SyncRun(c.a, c.b, mode); code != c.want {
				t.Errorf("%s, mode %d: code %d, want %d", what, mode, code, c.want)
			}
			if c.want != impl.OK {
				checkNotSent(t, what, c.a, c.b, mode, c.want)
			}
		}
		for _, mode := range noModes() {
			want := c.want
			if want == impl.OK {
				want = impl.ErrRange
			}
			checkNotSent(t, what, c.a, c.b, mode, want)
		}
	}
}

// Each small log with each, in each mode.
func TestP14EverySmallPair(t *testing.T) {
	codes := map[int]int{}
	logs := smallLogs()
	for _, a := range logs {
		for _, b := range logs {
			for mode := range 5 {
				codes[checkMode(t, "small", a, b, mode)]++
			}
		}
	}
	for code, least := range map[int]int{impl.OK: 100, impl.ErrFork: 100, impl.ErrKind: 30, impl.ErrRange: 60} {
		if codes[code] < least {
			t.Errorf("code %d came %d times", code, codes[code])
		}
	}
}

// Logs at random that went apart from one, some far and some not.
func TestP14AnyRuns(t *testing.T) {
	random := rand.New(rand.NewSource(123))
	codes, rounds := map[int]int{}, map[int]int{}
	for range 700 {
		whole := anyStory(random, []int{6, 14, 30}[random.Intn(3)])
		a, b := anyCut(random, whole), anyCut(random, whole)
		switch random.Intn(6) {
		case 0:
			b = anyChanged(random, b)
		case 1, 2:
			b = anyBeside(random, b)
		}
		code := checkSync(t, "any", a, b)
		codes[code]++
		out, _ := impl.SyncRun(a, b, 3)
		rounds[out.Rounds]++
	}
	if codes[impl.OK] < 400 || codes[impl.ErrFork] < 20 || codes[impl.ErrKind] < 10 {
		t.Errorf("codes %v", codes)
	}
	if rounds[2] < 100 || rounds[4] < 30 {
		t.Errorf("rounds by sketches %v", rounds)
	}
}
