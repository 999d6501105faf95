package tests

import (
	"math"
	"math/rand"
	"slices"
	"strings"
	"testing"

	"loop.example/g00028/impl"
)

// checkMoving checks a new move against what the document says, and, where it is done, that it moves just this node.
func checkMoving(t *testing.T, ops []impl.MoveOp, m moving) {
	t.Helper()
	want, wantCode := moveOf(ops, m)
	checkMove(t, ops, m, want, wantCode)
	if wantCode != impl.OK || len(ops) >= impl.MaxOps {
		return
	}
	before, skipped := forestOf(ops)
	after, _ := before.with(want)
	with := append([]impl.MoveOp{want}, ops...)
	checkTreeOf(t, "with the move", with, after, skipped...)
	if path, code := after.path(m.node); code == impl.OK && !strings.HasSuffix(path, "/"+m.name) {
		t.Errorf("%s is at %s", brief(m), brief(path))
	}
	checkNoRings(t, with)
}

func TestP8EveryMoving(t *testing.T) {
	base := []impl.MoveOp{
		move(1, 0, 1, 0, "a"), move(2, 3, 2, 1, "b"), move(3, 0, 3, 2, "c"), move(4, 0, 4, -1, "d"), move(5, 9, 5, 4, "e"), move(6, 0, 6, 99, "f"), move(6, 2, 7, 6, "g"), move(7, 7, 2, 2, "skipped"),
	}
	for size := range len(base) + 1 {
		for _, actor := range []int{-1, 0, 6, 7, 8, 15, 16} {
			for _, node := range []int{-1, 0, 1, 2, 3, 4, 5, 6, 7, 8, 99, 1000, 1001} {
				for _, parent := range []int{-2, -1, 0, 1, 2, 3, 4, 5, 6, 7, 99, 1000, 1001} {
					checkMoving(t, base[:size], moving{actor: actor, node: node, parent: parent, name: "n"})
				}
			}
		}
	}
}

func TestP8AnyMovings(t *testing.T) {
	random := rand.New(rand.NewSource(19))
	for range 6000 {
		ops := anyMoves(random, 6, random.Intn(14))
		m := moving{actor: random.Intn(16), node: 1 + random.Intn(7), parent: random.Intn(9) - 1, name: names()[random.Intn(len(names()))]}
		checkMoving(t, ops, m)
	}
}

func TestP8MovingsBelowThemselves(t *testing.T) {
	line := chain(6, 0)
	away := append(slices.Clone(line), move(9, 0, 1, -1, "x"))
	nowhere := line[1:]
	for _, ops := range [][]impl.MoveOp{line, away, nowhere} {
		for node := 1; node <= 6; node++ {
			for parent := 1; parent <= 6; parent++ {
				m := moving{actor: 2, node: node, parent: parent, name: "m"}
				if parent >= node {
					checkMove(t, ops, m, impl.MoveOp{}, impl.ErrCause)
				} else {
					last := ops[len(ops)-1].Id
					checkMove(t, ops, m, move(last.Time, 2, node, parent, "m"), impl.OK)
				}
			}
		}
	}
	// Under what was put nowhere, and what was put nowhere under the root and under others.
	checkMove(t, line, moving{node: 1, parent: 7}, move(7, 0, 1, 7, ""), impl.OK)
	checkMove(t, line, moving{node: 7, parent: 0}, move(7, 0, 7, 0, ""), impl.OK)
	checkMove(t, line, moving{node: 7, parent: 6}, move(7, 0, 7, 6, ""), impl.OK)
	checkMove(t, line, moving{node: 7, parent: 7}, impl.MoveOp{}, impl.ErrCause)
	checkMove(t, nil, moving{node: 7, parent: 7}, impl.MoveOp{}, impl.ErrCause)
	checkMove(t, nil, moving{node: 7, parent: 8}, move(1, 0, 7, 8, ""), impl.OK)
	checkMove(t, []impl.MoveOp{move(1, 0, 1, 9, "a")}, moving{node: 9, parent: 1}, impl.MoveOp{}, impl.ErrCause)
	// What was skipped lies nowhere, so nothing lies under it by that.
	checkMove(t, []impl.MoveOp{move(1, 0, 1, 2, "a"), move(2, 0, 2, 1, "x")}, moving{node: 2, parent: 3}, move(3, 0, 2, 3, ""), impl.OK)
	checkMove(t, []impl.MoveOp{move(1, 0, 1, 2, "a"), move(2, 0, 2, 1, "x")}, moving{node: 1, parent: 3}, move(3, 0, 1, 3, ""), impl.OK)
	// To where it is already.
	checkMove(t, line, moving{node: 3, parent: 2, name: "n"}, move(7, 0, 3, 2, "n"), impl.OK)
}

// fullMoves gives MaxOps moves, a line of three nodes and others beside it.
func fullMoves() []impl.MoveOp {
	ops := chain(3, 5)
	for i := len(ops); i < impl.MaxOps; i++ {
		ops = append(ops, move(i+1, 5, 4+i%900, 0, "beside"))
	}
	return ops
}

func TestP8WrongMovings(t *testing.T) {
	ops := chain(3, 5)
	full := fullMoves()
	good := moving{actor: 1, node: 3, parent: 1, name: "g"}
	with := func(change func(m *moving)) moving {
		m := good
		change(&m)
		return m
	}
	checkMove(t, ops, good, move(4, 1, 3, 1, "g"), impl.OK)
	var bad []moving
	for _, node := range []int{0, -1, 1001, 1<<32 + 1, math.MinInt, math.MaxInt} {
		bad = append(bad, with(func(m *moving) { m.node = node }))
	}
	for _, parent := range []int{-2, 1001, 1 << 32, math.MinInt, math.MaxInt} {
		bad = append(bad, with(func(m *moving) { m.parent = parent }))
	}
	// A name has a limit of its own, which counts alone: also one above MaxBytes is not too long but not valid.
	for _, name := range []string{letters(201), letters(impl.MaxBytes), letters(impl.MaxBytes + 1)} {
		bad = append(bad, with(func(m *moving) { m.name = name }))
	}
	bad = append(bad, moving{node: 0, parent: 0}, moving{node: -1, parent: -1}, moving{node: 1001, parent: 1001})
	noStampLeft := append(chain(3, 5), move(impl.MaxTime, 15, 3, 2, ""))
	for _, m := range bad {
		for _, ops := range [][]impl.MoveOp{ops, full, noStampLeft} {
			checkMove(t, ops, m, impl.MoveOp{}, impl.ErrBad)
			for _, actor := range []int{-1, 16, math.MinInt, math.MaxInt, 1 << 32} {
				m.actor = actor
				checkMove(t, ops, m, impl.MoveOp{}, impl.ErrRange)
			}
			m.actor = 1
		}
	}
	for _, ops := range [][]impl.MoveOp{ops, full, noStampLeft} {
		for _, parent := range []int{1, 2, 3} {
			checkMove(t, ops, moving{actor: 16, node: 1, parent: parent}, impl.MoveOp{}, impl.ErrRange)
			checkMove(t, ops, moving{actor: 15, node: 1, parent: parent}, impl.MoveOp{}, impl.ErrCause)
			checkMove(t, ops, moving{actor: 15, node: 1, parent: parent, name: letters(201)}, impl.MoveOp{}, impl.ErrBad)
		}
	}
	checkMove(t, full, good, impl.MoveOp{}, impl.ErrMany)
	checkMove(t, noStampLeft, good, impl.MoveOp{}, impl.ErrMany)
}

func TestP8MovingsAtTheBounds(t *testing.T) {
	ops := []impl.MoveOp{move(4, 5, 1, 0, "a")}
	for actor := range impl.Actors {
		want := move(5, actor, 1000, -1, "")
		if actor > 5 {
			want.Id.Time = 4
		}
		checkMove(t, ops, moving{actor: actor, node: 1000, parent: -1}, want, impl.OK)
	}
	checkMove(t, ops, moving{node: 1, parent: 1000, name: letters(200)}, move(5, 0, 1, 1000, letters(200)), impl.OK)
	checkMove(t, ops, moving{node: 1, parent: 0, name: strings.Repeat("\u00e9", 100)}, move(5, 0, 1, 0, strings.Repeat("\u00e9", 100)), impl.OK)
	checkMove(t, ops, moving{node: 1000, parent: 999}, move(5, 0, 1000, 999, ""), impl.OK)
	checkMove(t, ops, moving{node: 1000, parent: 1000}, impl.MoveOp{}, impl.ErrCause)
}

// There is room for MaxOps that are unlike, whatever came twice.
func TestP8MovingsWithManyOps(t *testing.T) {
	full := lineMoves()
	last := impl.MaxOps
	m := moving{actor: 5, node: 2, parent: 0, name: "m"}
	checkMove(t, full, m, impl.MoveOp{}, impl.ErrMany)
	checkMove(t, full[:last-1], m, move(last-1, 5, 2, 0, "m"), impl.OK)
	alike := append(slices.Clone(full[:last-1]), full[7])
	checkMove(t, alike, m, move(last-1, 5, 2, 0, "m"), impl.OK)
	checkMove(t, slices.Repeat(full[:1], last), m, move(1, 5, 2, 0, "m"), impl.OK)
	checkMove(t, slices.Concat(full, full[:1]), m, impl.MoveOp{}, impl.ErrLong)
	// Those that were skipped take room as well.
	var skipped []impl.MoveOp
	for i := range last {
		skipped = append(skipped, move(i+1, 0, 1, 1, ""))
	}
	checkMove(t, skipped, m, impl.MoveOp{}, impl.ErrMany)
	checkMove(t, skipped[1:], m, move(last, 5, 2, 0, "m"), impl.OK)
	checkMove(t, skipped, moving{node: 1, parent: 1}, impl.MoveOp{}, impl.ErrCause)
}

// The Id is above all, those of skipped moves too, and the least such.
func TestP8IdsOfMovings(t *testing.T) {
	last := impl.MaxTime
	for _, c := range []struct {
		time, actor, by int
		want            impl.Stamp
	}{
		{4, 4, 5, stamp(4, 5)}, {4, 4, 4, stamp(5, 4)}, {4, 4, 3, stamp(5, 3)}, {4, 15, 0, stamp(5, 0)}, {4, 0, 15, stamp(4, 15)},
		{last - 1, 15, 0, stamp(last, 0)}, {last - 1, 15, 15, stamp(last, 15)}, {last, 3, 4, stamp(last, 4)}, {last, 14, 15, stamp(last, 15)}, {last, 0, 1, stamp(last, 1)},
		{last, 3, 3, start()}, {last, 3, 2, start()}, {last, 15, 15, start()}, {last, 15, 0, start()}, {last, 0, 0, start()},
	} {
		for _, greatest := range []impl.MoveOp{move(c.time, c.actor, 3, 0, "g"), move(c.time, c.actor, 3, 3, "skipped")} {
			ops := []impl.MoveOp{move(1, 0, 1, 0, "a"), greatest, move(2, 15, 2, 1, "b"), greatest}
			m := moving{actor: c.by, node: 2, parent: 0, name: "m"}
			everyOrder(ops, func(ops []impl.MoveOp) {
				if c.want == start() {
					checkMove(t, ops, m, impl.MoveOp{}, impl.ErrMany)
				} else {
					checkMove(t, ops, m, impl.MoveOp{Id: c.want, Node: 2, Name: "m"}, impl.OK)
				}
			})
			checkMoving(t, ops, m)
		}
	}
}
