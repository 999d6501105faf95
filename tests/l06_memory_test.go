package tests

import (
	"math"
	"math/rand"
	"slices"
	"testing"

	"loop.example/g00028/impl"
)

// behindMove is what stands behind an argument's end.
func behindMove() impl.MoveOp { return move(77, 7, 66, 55, "behind") }

func memoryMoves() [][]impl.MoveOp {
	random := rand.New(rand.NewSource(20))
	turned := chain(30, 2)
	slices.Reverse(turned)
	list := [][]impl.MoveOp{nil, chain(1, 0), turned, slices.Concat(turned, chain(20, 2)), {{}}, {goodMove(), moveWith(func(op *impl.MoveOp) { op.Name = "twin" })}}
	for range 30 {
		list = append(list, anyMoves(random, 1+random.Intn(8), random.Intn(30)))
	}
	return list
}

func TestP1MovesAreNotWrittenInto(t *testing.T) {
	for _, moves := range memoryMoves() {
		ops, check := watched(t, moves, behindMove())
		impl.TreeOf(ops)
		for node := -2; node < 10; node++ {
			impl.TreePath(ops, node)
			impl.TreeKids(ops, node)
			impl.TreeMove(ops, 3, node, 0, "a")
			impl.TreeMove(ops, 3, node, node, "a")
		}
		check()
	}
}

func TestP1AnsweredTreesAreNew(t *testing.T) {
	nodes, ids := 0, 0
	for _, moves := range memoryMoves() {
		ops, check := watched(t, moves, behindMove())
		first, firstSkipped, _ := impl.TreeOf(ops)
		again, againSkipped, _ := impl.TreeOf(ops)
		kept, keptSkipped := slices.Clone(again), slices.Clone(againSkipped)
		nodes, ids = nodes+len(kept), ids+len(keptSkipped)
		scribble(first, lies(-7, -7, "!"))
		if !slices.Equal(firstSkipped, keptSkipped) {
			t.Errorf("the lists of one answer share memory: %v, was %v", firstSkipped, keptSkipped)
		}
		scribble(firstSkipped, stamp(-7, -7))
		check()
		scribble(ops, move(-9, -9, -9, -9, "!"))
		if !slices.Equal(again, kept) || !slices.Equal(againSkipped, keptSkipped) {
			t.Errorf("an answer shares memory: %v and %v, was %v and %v", again, againSkipped, kept, keptSkipped)
		}
	}
	if nodes < 100 || ids < 50 {
		t.Errorf("only %d nodes and %d that were skipped were told", nodes, ids)
	}
}

func TestP1AnsweredKidsAreNew(t *testing.T) {
	told := 0
	for _, moves := range memoryMoves() {
		for node := -1; node < 9; node++ {
			ops, check := watched(t, moves, behindMove())
			first, _ := impl.TreeKids(ops, node)
			again, _ := impl.TreeKids(ops, node)
			kept := slices.Clone(again)
			told += len(kept)
			scribble(first, -7)
			check()
			scribble(ops, move(-9, -9, -9, -9, "!"))
			if !slices.Equal(again, kept) {
				t.Errorf("an answer shares memory: %v, was %v", again, kept)
			}
		}
	}
	if told < 100 {
		t.Errorf("only %d kids were told", told)
	}
}

func anyMoveOps(random *rand.Rand) []impl.MoveOp {
	numbers := []int{math.MinInt, -2, -1, 0, 1, 1, 2, 3, 999, 1000, 1001, impl.MaxTime, impl.MaxTime + 1, math.MaxInt}
	number := func() int { return numbers[random.Intn(len(numbers))] }
	texts := []string{"", "a", letters(200), letters(201)}
	ops := anyMoves(random, 4, random.Intn(8))
	for range random.Intn(3) {
		ops = append(ops, move(number(), random.Intn(18)-1, number(), number(), texts[random.Intn(len(texts))]))
	}
	return ops
}

// No panic and an end, and nothing beside a code, for moves of all kinds.
func TestP1AnyMoves(t *testing.T) {
	random := rand.New(rand.NewSource(21))
	numbers := append(edgeNodes(), 1, 2, 2, 3, 3, 4)
	number := func() int { return numbers[random.Intn(len(numbers))] }
	codes := map[int]int{}
	for range 20000 {
		ops := anyMoveOps(random)
		checkTree(t, ops)
		m := moving{actor: random.Intn(19) - 1, node: number(), parent: number(), name: letters(random.Intn(4) * 67)}
		op, code := m.of(ops)
		codes[code]++
		if code == impl.OK {
			wantCode(t, "with the move", treeCode(append(slices.Clone(ops), op)), impl.OK)
		} else if op != (impl.MoveOp{}) {
			t.Errorf("code %d came with %s", code, brief(op))
		}
		if treeCode(ops) == impl.OK {
			checkMoving(t, ops, m)
		}
	}
	for _, code := range []int{impl.OK, impl.ErrBad, impl.ErrRange, impl.ErrCause, impl.ErrFork} {
		if codes[code] < 20 {
			t.Errorf("code %d came %d times", code, codes[code])
		}
	}
}

// The longest that there is comes to an end soon, whatever its order.
func TestP1LongestMoves(t *testing.T) {
	random := rand.New(rand.NewSource(22))
	ops := chain(impl.MaxNode, 0)
	for i := impl.MaxNode; i < impl.MaxOps; i++ {
		ops = append(ops, move(i+1, 0, 1+random.Intn(3), impl.MaxNode-random.Intn(3), letters(impl.MaxWord)))
	}
	random.Shuffle(len(ops), func(i, j int) { ops[i], ops[j] = ops[j], ops[i] })
	_, skipped, code := impl.TreeOf(ops)
	wantCode(t, "TreeOf", code, impl.OK)
	if len(skipped) != impl.MaxOps-impl.MaxNode {
		t.Errorf("%d were skipped", len(skipped))
	}
}
