package tests

import (
	"math"
	"slices"
	"strings"
	"testing"

	"loop.example/g00028/impl"
)

func goodMove() impl.MoveOp { return move(5, 1, 2, 1, "b") }

// moveWith is a good move, changed.
func moveWith(change func(op *impl.MoveOp)) impl.MoveOp {
	op := goodMove()
	change(&op)
	return op
}

// wrongMoves are moves of which each has one fault by itself.
func wrongMoves() []impl.MoveOp {
	list := []impl.MoveOp{{}}
	for _, s := range notStamps() {
		list = append(list, moveWith(func(op *impl.MoveOp) { op.Id = s }))
	}
	for _, node := range []int{0, -1, 1001, 1<<32 + 1, math.MinInt, math.MaxInt} {
		list = append(list, moveWith(func(op *impl.MoveOp) { op.Node = node }))
	}
	for _, parent := range []int{-2, 1001, 1 << 32, 1<<32 - 1, math.MinInt, math.MaxInt} {
		list = append(list, moveWith(func(op *impl.MoveOp) { op.Parent = parent }))
	}
	for _, name := range []string{letters(201), letters(100000), strings.Repeat("\u00e9", 101)} {
		list = append(list, moveWith(func(op *impl.MoveOp) { op.Name = name }))
	}
	return list
}

func TestP8NoMoves(t *testing.T) {
	for _, ops := range [][]impl.MoveOp{nil, {}} {
		checkTreeOf(t, "nothing", ops, nil)
		for _, node := range edgeNodes() {
			checkPath(t, ops, node, "", impl.ErrMissing)
			checkKids(t, ops, node)
		}
		checkMove(t, ops, moving{actor: 3, node: 1, name: "a"}, move(1, 3, 1, 0, "a"), impl.OK)
	}
}

func TestP8WrongMoves(t *testing.T) {
	first := move(1, 0, 1, 0, "a")
	for _, wrong := range wrongMoves() {
		checkNoTree(t, []impl.MoveOp{wrong}, impl.ErrBad)
		checkNoTree(t, []impl.MoveOp{first, wrong}, impl.ErrBad)
		checkNoTree(t, []impl.MoveOp{wrong, first}, impl.ErrBad)
		// One that would be skipped must be valid too.
		under := wrong
		under.Parent = under.Node
		if !validMove(under) {
			checkNoTree(t, []impl.MoveOp{first, under}, impl.ErrBad)
		}
	}
}

// The first and the last of what is still valid.
func TestP8ValidMoves(t *testing.T) {
	for _, id := range []impl.Stamp{stamp(1, 0), stamp(1, 15), stamp(impl.MaxTime, 0), stamp(impl.MaxTime, 15)} {
		for _, node := range []int{1, 2, 999, 1000} {
			for _, parent := range []int{-1, 0, 1, 2, 999, 1000} {
				for _, name := range []string{"", "/", letters(199), letters(200), strings.Repeat("\u00e9", 100), strings.Repeat("\xff", 200)} {
					ops := []impl.MoveOp{{Id: id, Node: node, Parent: parent, Name: name}}
					wantCode(t, "valid", treeCode(ops), impl.OK)
					if parent == node {
						checkTreeOf(t, "under itself", ops, nil, id)
					} else {
						checkTreeOf(t, "valid", ops, []impl.TreeNode{lies(node, parent, name)})
					}
					checkTree(t, ops)
				}
			}
		}
	}
}

func TestP8Forks(t *testing.T) {
	for name, twin := range map[string]impl.MoveOp{
		"another Node":   moveWith(func(op *impl.MoveOp) { op.Node = 3 }),
		"another Parent": moveWith(func(op *impl.MoveOp) { op.Parent = 0 }),
		"another Name":   moveWith(func(op *impl.MoveOp) { op.Name = "c" }),
		"no Name":        moveWith(func(op *impl.MoveOp) { op.Name = "" }),
		"one skipped":    moveWith(func(op *impl.MoveOp) { op.Parent = op.Node }),
		"away":           moveWith(func(op *impl.MoveOp) { op.Parent = -1 }),
	} {
		t.Run(name, func(t *testing.T) {
			before, later := move(1, 0, 1, 0, "a"), move(6, 0, 2, 0, "d")
			everyOrder([]impl.MoveOp{goodMove(), twin}, func(ops []impl.MoveOp) { checkNoTree(t, ops, impl.ErrFork) })
			everyOrder([]impl.MoveOp{goodMove(), twin, before, later}, func(ops []impl.MoveOp) { checkNoTree(t, ops, impl.ErrFork) })
			everyOrder([]impl.MoveOp{goodMove(), twin, goodMove(), twin}, func(ops []impl.MoveOp) { checkNoTree(t, ops, impl.ErrFork) })
		})
	}
	// Of two that are both skipped it is asked as well.
	checkNoTree(t, []impl.MoveOp{move(1, 0, 1, 1, ""), move(1, 0, 2, 2, "")}, impl.ErrFork)
	// The actor and the time are both of the Id.
	for _, id := range []impl.Stamp{stamp(5, 0), stamp(5, 2), stamp(4, 1), stamp(6, 1)} {
		checkTree(t, []impl.MoveOp{goodMove(), moveWith(func(op *impl.MoveOp) { op.Id, op.Name = id, "c" })})
		wantCode(t, "another Id", treeCode([]impl.MoveOp{goodMove(), moveWith(func(op *impl.MoveOp) { op.Id = id })}), impl.OK)
	}
}

// Two that are alike count once, also one that is skipped.
func TestP8Alike(t *testing.T) {
	ops := []impl.MoveOp{goodMove(), goodMove(), goodMove()}
	checkTreeOf(t, "alike", ops, []impl.TreeNode{lies(2, 1, "b")})
	checkKids(t, ops, 1, 2)
	skipped := move(3, 0, 4, 4, "s")
	checkTreeOf(t, "skipped twice", []impl.MoveOp{skipped, goodMove(), skipped}, []impl.TreeNode{lies(2, 1, "b")}, skipped.Id)
	checkTree(t, []impl.MoveOp{skipped, skipped})
}

func moveFaults() map[int][]impl.MoveOp {
	return map[int][]impl.MoveOp{
		impl.ErrBad:  {moveWith(func(op *impl.MoveOp) { op.Node = 1001 })},
		impl.ErrFork: {move(8, 0, 1, 0, "a"), move(8, 0, 1, 0, "b")},
	}
}

// Two faults at once: ErrLong goes ahead of ErrBad, this one ahead of ErrFork, and all of them ahead of what is said of
// each call (checkNoTree asks for wrong numbers too).
func TestP8OrderOfCodes(t *testing.T) {
	long := slices.Repeat([]impl.MoveOp{goodMove()}, impl.MaxOps+1)
	checkNoTree(t, long, impl.ErrLong)
	for code, ops := range moveFaults() {
		checkNoTree(t, ops, code)
		checkNoTree(t, slices.Concat(ops, long), impl.ErrLong)
		checkNoTree(t, slices.Concat(long, ops), impl.ErrLong)
		checkNoTree(t, slices.Concat(long[:impl.MaxOps+1-len(ops)], ops), impl.ErrLong)
		checkNoTree(t, slices.Concat(long[:impl.MaxOps-len(ops)], ops), code)
	}
	both := slices.Concat(moveFaults()[impl.ErrBad], moveFaults()[impl.ErrFork])
	everyOrder(both, func(ops []impl.MoveOp) { checkNoTree(t, ops, impl.ErrBad) })
	// A fork of two of which one is not valid is no fork yet.
	for _, wrong := range wrongMoves() {
		twin := wrong
		twin.Name = "twin"
		everyOrder([]impl.MoveOp{wrong, twin, goodMove()}, func(ops []impl.MoveOp) { checkNoTree(t, ops, impl.ErrBad) })
	}
	checkNoTree(t, slices.Concat(long, both), impl.ErrLong)
	checkNoTree(t, make([]impl.MoveOp, impl.MaxOps), impl.ErrBad)
	checkNoTree(t, make([]impl.MoveOp, impl.MaxOps+1), impl.ErrLong)
}

// lineMoves gives moves of a line of MaxNode nodes; the rest of the moves lays the last node elsewhere and back again.
func lineMoves() []impl.MoveOp {
	ops := chain(impl.MaxNode, 4)
	for i := impl.MaxNode; i < impl.MaxOps; i++ {
		ops = append(ops, move(i+1, 4, impl.MaxNode, (impl.MaxNode-1)*(i%2), "n"))
	}
	return ops
}

func TestP8Limit(t *testing.T) {
	ops := lineMoves()
	var want []impl.TreeNode
	for i := range impl.MaxNode {
		want = append(want, lies(i+1, i, "n"))
	}
	turned := slices.Clone(ops)
	slices.Reverse(turned)
	for _, ops := range [][]impl.MoveOp{ops, turned} {
		checkTreeOf(t, "just MaxOps", ops, want)
		checkPath(t, ops, impl.MaxNode, strings.Repeat("/n", impl.MaxNode), impl.OK)
		checkKids(t, ops, impl.MaxNode-1, impl.MaxNode)
		checkKids(t, ops, impl.MaxNode)
		checkMove(t, ops, moving{node: 1, parent: impl.MaxNode}, impl.MoveOp{}, impl.ErrCause)
		checkMove(t, ops, moving{node: 1}, impl.MoveOp{}, impl.ErrMany)
		// One more is too many, also if it is there already.
		checkNoTree(t, append(slices.Clone(ops), ops[7]), impl.ErrLong)
		checkNoTree(t, append(slices.Clone(ops), move(impl.MaxOps+1, 4, 1, 0, "")), impl.ErrLong)
	}
	// Those that came twice are counted twice where the limit is asked for.
	half := chain(impl.MaxOps/2-24, 4)
	twice := slices.Concat(half, half)
	checkTreeOf(t, "all twice", twice, want)
	checkTreeOf(t, "all twice and some thrice", slices.Concat(twice, half[:48]), want)
	checkNoTree(t, slices.Concat(twice, half[:49]), impl.ErrLong)
}

// All that can be skipped is, and the answer has room for it.
func TestP8AllSkipped(t *testing.T) {
	ops := chain(impl.MaxNode, 4)
	var skipped []impl.Stamp
	for i := impl.MaxNode; i < impl.MaxOps; i++ {
		op := move(i+1, 3, 1+i%500, 1+i%500+i%501, "x")
		ops = append(ops, op)
		skipped = append(skipped, op.Id)
	}
	var want []impl.TreeNode
	for i := range impl.MaxNode {
		want = append(want, lies(i+1, i, "n"))
	}
	checkTreeOf(t, "under what lies below", ops, want, skipped...)
	slices.Reverse(ops)
	checkTreeOf(t, "turned over", ops, want, skipped...)
	ops, skipped = nil, nil
	for i := range impl.MaxOps {
		ops = append(ops, move(i+1, 0, 1+i%1000, 1+i%1000, ""))
		skipped = append(skipped, ops[i].Id)
	}
	checkTreeOf(t, "all under themselves", ops, nil, skipped...)
}

// All lists of three moves out of a pool with faults.
func TestP8EverySmallListWithFaults(t *testing.T) {
	pool := []impl.MoveOp{
		move(1, 0, 1, 0, "a"), move(1, 1, 2, 1, "b"), move(2, 0, 1, 2, "c"), move(2, 0, 1, 2, "d"), move(3, 0, 2, -1, "a"),
		move(3, 1, 3, 3, ""), move(4, 0, 1, 0, "a"), move(4, 0, 3, 1, "a"), move(5, 0, 0, 0, ""), move(5, 0, 1, -2, ""), move(0, 0, 1, 0, "a"),
	}
	codes := map[int]int{}
	everyList(pool, 3, func(ops []impl.MoveOp) {
		checkTree(t, ops)
		codes[treeCode(ops)]++
	})
	for _, code := range []int{impl.OK, impl.ErrBad, impl.ErrFork} {
		if codes[code] < 50 {
			t.Errorf("code %d came %d times", code, codes[code])
		}
	}
}
