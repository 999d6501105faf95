package tests

import (
	"math"
	"math/rand"
	"slices"
	"testing"

	"loop.example/g00028/impl"
)

func move(time, actor, node, parent int, name string) impl.MoveOp {
	return impl.MoveOp{Id: stamp(time, actor), Node: node, Parent: parent, Name: name}
}

func lies(node, parent int, name string) impl.TreeNode {
	return impl.TreeNode{Node: node, Parent: parent, Name: name}
}

// validMove says again what a move must be.
func validMove(op impl.MoveOp) bool {
	return impl.StampOK(op.Id) && op.Node > 0 && op.Node < 1001 && op.Parent > -2 && op.Parent < 1001 && len(op.Name) < 201
}

// treeCode looks for the faults in their order, each by holding all against all.
func treeCode(ops []impl.MoveOp) int {
	if len(ops) > 2048 {
		return impl.ErrLong
	}
	if slices.ContainsFunc(ops, func(op impl.MoveOp) bool { return !validMove(op) }) {
		return impl.ErrBad
	}
	for _, one := range ops {
		if slices.ContainsFunc(ops, func(other impl.MoveOp) bool { return other.Id == one.Id && other != one }) {
			return impl.ErrFork
		}
	}
	return impl.OK
}

// movesOnce leaves of moves each once, by rising Id.
func movesOnce(ops []impl.MoveOp) []impl.MoveOp {
	var list []impl.MoveOp
	for _, op := range ops {
		at := 0
		for at < len(list) && impl.StampLess(list[at].Id, op.Id) {
			at++
		}
		if at == len(list) || list[at] != op {
			list = slices.Insert(list, at, op)
		}
	}
	return list
}

// A forest is where nodes lie, as a plain list by rising Node.
type forest []impl.TreeNode

// family gives a node and all that lies under it, looked for from above: kids, their kids, and so on.
func (f forest) family(node int) []int {
	list := []int{node}
	for i := 0; i < len(list); i++ {
		for _, n := range f {
			if n.Parent == list[i] {
				list = append(list, n.Node)
			}
		}
	}
	return list
}

// with gives the forest after a move, and whether that was done.
func (f forest) with(op impl.MoveOp) (forest, bool) {
	if slices.Contains(f.family(op.Node), op.Parent) {
		return f, false
	}
	var list forest
	for _, n := range f {
		if n.Node != op.Node {
			list = append(list, n)
		}
	}
	at := 0
	for at < len(list) && list[at].Node < op.Node {
		at++
	}
	return slices.Insert(list, at, lies(op.Node, op.Parent, op.Name)), true
}

// forestOf does valid moves one by one, and gives the Ids of those that were skipped too.
func forestOf(ops []impl.MoveOp) (forest, []impl.Stamp) {
	var f forest
	var skipped []impl.Stamp
	for _, op := range movesOnce(ops) {
		var done bool
		if f, done = f.with(op); !done {
			skipped = append(skipped, op.Id)
		}
	}
	return f, skipped
}

func (f forest) path(node int) (string, int) {
	for _, n := range f {
		if n.Node != node {
			continue
		}
		if n.Parent == 0 {
			return "/" + n.Name, impl.OK
		}
		above, code := f.path(n.Parent)
		if code != impl.OK {
			return "", code
		}
		return above + "/" + n.Name, impl.OK
	}
	return "", impl.ErrMissing
}

// kids goes over the nodes by rising Node, so that of equal names the lesser number comes first.
func (f forest) kids(node int) []int {
	var list forest
	for _, n := range f {
		if n.Parent != node {
			continue
		}
		at := 0
		for at < len(list) && list[at].Name <= n.Name {
			at++
		}
		list = slices.Insert(list, at, n)
	}
	var numbers []int
	for _, n := range list {
		numbers = append(numbers, n.Node)
	}
	return numbers
}

func checkTreeOf(t *testing.T, what string, ops []impl.MoveOp, want []impl.TreeNode, wantSkipped ...impl.Stamp) {
	t.Helper()
	list, skipped, code := impl.TreeOf(ops)
	if code != impl.OK || !slices.Equal(list, want) || !slices.Equal(skipped, wantSkipped) {
		t.Errorf("%s: TreeOf %s: %s, skipped %s, code %d, want %s, skipped %s", what, brief(ops), brief(list), brief(skipped), code, brief(want), brief(wantSkipped))
	}
}

func checkPath(t *testing.T, ops []impl.MoveOp, node int, want string, wantCode int) {
	t.Helper()
	if path, code := impl.TreePath(ops, node); path != want || code != wantCode {
		t.Errorf("TreePath of %d in %s: %s, code %d, want %s, code %d", node, brief(ops), brief(path), code, brief(want), wantCode)
	}
}

func checkKids(t *testing.T, ops []impl.MoveOp, node int, want ...int) {
	t.Helper()
	if kids, code := impl.TreeKids(ops, node); !slices.Equal(kids, want) || code != impl.OK {
		t.Errorf("TreeKids of %d in %s: %s, code %d, want %s", node, brief(ops), brief(kids), code, brief(want))
	}
}

// edgeNodes are numbers that are no node's, and the first and the last that are.
func edgeNodes() []int {
	return []int{math.MinInt, -2, -1, 0, 1, 1000, 1001, math.MaxInt}
}

// numbersOf are all numbers that moves name, and those at the edges.
func numbersOf(ops []impl.MoveOp) []int {
	list := edgeNodes()
	for _, op := range ops {
		list = append(list, op.Node, op.Parent)
	}
	slices.Sort(list)
	return slices.Compact(list)
}

// checkTree holds what the program tells of moves against the plain list, and looks for rings by itself.
func checkTree(t *testing.T, ops []impl.MoveOp) {
	t.Helper()
	if code := treeCode(ops); code != impl.OK {
		checkNoTree(t, ops, code)
		return
	}
	f, skipped := forestOf(ops)
	checkTreeOf(t, "moved", ops, f, skipped...)
	checkNoRings(t, ops)
	for _, node := range numbersOf(ops) {
		path, code := f.path(node)
		checkPath(t, ops, node, path, code)
		checkKids(t, ops, node, f.kids(node)...)
	}
}

// checkNoRings goes up from each node that is told: no way is longer than there are nodes. Each node is told once.
func checkNoRings(t *testing.T, ops []impl.MoveOp) {
	t.Helper()
	list, _, _ := impl.TreeOf(ops)
	parents := map[int]int{}
	for i, n := range list {
		if i > 0 && list[i-1].Node >= n.Node {
			t.Errorf("%d is told behind %d", n.Node, list[i-1].Node)
		}
		parents[n.Node] = n.Parent
	}
	for _, n := range list {
		steps := 0
		up, told := n.Node, true
		for told && steps <= len(list) {
			up, told = parents[up]
			steps++
		}
		if told {
			t.Errorf("a ring above %d: %s", n.Node, brief(list))
		}
	}
}

// checkNoTree checks that every call of trees answers this code and nothing else.
func checkNoTree(t *testing.T, ops []impl.MoveOp, want int) {
	t.Helper()
	list, skipped, code := impl.TreeOf(ops)
	wantCode(t, "TreeOf", code, want)
	zeroWithCode(t, list, code)
	zeroWithCode(t, skipped, code)
	for _, node := range []int{-1, 0, 1} {
		checkPath(t, ops, node, "", want)
		kids, code := impl.TreeKids(ops, node)
		wantCode(t, "TreeKids", code, want)
		zeroWithCode(t, kids, code)
	}
	// What is said of a new move comes behind the codes of the chapter.
	checkMove(t, ops, moving{node: 1}, impl.MoveOp{}, want)
	checkMove(t, ops, moving{actor: 16, node: 0, parent: -2, name: letters(201)}, impl.MoveOp{}, want)
	checkMove(t, ops, moving{node: 1, parent: 1}, impl.MoveOp{}, want)
}

// A moving is what TreeMove is handed beside the operations.
type moving struct {
	actor, node, parent int
	name                string
}

func (m moving) of(ops []impl.MoveOp) (impl.MoveOp, int) {
	return impl.TreeMove(ops, m.actor, m.node, m.parent, m.name)
}

func checkMove(t *testing.T, ops []impl.MoveOp, m moving, want impl.MoveOp, wantCode int) {
	t.Helper()
	if op, code := m.of(ops); op != want || code != wantCode {
		t.Errorf("TreeMove %s of %s: %s, code %d, want %s, code %d", brief(m), brief(ops), brief(op), code, brief(want), wantCode)
	}
}

// moveOf writes down what the document says of a new move upon valid ones.
func moveOf(ops []impl.MoveOp, m moving) (impl.MoveOp, int) {
	if m.actor < 0 || m.actor > 15 {
		return impl.MoveOp{}, impl.ErrRange
	}
	op := move(1, m.actor, m.node, m.parent, m.name)
	if !validMove(op) {
		return impl.MoveOp{}, impl.ErrBad
	}
	f, _ := forestOf(ops)
	if _, done := f.with(op); !done {
		return impl.MoveOp{}, impl.ErrCause
	}
	var ids []impl.Stamp
	for _, other := range movesOnce(ops) {
		ids = append(ids, other.Id)
	}
	id, code := impl.StampNext(ids, m.actor)
	if len(ids) >= 2048 || code != impl.OK {
		return impl.MoveOp{}, impl.ErrMany
	}
	op.Id = id
	return op, impl.OK
}

// moved gives the operations with a new move behind them.
func moved(t *testing.T, ops []impl.MoveOp, m moving) []impl.MoveOp {
	t.Helper()
	op, code := m.of(ops)
	if code != impl.OK {
		t.Fatalf("TreeMove %s of %s: code %d", brief(m), brief(ops), code)
	}
	return slices.Concat(ops, []impl.MoveOp{op})
}

// names are those that a path or an order could trip over.
func names() []string {
	return []string{"", "a", "a", "b", "aa", "B", "/", "a/b", "\x00", "\xff", "\u00e9"}
}

// anyMoves gives valid moves of a few nodes, so that many make rings, in any order and some of them twice.
func anyMoves(random *rand.Rand, nodes, size int) []impl.MoveOp {
	var ops []impl.MoveOp
	for i := range size {
		id := stamp(1+i/3, i%3*5)
		name := names()[random.Intn(len(names()))]
		ops = append(ops, impl.MoveOp{Id: id, Node: 1 + random.Intn(nodes), Parent: random.Intn(nodes+2) - 1, Name: name})
	}
	return mixed(random, ops)
}

// chain gives moves by which each of n nodes lies under the one of the number below, the first one under the root.
func chain(n, actor int) []impl.MoveOp {
	var ops []impl.MoveOp
	for i := range n {
		ops = append(ops, move(i+1, actor, i+1, i, "n"))
	}
	return ops
}
