package tests

import (
	"math/rand"
	"slices"
	"testing"

	"loop.example/g00028/impl"
)

// A mover moves nodes of a tree, and hears of others what they did.
type mover struct {
	ops []impl.MoveOp
}

// moves checks a new move; one that would be skipped is not made.
func (m *mover) moves(t *testing.T, random *rand.Rand, actor int) {
	t.Helper()
	what := moving{actor: actor, node: 1 + random.Intn(7), parent: random.Intn(9) - 1, name: names()[random.Intn(len(names()))]}
	checkMoving(t, m.ops, what)
	if op, code := what.of(m.ops); code == impl.OK {
		m.ops = append(m.ops, op)
	}
}

// hears takes all that another has, and what it has itself comes behind that.
func (m *mover) hears(other *mover) {
	heard := slices.Clone(other.ops)
	for _, op := range m.ops {
		if !slices.Contains(heard, op) {
			heard = append(heard, op)
		}
	}
	m.ops = heard
}

// Movers that move and hear each other: none of them makes a ring, yet together they would. All that have heard all have
// the same tree, without rings, whatever came first.
func TestP8MoversInAWorld(t *testing.T) {
	together := 0
	for seed := range 40 {
		random := rand.New(rand.NewSource(int64(seed)))
		var movers [replicas]*mover
		for i := range replicas {
			movers[i] = &mover{}
		}
		for range 50 {
			i, other := random.Intn(replicas), random.Intn(replicas)
			if random.Intn(4) == 0 {
				movers[i].hears(movers[other])
			} else {
				movers[i].moves(t, random, actor(i))
			}
		}
		all := &mover{}
		for _, m := range movers {
			all.hears(m)
		}
		f, skipped := forestOf(all.ops)
		together += len(skipped)
		for _, m := range movers {
			for _, i := range random.Perm(replicas) {
				m.hears(movers[i])
			}
			checkTreeOf(t, "heard all", m.ops, f, skipped...)
			checkTree(t, mixed(random, m.ops))
		}
	}
	if together < 40 {
		t.Errorf("only %d were skipped", together)
	}
}

// Two that move at the same time, each what the other moves it under: on both sides one of them wins, the one with the
// lesser Id, which the actors decide.
func TestP8MovedAtTheSameTime(t *testing.T) {
	base := moved(t, moved(t, nil, moving{actor: 7, node: 1, name: "a"}), moving{actor: 7, node: 2, name: "b"})
	for _, pair := range [][2]int{{8, 9}, {9, 8}, {0, 15}, {15, 0}, {3, 8}, {8, 3}} {
		one := moved(t, base, moving{actor: pair[0], node: 1, parent: 2, name: "a"})
		other := moved(t, base, moving{actor: pair[1], node: 2, parent: 1, name: "b"})
		first, second := one[2], other[2]
		want := []impl.TreeNode{lies(1, 2, "a"), lies(2, 0, "b")}
		if impl.StampLess(second.Id, first.Id) {
			first, second = second, first
			want = []impl.TreeNode{lies(1, 0, "a"), lies(2, 1, "b")}
		}
		checkEveryOrder(t, "at the same time", slices.Concat(one, other[2:]), want, second.Id)
		// Who has heard of both can still move what was skipped, once the other one is out of the way.
		both := slices.Concat(other, one)
		checkMove(t, both, moving{actor: 1, node: second.Node, parent: first.Node}, impl.MoveOp{}, impl.ErrCause)
		free := moved(t, both, moving{actor: 1, node: first.Node, parent: 0, name: "free"})
		later := moved(t, free, moving{actor: 1, node: second.Node, parent: first.Node, name: "in"})
		checkPath(t, later, second.Node, "/free/in", impl.OK)
		checkTree(t, later)
	}
}

// One moves a node under another, which is put away at the same time: it is away with it, and comes back with it.
func TestP8PutAwayAtTheSameTime(t *testing.T) {
	base := moved(t, moved(t, nil, moving{actor: 7, node: 1, name: "a"}), moving{actor: 7, node: 2, name: "b"})
	for _, pair := range [][2]int{{8, 9}, {9, 8}, {0, 15}, {15, 0}} {
		into := moved(t, base, moving{actor: pair[0], node: 2, parent: 1, name: "b"})
		gone := moved(t, base, moving{actor: pair[1], node: 1, parent: -1, name: "a"})
		both := slices.Concat(gone, into)
		checkEveryOrder(t, "away", both[:5], []impl.TreeNode{lies(1, -1, "a"), lies(2, 0, "b")})
		checkTreeOf(t, "away with it", both, []impl.TreeNode{lies(1, -1, "a"), lies(2, 1, "b")})
		checkPath(t, both, 2, "", impl.ErrMissing)
		back := moved(t, both, moving{actor: 3, node: 1, parent: 0, name: "back"})
		checkPath(t, back, 2, "/back/b", impl.OK)
	}
}
