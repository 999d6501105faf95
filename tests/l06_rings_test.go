package tests

import (
	"math/rand"
	"slices"
	"testing"

	"loop.example/g00028/impl"
)

// checkEveryOrder checks a tree for its moves in each order, and in each with one of them twice.
func checkEveryOrder(t *testing.T, what string, ops []impl.MoveOp, want []impl.TreeNode, skipped ...impl.Stamp) {
	t.Helper()
	everyOrder(ops, func(ops []impl.MoveOp) {
		checkTreeOf(t, what, ops, want, skipped...)
		for _, again := range ops {
			checkTreeOf(t, what+", one twice", append(slices.Clone(ops), again), want, skipped...)
			checkTreeOf(t, what+", one twice", append([]impl.MoveOp{again}, ops...), want, skipped...)
		}
	})
	checkTree(t, ops)
}

func TestP8UnderItself(t *testing.T) {
	checkTreeOf(t, "alone", []impl.MoveOp{move(1, 0, 5, 5, "a")}, nil, stamp(1, 0))
	// What was skipped changes neither the place nor the name.
	ops := []impl.MoveOp{move(1, 0, 5, 0, "a"), move(2, 0, 5, 5, "b"), move(3, 0, 6, 5, "c"), move(4, 0, 6, 6, "d")}
	checkEveryOrder(t, "later", ops, []impl.TreeNode{lies(5, 0, "a"), lies(6, 5, "c")}, stamp(2, 0), stamp(4, 0))
	checkEveryOrder(t, "earlier", []impl.MoveOp{move(1, 0, 5, 5, "b"), move(2, 0, 5, 0, "a")}, []impl.TreeNode{lies(5, 0, "a")}, stamp(1, 0))
	checkEveryOrder(t, "away", []impl.MoveOp{move(1, 0, 5, -1, "a"), move(2, 0, 5, 5, "b")}, []impl.TreeNode{lies(5, -1, "a")}, stamp(2, 0))
}

// A ring of several nodes: each is put under the next one. The one with the greatest Id closes it, whichever that is, and
// is skipped; nothing but the Ids decides which.
func TestP8RingsByIds(t *testing.T) {
	for size := 2; size <= 5; size++ {
		places := make([]int, size)
		for i := range places {
			places[i] = i
		}
		everyOrder(places, func(order []int) {
			for _, byActor := range []bool{false, true} {
				var ops []impl.MoveOp
				var want []impl.TreeNode
				var skipped impl.Stamp
				for i, place := range order {
					id := stamp(3, 2+place)
					if !byActor {
						id = stamp(3+place, 15-place)
					}
					ops = append(ops, impl.MoveOp{Id: id, Node: i + 1, Parent: (i+1)%size + 1, Name: "r"})
					if place == size-1 {
						skipped = id
					} else {
						want = append(want, lies(i+1, (i+1)%size+1, "r"))
					}
				}
				checkTreeOf(t, "from nothing", ops, want, skipped)
				slices.Reverse(ops)
				checkTreeOf(t, "from nothing, turned over", ops, want, skipped)
				checkRingAfterRoot(t, size, ops, skipped)
			}
		})
	}
}

// checkRingAfterRoot lays all nodes of a ring under the root first: the one that is skipped stays there.
func checkRingAfterRoot(t *testing.T, size int, ring []impl.MoveOp, skipped impl.Stamp) {
	t.Helper()
	var want []impl.TreeNode
	ops := slices.Clone(ring)
	for i := range size {
		ops = append(ops, move(1, i, i+1, 0, "a"))
		want = append(want, lies(i+1, 0, "a"))
	}
	for _, op := range ring {
		if op.Id != skipped {
			want[op.Node-1] = lies(op.Node, op.Parent, op.Name)
		}
	}
	checkTreeOf(t, "from the root", ops, want, skipped)
	checkTree(t, ops)
}

// The same two moves, once with the one ahead and once with the other.
func TestP8RingOfTwo(t *testing.T) {
	base := []impl.MoveOp{move(1, 0, 1, 0, "a"), move(1, 1, 2, 0, "b")}
	for _, c := range []struct {
		one, other impl.Stamp
		want       []impl.TreeNode
		skipped    impl.Stamp
	}{
		{stamp(2, 0), stamp(2, 1), []impl.TreeNode{lies(1, 2, "a2"), lies(2, 0, "b")}, stamp(2, 1)},
		{stamp(2, 1), stamp(2, 0), []impl.TreeNode{lies(1, 0, "a"), lies(2, 1, "b2")}, stamp(2, 1)},
		{stamp(2, 15), stamp(3, 0), []impl.TreeNode{lies(1, 2, "a2"), lies(2, 0, "b")}, stamp(3, 0)},
		{stamp(10, 0), stamp(9, 15), []impl.TreeNode{lies(1, 0, "a"), lies(2, 1, "b2")}, stamp(10, 0)},
	} {
		ops := slices.Concat(base, []impl.MoveOp{{Id: c.one, Node: 1, Parent: 2, Name: "a2"}, {Id: c.other, Node: 2, Parent: 1, Name: "b2"}})
		checkEveryOrder(t, "two", ops, c.want, c.skipped)
	}
}

// Where one move of a ring was skipped, a later one may go through that would have closed it: the skipped one counts for
// nothing, and once the way is open again the same move is done.
func TestP8AfterASkippedOne(t *testing.T) {
	checkEveryOrder(t, "the third goes through", []impl.MoveOp{
		move(1, 0, 2, 1, "b"), move(2, 0, 1, 2, "a"), move(3, 0, 2, 0, "b3"), move(4, 0, 1, 2, "a4"),
	}, []impl.TreeNode{lies(1, 2, "a4"), lies(2, 0, "b3")}, stamp(2, 0))
	checkEveryOrder(t, "under what was to go below", []impl.MoveOp{
		move(1, 0, 1, 0, "a"), move(2, 0, 2, 1, "b"), move(3, 0, 1, 2, "x"), move(4, 0, 3, 1, "c"), move(5, 0, 2, 3, "b5"),
	}, []impl.TreeNode{lies(1, 0, "a"), lies(2, 3, "b5"), lies(3, 1, "c")}, stamp(3, 0))
	// Were 3 done, 1 would lie under 4, and 5 would make a ring.
	checkEveryOrder(t, "a ring by a skipped one", []impl.MoveOp{
		move(1, 0, 2, 1, "b"), move(2, 0, 4, 2, "d"), move(3, 0, 1, 4, "x"), move(4, 0, 2, 0, "b4"), move(5, 0, 4, 1, "d5"),
	}, []impl.TreeNode{lies(2, 0, "b4"), lies(4, 1, "d5")}, stamp(3, 0))
	// 3 is skipped, so 4 is skipped as well, and then 5 too.
	checkEveryOrder(t, "one after the other", []impl.MoveOp{
		move(1, 0, 2, 1, "b"), move(2, 0, 3, 2, "c"), move(3, 0, 1, 3, "x"), move(4, 0, 1, 2, "y"), move(5, 0, 2, 3, "z"),
	}, []impl.TreeNode{lies(2, 1, "b"), lies(3, 2, "c")}, stamp(3, 0), stamp(4, 0), stamp(5, 0))
	// A move of lesser Id that comes late lets the one that was done be skipped.
	without := []impl.MoveOp{move(1, 0, 1, 0, "a"), move(1, 1, 2, 0, "b"), move(5, 0, 1, 2, "a5")}
	checkEveryOrder(t, "without the late one", without, []impl.TreeNode{lies(1, 2, "a5"), lies(2, 0, "b")})
	checkEveryOrder(t, "with the late one", append(without, move(4, 0, 2, 1, "b4")), []impl.TreeNode{lies(1, 0, "a"), lies(2, 1, "b4")}, stamp(5, 0))
}

// A Parent that was never put anywhere lies away: that is no ring, unless it is the Node, or the move goes below itself.
func TestP8UnderWhatWasPutNowhere(t *testing.T) {
	checkEveryOrder(t, "never put", []impl.MoveOp{move(1, 0, 1, 9, "a"), move(2, 0, 2, 1, "b")}, []impl.TreeNode{lies(1, 9, "a"), lies(2, 1, "b")})
	ops := []impl.MoveOp{move(1, 0, 1, 9, "a"), move(2, 0, 2, 1, "b"), move(3, 0, 9, 2, "x")}
	checkEveryOrder(t, "below itself", ops, []impl.TreeNode{lies(1, 9, "a"), lies(2, 1, "b")}, stamp(3, 0))
	for _, node := range []int{1, 2, 9} {
		checkPath(t, ops, node, "", impl.ErrMissing)
	}
	ops = []impl.MoveOp{move(1, 0, 1, 9, "a"), move(2, 0, 2, 1, "b"), move(3, 0, 9, 0, "top")}
	checkEveryOrder(t, "put later", ops, []impl.TreeNode{lies(1, 9, "a"), lies(2, 1, "b"), lies(9, 0, "top")})
	checkPath(t, ops, 2, "/top/a/b", impl.OK)
	checkEveryOrder(t, "put away later", []impl.MoveOp{move(1, 0, 1, 9, "a"), move(2, 0, 9, -1, "top")}, []impl.TreeNode{lies(1, 9, "a"), lies(9, -1, "top")})
	checkEveryOrder(t, "put later, then below itself", append(ops, move(4, 0, 9, 2, "x")), []impl.TreeNode{lies(1, 9, "a"), lies(2, 1, "b"), lies(9, 0, "top")}, stamp(4, 0))
	checkEveryOrder(t, "two that were never put", []impl.MoveOp{move(1, 0, 1, 8, "a"), move(2, 0, 8, 9, "b"), move(3, 0, 9, 1, "x"), move(4, 0, 1, 9, "a4")},
		[]impl.TreeNode{lies(1, 9, "a4"), lies(8, 9, "b")}, stamp(3, 0))
	// One whose only move was skipped was put nowhere.
	ops = []impl.MoveOp{move(1, 0, 7, 7, "x"), move(2, 0, 1, 7, "a"), move(3, 0, 7, 1, "y")}
	checkEveryOrder(t, "only skipped", ops, []impl.TreeNode{lies(1, 7, "a")}, stamp(1, 0), stamp(3, 0))
	checkPath(t, ops, 7, "", impl.ErrMissing)
	checkPath(t, ops, 1, "", impl.ErrMissing)
	checkKids(t, ops, 7, 1)
}

// What is away keeps what lies under it, and rings are looked for there too.
func TestP8Away(t *testing.T) {
	ops := []impl.MoveOp{move(1, 0, 1, 0, "a"), move(2, 0, 2, 1, "b"), move(3, 0, 1, -1, "gone")}
	checkEveryOrder(t, "away", ops, []impl.TreeNode{lies(1, -1, "gone"), lies(2, 1, "b")})
	checkPath(t, ops, 1, "", impl.ErrMissing)
	checkPath(t, ops, 2, "", impl.ErrMissing)
	checkKids(t, ops, -1, 1)
	checkKids(t, ops, 0)
	checkKids(t, ops, 1, 2)
	checkEveryOrder(t, "below itself, away", append(slices.Clone(ops), move(4, 0, 1, 2, "x")), []impl.TreeNode{lies(1, -1, "gone"), lies(2, 1, "b")}, stamp(4, 0))
	back := append(slices.Clone(ops), move(4, 0, 1, 0, "again"))
	checkEveryOrder(t, "back", back, []impl.TreeNode{lies(1, 0, "again"), lies(2, 1, "b")})
	checkPath(t, back, 2, "/again/b", impl.OK)
	checkKids(t, back, -1)
	saved := append(slices.Clone(ops), move(4, 0, 2, 0, "saved"))
	checkEveryOrder(t, "what lay under it goes", saved, []impl.TreeNode{lies(1, -1, "gone"), lies(2, 0, "saved")})
	checkPath(t, saved, 2, "/saved", impl.OK)
	checkEveryOrder(t, "and takes it back", append(saved, move(5, 0, 1, 2, "in")), []impl.TreeNode{lies(1, 2, "in"), lies(2, 0, "saved")})
	checkEveryOrder(t, "away twice", append(slices.Clone(ops), move(4, 0, 1, -1, "x"), move(5, 0, 2, -1, "y")), []impl.TreeNode{lies(1, -1, "x"), lies(2, -1, "y")})
	checkEveryOrder(t, "never elsewhere", []impl.MoveOp{move(1, 0, 3, -1, "n")}, []impl.TreeNode{lies(3, -1, "n")})
	into := append(slices.Clone(ops), move(4, 0, 3, 2, "c"))
	checkEveryOrder(t, "under one that is away", into, []impl.TreeNode{lies(1, -1, "gone"), lies(2, 1, "b"), lies(3, 2, "c")})
	checkPath(t, into, 3, "", impl.ErrMissing)
}

// A move to where the node is already gives it another name.
func TestP8OtherNames(t *testing.T) {
	for _, parent := range []int{-1, 0, 2, 9} {
		ops := []impl.MoveOp{move(1, 0, 2, 0, "b"), move(2, 0, 1, parent, "old"), move(3, 0, 1, parent, "new"), move(4, 0, 1, parent, "")}
		checkEveryOrder(t, "without a name", ops, []impl.TreeNode{lies(1, parent, ""), lies(2, 0, "b")})
		checkEveryOrder(t, "the later name", ops[:3], []impl.TreeNode{lies(1, parent, "new"), lies(2, 0, "b")})
		checkEveryOrder(t, "the same name", append(ops[:3:3], move(5, 0, 1, parent, "new")), []impl.TreeNode{lies(1, parent, "new"), lies(2, 0, "b")})
	}
	// Two name it at the same time: the greater actor is the later one, whatever the names are.
	checkEveryOrder(t, "at the same time", []impl.MoveOp{move(1, 4, 1, 0, "z"), move(1, 5, 1, 0, "a")}, []impl.TreeNode{lies(1, 0, "a")})
	checkEveryOrder(t, "the time goes first", []impl.MoveOp{move(2, 4, 1, 0, "z"), move(1, 5, 1, 0, "a")}, []impl.TreeNode{lies(1, 0, "z")})
}

// All sequences of four moves of three nodes, with Ids that rise.
func TestP8EverySequence(t *testing.T) {
	var pool []impl.MoveOp
	for node := 1; node <= 3; node++ {
		for parent := -1; parent <= 3; parent++ {
			pool = append(pool, impl.MoveOp{Node: node, Parent: parent})
		}
	}
	skippedOnes := 0
	everyList(pool, 4, func(list []impl.MoveOp) {
		ops := slices.Clone(list)
		for i := range ops {
			ops[i].Id = stamp(1+i/2, i%2)
			ops[i].Name = string(rune('a' + i))
		}
		f, skipped := forestOf(ops)
		skippedOnes += len(skipped)
		checkTreeOf(t, "rising", ops, f, skipped...)
		slices.Reverse(ops)
		checkTreeOf(t, "falling", ops, f, skipped...)
		checkNoRings(t, ops)
	})
	if skippedOnes < 10000 {
		t.Errorf("only %d were skipped", skippedOnes)
	}
}

// All sequences of three moves of three nodes, in each order, with paths and kids.
func TestP8EverySequenceInEveryOrder(t *testing.T) {
	var pool []impl.MoveOp
	for node := 1; node <= 3; node++ {
		for _, parent := range []int{-1, 0, 1, 2, 3, 9} {
			pool = append(pool, impl.MoveOp{Node: node, Parent: parent})
		}
	}
	everyList(pool, 3, func(list []impl.MoveOp) {
		ops := slices.Clone(list)
		for i := range ops {
			ops[i].Id = stamp(1+i/2, i%2)
			ops[i].Name = []string{"b", "a", "b"}[i]
		}
		checkTree(t, ops)
		f, skipped := forestOf(ops)
		everyOrder(ops, func(ops []impl.MoveOp) { checkTreeOf(t, "in every order", ops, f, skipped...) })
	})
}

func TestP8AnyMoves(t *testing.T) {
	random := rand.New(rand.NewSource(18))
	for range 2500 {
		checkTree(t, anyMoves(random, 1+random.Intn(9), random.Intn(40)))
	}
	for range 10 {
		ops := anyMoves(random, 40, 500)
		f, skipped := forestOf(ops)
		checkTreeOf(t, "many", ops, f, skipped...)
		checkNoRings(t, ops)
	}
}

// Rings of many nodes: a line of all nodes, and its first one under its last one.
func TestP8LongRings(t *testing.T) {
	for _, size := range []int{100, impl.MaxNode} {
		line := chain(size, 4)
		var want []impl.TreeNode
		for i := range size {
			want = append(want, lies(i+1, i, "n"))
		}
		closing := move(size+1, 0, 1, size, "x")
		ops := append([]impl.MoveOp{closing}, line...)
		checkTreeOf(t, "closed at the end", ops, want, closing.Id)
		// The line but for its first move, which comes last: the one that closes goes ahead of it and is skipped.
		late := append(slices.Clone(line[1:]), move(size+1, 0, 1, size, "x"), move(size+2, 0, 1, 0, "n"))
		checkTreeOf(t, "closed ahead of the root", late, want, stamp(size+1, 0))
		slices.Reverse(late)
		checkTreeOf(t, "turned over", late, want, stamp(size+1, 0))
		// With a lesser Id it is the line's last move that closes the ring.
		early := append(slices.Clone(line[1:]), move(1, 0, 1, size, "x"))
		want[0] = lies(1, size, "x")
		checkTreeOf(t, "closed by the line", early, want[:size-1], stamp(size, 4))
	}
}
