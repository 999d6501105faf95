package tests

import (
	"strings"
	"testing"

	"loop.example/g00028/impl"
)

func TestP8Paths(t *testing.T) {
	ops := []impl.MoveOp{
		move(1, 0, 1, 0, "a"), move(2, 0, 2, 1, ""), move(3, 0, 3, 2, "c/d"), move(4, 0, 4, 3, "/"), move(5, 0, 5, 0, ""),
		move(6, 0, 6, -1, "f"), move(7, 0, 7, 6, "g"), move(8, 0, 8, 7, "h"), move(9, 0, 10, 9, "i"), move(10, 0, 11, 10, "j"),
		move(11, 0, 1000, 1, "\xff\x00"), move(12, 0, 12, 1, "a"),
	}
	for node, want := range map[int]string{1: "/a", 2: "/a/", 3: "/a//c/d", 4: "/a//c/d//", 5: "/", 12: "/a/a", 1000: "/a/\xff\x00"} {
		checkPath(t, ops, node, want, impl.OK)
	}
	// Away, below what is away, put nowhere, below what was put nowhere, and what is no node.
	for _, node := range append(edgeNodes(), 6, 7, 8, 9, 10, 11, 13, 999, 1<<32+1) {
		if node != 1 && node != 1000 {
			checkPath(t, ops, node, "", impl.ErrMissing)
		}
	}
	checkTree(t, ops)
}

// The numbers of the root and of what is away are no nodes, whatever lies there.
func TestP8NoPathOfTheRoot(t *testing.T) {
	for _, parent := range []int{-1, 0} {
		ops := []impl.MoveOp{move(1, 0, 1, parent, "a")}
		checkPath(t, ops, 0, "", impl.ErrMissing)
		checkPath(t, ops, -1, "", impl.ErrMissing)
	}
}

func TestP8LongPath(t *testing.T) {
	var ops []impl.MoveOp
	name := letters(impl.MaxWord)
	for i := range impl.MaxNode {
		ops = append(ops, move(i+1, 0, i+1, i, name))
	}
	checkPath(t, ops, impl.MaxNode, strings.Repeat("/"+name, impl.MaxNode), impl.OK)
	checkPath(t, ops, impl.MaxNode/2, strings.Repeat("/"+name, impl.MaxNode/2), impl.OK)
	// One move takes all of it away, and another one brings all back.
	ops = append(ops, move(impl.MaxNode+1, 0, 1, -1, "x"))
	checkPath(t, ops, impl.MaxNode, "", impl.ErrMissing)
	ops = append(ops, move(impl.MaxNode+2, 0, 1, 0, ""))
	checkPath(t, ops, impl.MaxNode, "/"+strings.Repeat("/"+name, impl.MaxNode-1), impl.OK)
}

func TestP8Kids(t *testing.T) {
	ops := []impl.MoveOp{
		move(1, 0, 9, 0, "a"), move(2, 0, 8, 0, "b"), move(3, 0, 7, 0, ""), move(4, 0, 6, 0, "B"), move(5, 0, 5, 0, "ab"),
		move(6, 0, 4, 0, "a"), move(7, 0, 3, 0, "\xff"), move(8, 0, 2, 0, "\u00e9"), move(9, 0, 1, 0, "a"), move(10, 0, 10, 0, "a\x00"),
		move(11, 0, 20, -1, "z"), move(12, 0, 21, -1, "y"), move(13, 0, 22, -1, "y"), move(14, 0, 30, 20, "k"), move(15, 0, 31, 500, "m"), move(16, 0, 32, 500, "l"),
	}
	checkKids(t, ops, 0, 7, 6, 1, 4, 9, 10, 5, 8, 2, 3)
	checkKids(t, ops, -1, 21, 22, 20)
	checkKids(t, ops, 20, 30)
	checkKids(t, ops, 500, 32, 31)
	for _, node := range append(edgeNodes(), 30, 31, 499, 1<<32, 1<<32-1) {
		if node != 0 && node != -1 {
			checkKids(t, ops, node)
		}
	}
	checkTree(t, ops)
}

// Kids are told by where they are in the end alone.
func TestP8KidsThatMoved(t *testing.T) {
	ops := []impl.MoveOp{
		move(1, 0, 1, 0, "a"), move(2, 0, 2, 0, "b"), move(3, 0, 3, 1, "x"), move(4, 0, 4, 1, "y"), move(5, 0, 3, 2, "x"), move(6, 0, 4, 1, "w"), move(7, 0, 5, 1, "x"), move(8, 0, 1, 5, "no"),
	}
	checkKids(t, ops, 1, 4, 5)
	checkKids(t, ops, 2, 3)
	checkKids(t, ops, 0, 1, 2)
	checkKids(t, ops, 5)
}

func TestP8ManyKids(t *testing.T) {
	var ops []impl.MoveOp
	var alike, falling []int
	for i := range impl.MaxNode {
		ops = append(ops, move(i+1, 0, i+1, 0, "same"))
		alike = append(alike, i+1)
		falling = append(falling, impl.MaxNode-i)
	}
	checkKids(t, ops, 0, alike...)
	for i := range impl.MaxNode {
		ops = append(ops, move(2000+i, 0, i+1, -1, string(rune(30000-i))))
	}
	checkKids(t, ops, 0)
	checkKids(t, ops, -1, falling...)
}
