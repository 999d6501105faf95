package tests

import (
	"math"
	"slices"
	"testing"

	"loop.example/g00028/impl"
)

// wrongOps are operations of which each has one fault by itself, beside a list that begins with {1, 0} and {2, 1}.
func wrongOps() map[string]impl.LOp {
	ops := map[string]impl.LOp{
		"all zero":                {},
		"no Kind":                 {Char: 'a', Id: stamp(5, 0)},
		"a Kind beyond":           {Kind: 3, Id: stamp(5, 0), At: stamp(1, 0)},
		"a Kind below":            {Kind: -1, Id: stamp(5, 0), At: stamp(1, 0)},
		"no Id":                   ins(0, 0, start(), 'a'),
		"an Id without a Time":    ins(0, 3, start(), 'a'),
		"an Id below":             ins(-1, 0, start(), 'a'),
		"an Id beyond MaxTime":    ins(impl.MaxTime+1, 0, start(), 'a'),
		"an Id of no actor":       ins(5, 16, start(), 'a'),
		"an Id of no actor below": ins(5, -1, start(), 'a'),
		"an At that is its Id":    ins(1, 0, stamp(1, 0), 'a'),
		"an At above its Id":      ins(1, 0, stamp(2, 1), 'a'),
		"an At just above":        ins(5, 0, stamp(5, 1), 'a'),
		"an At without a Time":    ins(5, 0, stamp(0, 1), 'a'),
		"an At below":             ins(5, 0, stamp(-1, 0), 'a'),
		"an At of no actor":       ins(5, 0, stamp(1, 16), 'a'),
		"an At of actor -1":       ins(5, 0, stamp(1, -1), 'a'),
		"an At of actor -1, none": ins(5, 0, stamp(0, -1), 'a'),
		"nothing taken away":      del(5, 0, start()),
		"itself taken away":       del(1, 0, stamp(1, 0)),
		"a later one taken away":  del(1, 1, stamp(2, 1)),
		"taken away, no Id":       del(0, 0, stamp(1, 0)),
		"taken away, At of none":  del(5, 0, stamp(1, 16)),
		"taken away with a Char":  {Kind: impl.LDel, Char: 'a', Id: stamp(5, 0), At: stamp(1, 0)},
		"taken away with Char -1": {Kind: impl.LDel, Char: -1, Id: stamp(5, 0), At: stamp(1, 0)},
		"taken away, far numbers": {Kind: impl.LDel, Char: math.MinInt, Id: stamp(math.MaxInt, math.MaxInt), At: stamp(math.MinInt, math.MinInt)},
	}
	return ops
}

func goodOps() []impl.LOp {
	return []impl.LOp{ins(1, 0, start(), 'a'), ins(2, 1, stamp(1, 0), 'b'), del(3, 0, stamp(2, 1))}
}

func TestP5WrongOperations(t *testing.T) {
	for name, op := range wrongOps() {
		t.Run(name, func(t *testing.T) {
			checkNoList(t, []impl.LOp{op}, impl.ErrBad)
			for at := range len(goodOps()) + 1 {
				checkNoList(t, slices.Insert(goodOps(), at, op), impl.ErrBad)
			}
		})
	}
}

// The last of what is still valid.
func TestP5ValidOperations(t *testing.T) {
	last := stamp(impl.MaxTime, 15)
	for _, ops := range [][]impl.LOp{
		{ins(1, 0, start(), 0)}, {ins(impl.MaxTime, 15, start(), 'a')}, {ins(impl.MaxTime, 14, start(), 'a'), ins(impl.MaxTime, 15, stamp(impl.MaxTime, 14), 'b')},
		{ins(1, 0, start(), 'a'), ins(1, 1, stamp(1, 0), 'b')}, {ins(1, 0, start(), 'a'), {Kind: impl.LDel, Id: last, At: stamp(1, 0)}},
	} {
		wantCode(t, "the last that is valid", listCode(ops), impl.OK)
		checkList(t, ops)
		checkMerge(t, ops, nil, once(ops), impl.OK)
	}
	checkNoList(t, []impl.LOp{ins(impl.MaxTime+1, 0, start(), 'a')}, impl.ErrBad)
}

func TestP5Forks(t *testing.T) {
	for name, twin := range map[string]impl.LOp{
		"another Char": ins(2, 1, stamp(1, 0), 'c'),
		"another At":   ins(2, 1, start(), 'b'),
		"another Kind": del(2, 1, stamp(1, 0)),
	} {
		t.Run(name, func(t *testing.T) {
			for at := range len(goodOps()) + 1 {
				checkNoList(t, slices.Insert(goodOps(), at, twin), impl.ErrFork)
				checkNoList(t, slices.Concat(goodOps(), goodOps(), []impl.LOp{twin}), impl.ErrFork)
			}
		})
	}
	alike := slices.Insert(goodOps(), 2, goodOps()[1])
	checkList(t, alike)
	checkText(t, "two alike", alike, "a")
	gone := append(goodOps(), goodOps()[2])
	checkList(t, gone)
	checkText(t, "two alike that take away", gone, "a")
}

func TestP5Causes(t *testing.T) {
	for name, ops := range map[string][]impl.LOp{
		"put behind none":                    {ins(2, 0, stamp(1, 0), 'a')},
		"none taken away":                    {del(2, 0, stamp(1, 0))},
		"put behind a taking away":           append(goodOps(), ins(4, 0, stamp(3, 0), 'c')),
		"a taking away taken away":           append(goodOps(), del(4, 0, stamp(3, 0))),
		"another actor's":                    append(goodOps(), ins(4, 0, stamp(1, 1), 'c')),
		"another Time":                       append(goodOps(), del(4, 0, stamp(2, 0))),
		"the one in the middle is not there": {ins(1, 0, start(), 'a'), ins(3, 0, stamp(2, 0), 'c')},
	} {
		t.Run(name, func(t *testing.T) {
			everyOrder(ops, func(ops []impl.LOp) { checkNoList(t, ops, impl.ErrCause) })
		})
	}
}

// Two faults at once, whichever comes first in the list: the one that the document names first is told.
func TestP5OrderOfCodes(t *testing.T) {
	fork := []impl.LOp{ins(8, 0, start(), 'a'), ins(8, 0, start(), 'b')}
	cause := []impl.LOp{ins(9, 0, stamp(7, 7), 'a')}
	bad := []impl.LOp{ins(0, 0, start(), 'a')}
	far := slices.Repeat([]impl.LOp{ins(1, 1, start(), 'a')}, impl.MaxOps)
	for _, c := range []struct {
		first, second []impl.LOp
		want          int
	}{
		{fork, cause, impl.ErrFork}, {bad, fork, impl.ErrBad}, {bad, cause, impl.ErrBad},
		{far, bad, impl.ErrLong}, {far, fork, impl.ErrLong}, {far, cause, impl.ErrLong},
	} {
		checkNoList(t, slices.Concat(c.first, c.second), c.want)
		checkNoList(t, slices.Concat(c.second, c.first), c.want)
		both := slices.Concat(c.first, c.second)
		slices.Reverse(both)
		checkNoList(t, both, c.want)
	}
	// A fault of the operations goes ahead of a place that is none.
	for _, n := range []int{-2, -1, 0, 5} {
		checkPlace(t, bad, n, start(), impl.ErrBad)
		checkPlace(t, cause, n, start(), impl.ErrCause)
	}
}
