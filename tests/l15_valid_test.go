package tests

import (
	"fmt"
	"math"
	"slices"
	"testing"

	"loop.example/g00028/impl"
)

// charter is a valid list: actor 0 gives 1 all, 1 gives 3 and 15 something, 3 takes what 15 got, and 15 gives 0 back.
func charter() []impl.AccessOp {
	return []impl.AccessOp{
		given(0, 1, 1, 7),
		given(1, 1, 3, 6, 1), given(1, 2, 15, 5, 1),
		taken(3, 1, 1, 2, 1, 2), given(3, 2, 3, 1, 1, 2),
		given(15, 1, 0, 4, 1, 2),
	}
}

func TestP17Charter(t *testing.T) {
	checkHas(t, "nothing", charter(), vector())
	checkHas(t, "the first one", charter(), vector(1), 7)
	checkHas(t, "two gifts", charter(), vector(1, 1), 7, 0, 6)
	checkHas(t, "all but what is taken", charter(), vector(1, 2, 0, 2, 0, 0, 0, 0, 0, 0, 0, 0, 0, 0, 0, 1), 7, 0, 6)
	checkHas(t, "what is not taken yet", charter(), vector(1, 2), 7, 0, 6, 0, 0, 0, 0, 0, 0, 0, 0, 0, 0, 0, 5)
	checkVoids(t, "all hold", charter())
	checkCourt(t, "the charter", charter())
}

func TestP17AccessLimits(t *testing.T) {
	for what, pair := range map[string][2]int{
		"MaxAccess": {impl.MaxAccess, 256}, "MayRead": {impl.MayRead, 1}, "MayWrite": {impl.MayWrite, 2}, "MayGive": {impl.MayGive, 4}, "AGive": {impl.AGive, 1}, "ATake": {impl.ATake, 2},
	} {
		if pair[0] != pair[1] {
			t.Errorf("%s is %d, want %d", what, pair[0], pair[1])
		}
	}
}

func TestP17NoOperations(t *testing.T) {
	for _, list := range [][]impl.AccessOp{nil, {}} {
		checkHas(t, "no operations", list, vector())
		checkVoids(t, "no operations", list)
		checkRights(t, "no operations, one counted", list, vector(1), nil, impl.ErrCause)
		checkRights(t, "no operations, one counted", list, vectorOf(15, 1), nil, impl.ErrCause)
	}
}

// manyGifts are so many gifts of actor 0, to the actors in turn, or those of several, one behind the other.
func manyGifts(size, actors int) []impl.AccessOp {
	b := &book{}
	for i := range size {
		b.gives(i%actors, (i+1)%16, 7)
		b.tells(i%actors, (i+1)%actors)
	}
	return b.list()
}

func TestP17MaxAccess(t *testing.T) {
	for _, actors := range []int{1, 2, 7, 16} {
		for _, size := range []int{1, 255, 256} {
			list := manyGifts(size, actors)
			checkGoodAccess(t, fmt.Sprint(size, " operations"), list)
			if got, code := impl.RightsAt(list, sizesOf(list)); code != impl.OK || size > 250 && !slices.Equal(got, slices.Repeat([]int{7}, 16)) {
				t.Errorf("%d operations: %v, code %d", size, got, code)
			}
		}
		for _, size := range []int{257, 300, 1025} {
			checkBadAccess(t, fmt.Sprint(size, " operations"), manyGifts(size, actors))
		}
	}
	// Every second one takes back the one ahead.
	b := &book{}
	for i := range 128 {
		b.takes(0, 0, b.gives(0, 1+i%15, 7))
	}
	checkGoodAccess(t, "given and taken", b.list())
	checkHas(t, "given and taken", b.list(), vector(256))
	checkHas(t, "given and taken, but the last one", b.list(), vector(255), 0, 0, 0, 0, 0, 0, 0, 7)
	checkRights(t, "one more", b.list(), vector(257), nil, impl.ErrCause)
	b.gives(0, 1, 1)
	checkBadAccess(t, "one more", b.list())
}

func TestP17ActorsOfOperations(t *testing.T) {
	for actor := range 16 {
		checkGoodAccess(t, fmt.Sprint("an AGive of ", actor), []impl.AccessOp{given(actor, 1, 1, 7)})
		checkGoodAccess(t, fmt.Sprint("an ATake of ", actor), []impl.AccessOp{taken(actor, 1, 1, 1)})
	}
	for _, actor := range noActors() {
		checkBadAccess(t, fmt.Sprint("an AGive of ", actor), []impl.AccessOp{given(actor, 1, 1, 7)})
		checkBadAccess(t, fmt.Sprint("an ATake of ", actor), []impl.AccessOp{taken(actor, 1, 1, 1)})
		for i := range charter() {
			checkBadAccess(t, "in the charter", accessListWith(charter(), i, func(op *impl.AccessOp) { op.Actor = actor }))
		}
	}
}

func TestP17ActorsRise(t *testing.T) {
	everyOrder(charter(), func(list []impl.AccessOp) {
		if sameAccess(list, charter()) {
			checkGoodAccess(t, "in order", list)
		} else {
			checkBadAccess(t, "out of order", list)
		}
	})
	checkBadAccess(t, "1 ahead of 0", []impl.AccessOp{given(1, 1, 2, 7), given(0, 1, 2, 7)})
	checkBadAccess(t, "15 ahead of 14", []impl.AccessOp{given(15, 1, 2, 7), given(14, 1, 2, 7)})
	checkBadAccess(t, "1 goes on behind 2", []impl.AccessOp{given(1, 1, 2, 7), given(2, 1, 2, 7), given(1, 2, 2, 7)})
	checkGoodAccess(t, "some are left out", []impl.AccessOp{given(0, 1, 2, 7), given(7, 1, 2, 7), given(15, 1, 2, 7)})
}

func TestP17SeqsOfOperations(t *testing.T) {
	for _, actor := range []int{0, 1, 15} {
		for what, seqs := range map[string][]int{
			"0": {0}, "-1": {-1}, "0 and 1": {0, 1}, "1 twice": {1, 1}, "2 twice": {1, 2, 2}, "a gap": {1, 3}, "a later gap": {1, 2, 4}, "the first one is 2": {2}, "2 and 3": {2, 3},
			"falling": {2, 1}, "the least": {math.MinInt}, "the greatest": {math.MaxInt}, "MaxTime": {impl.MaxTime}, "MaxTime and one": {impl.MaxTime + 1}, "256 ahead of all": {256, 1},
		} {
			var list []impl.AccessOp
			for _, seq := range seqs {
				list = append(list, given(actor, seq, 2, 7))
			}
			checkBadAccess(t, "Seq "+what, list)
			if actor != 0 {
				checkBadAccess(t, "Seq "+what+", behind another actor", append([]impl.AccessOp{given(0, 1, 9, 7)}, list...))
			}
		}
		checkGoodAccess(t, "1, 2, 3", []impl.AccessOp{given(actor, 1, 2, 7), taken(actor, 2, actor, 1), given(actor, 3, 2, 7)})
	}
	for i := range charter() {
		for _, seq := range []int{-1, 0, 3, 4, math.MinInt, math.MaxInt} {
			checkBadAccess(t, "in the charter", accessListWith(charter(), i, func(op *impl.AccessOp) { op.Seq = seq }))
		}
		// An operation that is left out leaves a gap, or is counted, but the last one of its actor that nobody counts.
		less := slices.Delete(charter(), i, i+1)
		if i == 4 || i == 5 {
			checkGoodAccess(t, "without one", less)
		} else {
			checkBadAccess(t, "without one", less)
		}
	}
}

func TestP17DepsThatAreNoVectors(t *testing.T) {
	for i, op := range charter() {
		for _, v := range wrongVectors() {
			checkBadAccess(t, "no vector", accessListWith(charter(), i, func(op *impl.AccessOp) { op.Deps = v }))
		}
		for size := range 16 {
			checkBadAccess(t, "noughts left out", accessListWith(charter(), i, func(op *impl.AccessOp) { op.Deps.Counts = op.Deps.Counts[:size] }))
		}
		checkBadAccess(t, "a count too many", accessListWith(charter(), i, func(op *impl.AccessOp) { op.Deps.Counts = append(op.Deps.Counts, 0) }))
		for actor := range 16 {
			for _, n := range []int{-1, math.MinInt, impl.MaxTime, impl.MaxTime + 1, math.MaxInt} {
				checkBadAccess(t, "a count that is none", accessListWith(charter(), i, func(op *impl.AccessOp) { op.Deps.Counts[actor] = n }))
			}
		}
		for n := range 5 {
			if n != op.Seq-1 {
				checkBadAccess(t, "not Seq - 1 for Actor", accessListWith(charter(), i, func(op *impl.AccessOp) { op.Deps.Counts[op.Actor] = n }))
			}
		}
	}
}

func TestP17DepsOfWhatIsNotThere(t *testing.T) {
	for i := range charter() {
		for actor := range 16 {
			sizes := sizesOf(charter())
			checkBadAccess(t, "one more than there are", accessListWith(charter(), i, func(op *impl.AccessOp) { op.Deps.Counts[actor] = sizes.Counts[actor] + 1 }))
		}
	}
	checkBadAccess(t, "the only one counts another actor's", []impl.AccessOp{given(1, 1, 2, 7, 1)})
	checkBadAccess(t, "two where one is", []impl.AccessOp{given(0, 1, 1, 7), given(1, 1, 2, 7, 2)})
	checkGoodAccess(t, "one where one is", []impl.AccessOp{given(0, 1, 1, 7), given(1, 1, 2, 7, 1)})
	checkGoodAccess(t, "one that stands behind it", []impl.AccessOp{given(0, 1, 1, 7, 0, 1), given(1, 1, 2, 7)})
	checkGoodAccess(t, "all of sixteen", manyGifts(256, 16))
	checkBadAccess(t, "more than there are of sixteen", accessListWith(manyGifts(256, 16), 255, func(op *impl.AccessOp) { op.Deps.Counts[0] = 17 }))
}

// All that an operation counts, counts nothing that it does not count too.
func TestP17DepsWithoutTheirCauses(t *testing.T) {
	for what, list := range map[string][]impl.AccessOp{
		"the first one":                 {given(0, 1, 1, 7), given(1, 1, 2, 7, 1), given(2, 1, 3, 7, 0, 1)},
		"an own one":                    {given(0, 1, 1, 7), given(1, 1, 2, 7, 1), given(1, 2, 2, 7)},
		"one of two":                    {given(0, 1, 1, 7), given(0, 2, 1, 7), given(1, 1, 2, 7, 2), given(2, 1, 3, 7, 1, 1)},
		"of one that is not the last":   {given(0, 1, 1, 7), given(1, 1, 2, 7, 1), given(1, 2, 2, 7, 1), given(2, 1, 3, 7, 0, 2)},
		"behind it in the list":         {given(0, 1, 1, 7, 0, 1), given(1, 1, 2, 7, 0, 0, 1), given(2, 1, 2, 7)},
		"the last actor's":              {given(0, 1, 1, 7, 0, 1), given(1, 1, 2, 7, 0, 0, 0, 0, 0, 0, 0, 0, 0, 0, 0, 0, 0, 0, 0, 1), given(15, 1, 2, 7)},
		"far behind":                    {given(0, 1, 1, 7), given(1, 1, 2, 7, 1), given(2, 1, 2, 7, 1, 1), given(3, 1, 2, 7, 0, 1, 1)},
		"one forgot what it knew":       {given(0, 1, 1, 7), given(0, 2, 1, 7, 0, 1), given(0, 3, 1, 7), given(1, 1, 2, 7)},
		"one forgot a part":             {given(0, 1, 1, 7, 0, 2), given(0, 2, 1, 7, 0, 1), given(1, 1, 2, 7), given(1, 2, 2, 7)},
		"of an ATake":                   {given(0, 1, 1, 7), taken(1, 1, 0, 1, 1), taken(2, 1, 0, 1, 0, 1)},
		"of an ATake that holds not":    {given(0, 1, 1, 7), taken(1, 1, 0, 9, 1), taken(2, 1, 0, 9, 0, 1)},
		"only one operation goes wrong": append(charter(), taken(15, 2, 1, 2, 1, 0, 0, 1)),
	} {
		checkBadAccess(t, what, list)
	}
	checkGoodAccess(t, "with its cause", []impl.AccessOp{given(0, 1, 1, 7), given(1, 1, 2, 7, 1), given(2, 1, 3, 7, 1, 1)})
	checkGoodAccess(t, "with both", []impl.AccessOp{given(0, 1, 1, 7), given(0, 2, 1, 7), given(1, 1, 2, 7, 2), given(2, 1, 3, 7, 2, 1)})
	checkGoodAccess(t, "all behind it in the list", []impl.AccessOp{given(0, 1, 1, 7, 0, 1, 1), given(1, 1, 2, 7, 0, 0, 1), given(2, 1, 2, 7)})
}

func TestP17OperationsThatCountEachOther(t *testing.T) {
	for what, list := range map[string][]impl.AccessOp{
		"two":                           {given(0, 1, 1, 7, 0, 1), given(1, 1, 2, 7, 1)},
		"two, one of them a later one":  {given(0, 1, 1, 7), given(0, 2, 1, 7, 0, 1), given(1, 1, 2, 7, 2)},
		"two that take":                 {taken(0, 1, 1, 1, 0, 1), taken(1, 1, 0, 1, 1)},
		"two of the last actors":        {given(14, 1, 1, 7, 0, 0, 0, 0, 0, 0, 0, 0, 0, 0, 0, 0, 0, 0, 0, 1), given(15, 1, 2, 7, 0, 0, 0, 0, 0, 0, 0, 0, 0, 0, 0, 0, 0, 0, 1)},
		"a ring of three":               {given(0, 1, 1, 7, 0, 1), given(1, 1, 2, 7, 0, 0, 1), given(2, 1, 2, 7, 1)},
		"a ring of three, all counted":  {given(0, 1, 1, 7, 0, 1, 1), given(1, 1, 2, 7, 1, 0, 1), given(2, 1, 2, 7, 1, 1)},
		"a ring of three, two of each":  {given(0, 1, 1, 7, 0, 1), given(0, 2, 1, 7, 0, 1), given(1, 1, 2, 7, 0, 0, 1), given(2, 1, 2, 7, 1)},
		"a ring of four":                {given(0, 1, 1, 7, 0, 1), given(1, 1, 2, 7, 0, 0, 1), given(2, 1, 2, 7, 0, 0, 0, 1), given(3, 1, 2, 7, 1)},
		"each counts all others' first": {given(0, 1, 1, 7, 0, 1, 1, 1), given(1, 1, 1, 7, 1, 0, 1, 1), given(2, 1, 1, 7, 1, 1, 0, 1), given(3, 1, 1, 7, 1, 1, 1)},
		"by the way of a later one":     {given(0, 1, 1, 7), given(0, 2, 1, 7, 0, 2), given(1, 1, 1, 7), given(1, 2, 1, 7, 2)},
	} {
		checkBadAccess(t, what, list)
	}
	checkGoodAccess(t, "side by side", []impl.AccessOp{given(0, 1, 1, 7), given(0, 2, 1, 7, 0, 1), given(1, 1, 1, 7), given(1, 2, 1, 7, 1)})
}

// Each Deps of three operations with counts of 0 to 2 of three actors, held against each operation.
func TestP17EachDepsOfThree(t *testing.T) {
	var all []impl.Vector
	everyVector(vector(2, 2, 2), func(v impl.Vector) { all = append(all, v) })
	good := 0
	for _, first := range all {
		for _, second := range all {
			for _, third := range all {
				list := []impl.AccessOp{given(0, 1, 1, 7), given(1, 1, 2, 7), taken(2, 1, 1, 1)}
				list[0].Deps, list[1].Deps, list[2].Deps = first, second, third
				code, _ := checkAccess(t, "three", list, vector())
				if code == impl.OK {
					good++
				}
			}
		}
	}
	// So many ways are there to know of each other without rings.
	if good != 19 {
		t.Errorf("%d are valid", good)
	}
}

func TestP17KindsOfAccess(t *testing.T) {
	for _, kind := range []int{math.MinInt, -1, 0, 3, 4, 256 + impl.AGive, 256 + impl.ATake, math.MaxInt} {
		for i := range charter() {
			checkBadAccess(t, fmt.Sprint("Kind ", kind), accessListWith(charter(), i, func(op *impl.AccessOp) { op.Kind = kind }))
		}
		checkBadAccess(t, "nothing but a Kind", []impl.AccessOp{{Seq: 1, Deps: vector(), Kind: kind}})
	}
	checkBadAccess(t, "nothing at all", []impl.AccessOp{{}})
	checkBadAccess(t, "an AGive as an ATake", accessListWith(charter(), 0, func(op *impl.AccessOp) { op.Kind = impl.ATake }))
	checkBadAccess(t, "an ATake as an AGive", accessListWith(charter(), 3, func(op *impl.AccessOp) { op.Kind = impl.AGive }))
}

func TestP17FieldsOfAGive(t *testing.T) {
	for _, actor := range []int{0, 1, 15} {
		for to := range 16 {
			for rights := 1; rights <= 7; rights++ {
				list := []impl.AccessOp{given(actor, 1, to, rights)}
				checkGoodAccess(t, fmt.Sprint("of ", actor, " to ", to), list)
				if actor == 0 && to != 0 {
					want := vectorOf(to, rights).Counts
					checkHas(t, "of actor 0", list, sizesOf(list), want[1:]...)
				}
			}
		}
		for _, to := range noActors() {
			checkBadAccess(t, fmt.Sprint("to ", to), []impl.AccessOp{given(actor, 1, to, 7)})
		}
		for _, rights := range []int{math.MinInt, -8, -7, -1, 0, 8, 9, 15, 16, 256 + 7, impl.MaxTime, math.MaxInt} {
			checkBadAccess(t, fmt.Sprint("Rights ", rights), []impl.AccessOp{given(actor, 1, 2, rights)})
		}
		for _, of := range []int{math.MinInt, -1, 1, 2, math.MaxInt} {
			list := []impl.AccessOp{given(actor, 1, 2, 7), given(actor, 2, 2, 7)}
			checkBadAccess(t, fmt.Sprint("Of ", of), accessListWith(list, 1, func(op *impl.AccessOp) { op.Of = of }))
		}
	}
}

func TestP17FieldsOfATake(t *testing.T) {
	for i, list := range [][]impl.AccessOp{{given(0, 1, 1, 7), taken(0, 2, 0, 1), given(0, 3, 2, 7)}, append(charter(), taken(15, 2, 1, 2, 1, 2))} {
		place := []int{1, 6}[i]
		checkGoodAccess(t, "as it is", list)
		for to := range 16 {
			checkGoodAccess(t, fmt.Sprint("of ", to), accessListWith(list, place, func(op *impl.AccessOp) { op.To = to }))
		}
		for _, to := range noActors() {
			checkBadAccess(t, fmt.Sprint("of ", to), accessListWith(list, place, func(op *impl.AccessOp) { op.To = to }))
		}
		for _, rights := range []int{math.MinInt, -1, 1, 2, 4, 7, 8, math.MaxInt} {
			checkBadAccess(t, fmt.Sprint("Rights ", rights), accessListWith(list, place, func(op *impl.AccessOp) { op.Rights = rights }))
		}
		for _, of := range []int{1, 2, 3, 4, 255, 256, 257, impl.MaxTime, impl.MaxTime + 1, math.MaxInt} {
			checkGoodAccess(t, fmt.Sprint("Of ", of), accessListWith(list, place, func(op *impl.AccessOp) { op.Of = of }))
		}
		for _, of := range []int{0, -1, -2, math.MinInt} {
			checkBadAccess(t, fmt.Sprint("Of ", of), accessListWith(list, place, func(op *impl.AccessOp) { op.Of = of }))
		}
	}
}
