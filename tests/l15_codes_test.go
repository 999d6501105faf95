package tests

import (
	"testing"

	"loop.example/g00028/impl"
)

func TestP17VectorsThatAreNone(t *testing.T) {
	for _, list := range [][]impl.AccessOp{nil, charter(), manyGifts(256, 16)} {
		for _, v := range wrongVectors() {
			checkRights(t, "no vector", list, v, nil, impl.ErrBad)
		}
		for size := range 16 {
			checkRights(t, "noughts left out", list, impl.Vector{Counts: vector().Counts[:size]}, nil, impl.ErrBad)
			checkRights(t, "noughts left out", list, impl.Vector{Counts: sizesOf(list).Counts[:size]}, nil, impl.ErrBad)
		}
		checkRights(t, "a count too many", list, impl.Vector{Counts: make([]int, 17)}, nil, impl.ErrBad)
	}
}

func TestP17VectorsThatCountTooMuch(t *testing.T) {
	for _, list := range [][]impl.AccessOp{nil, charter(), manyGifts(256, 16)} {
		sizes := sizesOf(list)
		for actor := range 16 {
			for _, n := range []int{sizes.Counts[actor] + 1, sizes.Counts[actor] + 2, 257, impl.MaxTime} {
				v := vector(sizes.Counts...)
				v.Counts[actor] = n
				checkRights(t, "more than there is", list, v, nil, impl.ErrCause)
				checkRights(t, "more than there is", list, vectorOf(actor, n), nil, impl.ErrCause)
			}
		}
		checkRights(t, "more of all", list, fullVector(impl.MaxTime), nil, impl.ErrCause)
	}
}

// A vector that counts an operation without what this one counts is no time.
func TestP17VectorsWithoutCauses(t *testing.T) {
	list := []impl.AccessOp{given(0, 1, 1, 7), given(0, 2, 2, 7), given(1, 1, 3, 7, 1), given(1, 2, 3, 7, 2), given(2, 1, 3, 7, 2, 2), given(3, 1, 4, 7)}
	for _, v := range []impl.Vector{
		vector(0, 1), vector(0, 2), vector(1, 2), vector(0, 0, 1), vector(2, 0, 1), vector(2, 1, 1), vector(1, 1, 1), vector(0, 2, 1), vector(1, 2, 1), vector(1, 2, 0, 1),
	} {
		checkRights(t, "without its causes", list, v, nil, impl.ErrCause)
	}
	for _, v := range []impl.Vector{
		vector(), vector(1), vector(2), vector(1, 1), vector(2, 1), vector(2, 2), vector(2, 2, 1), vector(0, 0, 0, 1), vector(1, 0, 0, 1), vector(2, 2, 1, 1),
	} {
		if code, _ := checkAccess(t, "with its causes", list, v); code != impl.OK {
			t.Errorf("%v: code %d", v.Counts, code)
		}
	}
	// What comes from behind in the list is a cause as well.
	list = []impl.AccessOp{given(0, 1, 1, 7, 0, 1, 1), given(1, 1, 2, 7, 0, 0, 1), given(2, 1, 2, 7)}
	for _, v := range []impl.Vector{vector(1), vector(0, 1), vector(1, 1), vector(1, 0, 1)} {
		checkRights(t, "without its causes", list, v, nil, impl.ErrCause)
	}
	checkCourt(t, "from behind", list)
	// What holds nowhere has causes too.
	list = []impl.AccessOp{given(0, 1, 1, 3), given(1, 1, 2, 7, 1), taken(2, 1, 1, 1, 1, 1)}
	checkVoids(t, "two that hold nowhere", list, stamp(1, 1), stamp(1, 2))
	for _, v := range []impl.Vector{vector(0, 1), vector(0, 0, 1), vector(1, 0, 1), vector(0, 1, 1)} {
		checkRights(t, "without its causes", list, v, nil, impl.ErrCause)
	}
	checkCourt(t, "that hold nowhere", list)
}

func TestP17BadGoesAheadOfCause(t *testing.T) {
	for what, list := range map[string][]impl.AccessOp{
		"no actor":      {given(16, 1, 1, 7)},
		"no Seq":        {given(0, 2, 1, 7)},
		"no Kind":       {accessWith(given(0, 1, 1, 7), func(op *impl.AccessOp) { op.Kind = 0 })},
		"no Rights":     {given(0, 1, 1, 0)},
		"the last one":  append(charter(), given(15, 2, 1, 8)),
		"too many":      manyGifts(257, 3),
		"without cause": {given(0, 1, 1, 7), given(1, 1, 2, 7, 1), given(2, 1, 3, 7, 0, 1)},
		"a ring":        {given(0, 1, 1, 7, 0, 1), given(1, 1, 2, 7, 1)},
	} {
		checkRights(t, what+", a vector of what is not there", list, fullVector(900), nil, impl.ErrBad)
		checkRights(t, what+", a vector without causes", list, vectorOf(1, 1), nil, impl.ErrBad)
		checkRights(t, what+", no vector", list, impl.Vector{}, nil, impl.ErrBad)
		checkBadAccess(t, what, list)
	}
	// A vector that is none and counts too much.
	v := fullVector(900)
	v.Counts[3] = -1
	checkRights(t, "no vector that counts too much", charter(), v, nil, impl.ErrBad)
	v.Counts = append(fullVector(900).Counts, 0)
	checkRights(t, "no vector that counts too much", charter(), v, nil, impl.ErrBad)
}
