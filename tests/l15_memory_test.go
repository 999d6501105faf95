package tests

import (
	"math"
	"math/rand"
	"slices"
	"sync"
	"testing"

	"loop.example/g00028/impl"
)

// watchedAccess copies operations into memory that goes on behind their end, and behind the end of each Deps. The check
// tells whether all of it is as it was.
func watchedAccess(t *testing.T, list []impl.AccessOp) ([]impl.AccessOp, func()) {
	t.Helper()
	whole := copyAccess(list)
	for i := range spare {
		whole = append(whole, given(15, 900+i, 1, 7))
	}
	var checks []func()
	for i := range whole {
		counts, check := watched(t, whole[i].Deps.Counts, 77)
		whole[i].Deps.Counts = counts
		checks = append(checks, check)
	}
	before := slices.Clone(whole)
	check := func() {
		t.Helper()
		if !sameAccess(whole, before) {
			t.Errorf("a list was written into, or behind its end: %s", brief(list))
		}
		for _, check := range checks {
			check()
		}
	}
	return whole[:len(list)], check
}

// An accessCase is a list and a vector, that fit or not.
type accessCase struct {
	list []impl.AccessOp
	v    impl.Vector
}

func accessCases() []accessCase {
	random := rand.New(rand.NewSource(157))
	cases := []accessCase{
		{nil, vector()}, {nil, vector(1)}, {nil, impl.Vector{}}, {charter(), vector()}, {charter(), sizesOf(charter())}, {charter(), vector(1, 1)}, {charter(), vector(0, 1)},
		{charter(), fullVector(9)}, {charter(), impl.Vector{}}, {charter(), fullVector(-1)}, {manyGifts(256, 16), fullVector(16)}, {manyGifts(256, 1), vector(256)}, {manyGifts(257, 1), vector(257)},
		{charter()[1:], vector()}, {slices.Repeat(charter(), 2), vector()}, {make([]impl.AccessOp, 3), vector()},
	}
	for range 30 {
		actors := someActors(random, 2+random.Intn(6))
		b := someBook(random, actors, 1+random.Intn(30))
		cases = append(cases, accessCase{b.list(), b.now()}, accessCase{b.list(), b.someTime(random, actors)}, accessCase{spoilt(random, b.list()), b.now()})
	}
	return cases
}

func TestP1AccessIsNotWrittenInto(t *testing.T) {
	for _, c := range accessCases() {
		list, checkList := watchedAccess(t, c.list)
		counts, checkVector := watched(t, c.v.Counts, 77)
		checkAccess(t, "watched", list, impl.Vector{Counts: counts})
		checkList()
		checkVector()
	}
}

// What lies behind the end of an argument, in the same memory, is not a part of it.
func TestP1AccessBehindTheEnd(t *testing.T) {
	whole := charter()
	for end := range len(whole) + 1 {
		for i := range 16 {
			counts := append(slices.Clone(sizesOf(whole[:end]).Counts), 5, 6, 7)
			checkAccess(t, "a beginning", whole[:end], impl.Vector{Counts: counts[:i+1]})
		}
	}
	list := manyGifts(300, 1)
	checkGoodAccess(t, "256 of 300", list[:256])
	checkBadAccess(t, "257 of 300", list[:257])
}

// Operations may share one memory for their Deps, with each other and with the vector that is asked for.
func TestP1AccessThatSharesMemory(t *testing.T) {
	one := vector(1)
	list := []impl.AccessOp{given(0, 1, 1, 7), given(1, 1, 2, 3), given(2, 1, 3, 1), given(3, 1, 0, 1)}
	for i := range list[1:] {
		list[i+1].Deps = one
	}
	checkHas(t, "one memory", list, one, 7)
	checkHas(t, "one memory", list, vector(1, 1, 1, 1), 7, 3)
	checkVoids(t, "one memory", list, stamp(1, 2), stamp(1, 3))
	has, _ := impl.RightsAt(list, one)
	scribble(has, 9)
	checkHas(t, "one memory, written over", list, one, 7)
}

// What is answered shares no memory with an argument, nor with another answer; written over, it is answered again.
func TestP1AnsweredRightsAreNew(t *testing.T) {
	told := 0
	for _, c := range accessCases() {
		list, checkList := watchedAccess(t, c.list)
		counts, checkVector := watched(t, c.v.Counts, 77)
		v := impl.Vector{Counts: counts}
		first, code := impl.RightsAt(list, v)
		zeroWithCode(t, first, code)
		kept := slices.Clone(first)
		told += len(first)
		other, _ := impl.RightsAt(list, v)
		scribble(first, -9)
		checkList()
		checkVector()
		checkRights(t, "called again", list, v, kept, code)
		for i := range list {
			scribble(list[i].Deps.Counts, -9)
			list[i] = impl.AccessOp{}
		}
		scribble(counts, -9)
		if !slices.Equal(other, kept) {
			t.Errorf("%v, was %v", other, kept)
		}
	}
	if told < 500 {
		t.Errorf("only %d numbers were told", told)
	}
}

func TestP1AnsweredVoidsAreNew(t *testing.T) {
	told := 0
	for _, c := range accessCases() {
		list, check := watchedAccess(t, c.list)
		first, code := impl.Void(list)
		zeroWithCode(t, first, code)
		kept := slices.Clone(first)
		told += len(first)
		other, _ := impl.Void(list)
		scribble(first, stamp(-9, -9))
		check()
		checkVoid(t, "called again", list, kept, code)
		for i := range list {
			scribble(list[i].Deps.Counts, -9)
			list[i] = impl.AccessOp{}
		}
		if !slices.Equal(other, kept) {
			t.Errorf("%v, was %v", other, kept)
		}
	}
	if told < 100 {
		t.Errorf("only %d operations were told", told)
	}
}

// Nothing is kept from call to call, also with many at once.
func TestP1AccessKeepsNothing(t *testing.T) {
	cases := accessCases()
	for range 2 {
		for _, c := range cases {
			checkAccess(t, "behind others", c.list, c.v)
			checkRights(t, "behind others", nil, vector(), vector(7).Counts, impl.OK)
			checkRights(t, "behind others", charter(), vector(1), vector(7, 7).Counts, impl.OK)
		}
	}
	var all sync.WaitGroup
	for range 4 {
		for _, c := range cases {
			all.Add(1)
			go func() {
				defer all.Done()
				checkAccess(t, "at once", c.list, c.v)
			}()
		}
	}
	all.Wait()
}

func anyClaim(random *rand.Rand) impl.AccessOp {
	numbers := []int{math.MinInt, -1, 0, 0, 0, 1, 1, 1, 1, 2, 2, 3, 7, 8, 15, 16, impl.MaxTime, math.MaxInt}
	n := func() int { return numbers[random.Intn(len(numbers))] }
	op := impl.AccessOp{Actor: n(), Seq: n(), Kind: n(), To: n(), Rights: n(), Of: n()}
	if random.Intn(9) > 0 {
		op.Deps = vector(n(), n(), n())
	} else if random.Intn(2) > 0 {
		op.Deps.Counts = slices.Repeat([]int{n()}, random.Intn(19))
	}
	switch random.Intn(5) {
	case 0:
		return given(random.Intn(3), 1, n(), n(), random.Intn(2), random.Intn(2))
	case 1:
		return taken(random.Intn(3), 1+random.Intn(2), n(), n(), random.Intn(2))
	case 2:
		return given(random.Intn(3), 1+random.Intn(2), random.Intn(3), 1+random.Intn(7), random.Intn(2), random.Intn(2), random.Intn(2))
	case 3:
		return given(random.Intn(3), 1, random.Intn(3), 1+random.Intn(7))
	}
	return op
}

// No panic and an end, and just what the document says, for lists and vectors of all kinds.
func TestP1AnyAccess(t *testing.T) {
	random := rand.New(rand.NewSource(158))
	vectors := append(wrongVectors(), vector(), vector(1), vector(1, 1), vector(0, 1), vector(0, 0, 1), vector(1, 1, 1), vector(2), vector(2, 2, 2))
	codes := map[int]int{}
	for range 30000 {
		var list []impl.AccessOp
		for range random.Intn(5) {
			list = append(list, anyClaim(random))
		}
		if random.Intn(3) > 0 {
			slices.SortStableFunc(list, func(a, b impl.AccessOp) int {
				if a.Actor < b.Actor || a.Actor == b.Actor && a.Seq < b.Seq {
					return -1
				}
				return 1
			})
		}
		v := vectors[random.Intn(len(vectors))]
		if random.Intn(2) == 0 {
			v = vectors[len(vectors)-1-random.Intn(8)]
		}
		code, void := checkAccess(t, "any", list, v)
		codes[code]++
		codes[100+void]++
	}
	for _, code := range []int{impl.OK, impl.ErrBad, impl.ErrCause, 100 + impl.OK, 100 + impl.ErrBad} {
		if codes[code] < 100 {
			t.Errorf("code %d came %d times: %v", code, codes[code], codes)
		}
	}
}

// Lists of a size that nobody needs are told at once, and the greatest that are good come to an end soon.
func TestP1HugeAccess(t *testing.T) {
	huge := make([]impl.AccessOp, 1<<20)
	checkRights(t, "huge", huge, vector(), nil, impl.ErrBad)
	checkVoid(t, "huge", huge, nil, impl.ErrBad)
	checkRights(t, "a huge vector", nil, impl.Vector{Counts: make([]int, 1<<20)}, nil, impl.ErrBad)
	checkRights(t, "a huge vector", charter(), impl.Vector{Counts: make([]int, 1<<20)}, nil, impl.ErrBad)
	// Each gives to the one below it, so that what was given comes down by one in each round, and all is taken many times.
	b := &book{}
	b.gives(0, 15, 7)
	b.tellsAll()
	for actor := 15; actor > 1; actor-- {
		for i := range 16 {
			b.gives(actor, actor-1, 4+i%4)
		}
		b.tellsAll()
	}
	checkHas(t, "down", b.list(), b.now(), slices.Repeat([]int{7}, 15)...)
	for i := 225; i < 256; i++ {
		b.takes(0, 15*(i%2), 1)
	}
	checkGoodAccess(t, "down, and taken", b.list())
	checkHas(t, "down, and taken", b.list(), b.now())
	checkVoids(t, "down, and taken", b.list())
}
