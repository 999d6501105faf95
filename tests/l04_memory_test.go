package tests

import (
	"math"
	"math/rand"
	"slices"
	"testing"

	"loop.example/g00028/impl"
)

// listMakers are all that answer operations, each as a function of two lists.
func listMakers() map[string]func(a, b []impl.LOp) ([]impl.LOp, int) {
	return map[string]func(a, b []impl.LOp) ([]impl.LOp, int){
		"ListMerge": impl.ListMerge,
		"ListEdit":  func(a, _ []impl.LOp) ([]impl.LOp, int) { return impl.ListEdit(a, 3, 0, 1, "text") },
		"nothing":   func(a, _ []impl.LOp) ([]impl.LOp, int) { return impl.ListEdit(a, 3, 0, 0, "") },
	}
}

func memoryLists() [][]impl.LOp {
	reversed := lined(30, 2)
	slices.Reverse(reversed)
	return append(lists()[:9], nil, lined(1, 0), reversed, slices.Concat(reversed, lined(20, 2)), []impl.LOp{{}}, []impl.LOp{ins(2, 0, stamp(1, 0), 'a')})
}

// behindOp is what stands behind an argument's end.
func behindOp() impl.LOp { return ins(77, 7, stamp(66, 6), '!') }

func TestP1ListsAreNotWrittenInto(t *testing.T) {
	for _, one := range memoryLists() {
		for _, other := range memoryLists() {
			a, checkA := watched(t, one, behindOp())
			b, checkB := watched(t, other, behindOp())
			for _, maker := range listMakers() {
				maker(a, b)
				maker(b, a)
				maker(a, a)
			}
			impl.ListOrder(a)
			impl.ListText(a)
			impl.ListPlace(a, 1)
			checkA()
			checkB()
		}
	}
}

func TestP1AnsweredListsAreNew(t *testing.T) {
	for name, maker := range listMakers() {
		for _, one := range memoryLists() {
			for _, other := range memoryLists() {
				a, checkA := watched(t, one, behindOp())
				b, checkB := watched(t, other, behindOp())
				first, _ := maker(a, b)
				again, _ := maker(a, b)
				same, _ := maker(a, a)
				kept := slices.Clone(again)
				scribble(first, impl.LOp{Kind: -7})
				scribble(same, impl.LOp{Kind: -8})
				checkA()
				checkB()
				scribble(a, impl.LOp{Kind: -9})
				scribble(b, impl.LOp{Kind: -9})
				if !slices.Equal(again, kept) {
					t.Errorf("%s: an answer shares memory: %v, was %v", name, again, kept)
				}
			}
		}
	}
}

func TestP1AnsweredOrdersAreNew(t *testing.T) {
	for _, ops := range memoryLists() {
		a, check := watched(t, ops, behindOp())
		first, _ := impl.ListOrder(a)
		again, _ := impl.ListOrder(a)
		kept := slices.Clone(again)
		scribble(first, stamp(-7, -7))
		check()
		scribble(a, impl.LOp{Kind: -9})
		if !slices.Equal(again, kept) {
			t.Errorf("%v, was %v", again, kept)
		}
	}
}

func anyOps(random *rand.Rand) []impl.LOp {
	numbers := []int{math.MinInt, -1, 0, 1, 1, 2, 2, 3, 4, 15, 16, 55296, 1114112, impl.MaxTime, impl.MaxTime + 1, math.MaxInt}
	number := func() int { return numbers[random.Intn(len(numbers))] }
	list := anyList(random, random.Intn(6))
	for range random.Intn(3) {
		op := impl.LOp{Kind: random.Intn(4), Char: number(), Id: stamp(number(), random.Intn(18)-1), At: stamp(number(), random.Intn(18)-1)}
		if random.Intn(2) == 0 {
			op.Kind, op.Char, op.At = impl.LIns, 'z', start()
		}
		list = append(list, op)
	}
	return list
}

// No panic and an end, and nothing beside a code, for operations of all kinds.
func TestP1AnyOperations(t *testing.T) {
	random := rand.New(rand.NewSource(11))
	places := []int{math.MinInt, -1, 0, 0, 0, 1, 2, 3, math.MaxInt}
	texts := []string{"", "x", "\u00e9", "\xff", letters(3000)}
	done := 0
	for range 20000 {
		a, b := anyOps(random), anyOps(random)
		checkList(t, a)
		ops, code := impl.ListMerge(a, b)
		zeroWithCode(t, ops, code)
		more, code := impl.ListEdit(a, random.Intn(20)-2, places[random.Intn(len(places))], places[random.Intn(len(places))], texts[random.Intn(len(texts))])
		zeroWithCode(t, more, code)
		if code == impl.OK {
			done++
			wantCode(t, "with the edit", listCode(slices.Concat(a, more)), impl.OK)
		}
	}
	if done < 500 {
		t.Errorf("only %d were done", done)
	}
}
