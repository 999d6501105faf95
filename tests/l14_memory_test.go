package tests

import (
	"math"
	"math/rand"
	"slices"
	"sync"
	"testing"

	"loop.example/g00028/impl"
)

// A lensCase is a lens and a form, of all kinds, that fit or not.
type lensCase struct {
	steps []impl.Step
	list  []impl.Pair
}

func lensCases() []lensCase {
	random := rand.New(rand.NewSource(145))
	names := []string{"a", "ab", "b", "c", "d", "\x80", "\xff"}
	cases := []lensCase{
		{nil, nil}, {nil, onePair()}, {nil, manyPairs(64)}, {nil, manyPairs(65)}, {lens(adds("a", "")), nil}, {lens(drops("x", "")), nil},
		{thereAndBack(32), onePair()}, {thereAndBack(31), manyPairs(63)}, {thereAndBack(31), manyPairs(64)}, {thereAndBack(33), onePair()},
		{lens(drops("x", "text")), onePair()}, {lens(renames("x", "a")), onePair()}, {lens(renames("x", "z")), onePair()}, {lens(adds("", "")), onePair()},
		{lens(renames("n63", "a")), manyPairs(64)}, {lens(renames("n00", "z")), manyPairs(64)}, {lens(drops("n30", "")), manyPairs(64)}, {lens(adds("n30x", "")), manyPairs(63)},
		{lens(renames("b", "c"), renames("a", "b"), renames("c", "a")), form("a", "1", "b", "2")}, {lens(drops("n00", ""), adds("n00", "")), manyPairs(64)},
	}
	for range 30 {
		list := someForm(random, names)
		cases = append(cases, lensCase{fittingLens(random, names, list, random.Intn(33), random.Intn(2) == 0), list})
	}
	return cases
}

func TestP1LensesAndFormsAreNotWrittenInto(t *testing.T) {
	cases := lensCases()
	for i, c := range cases {
		steps, checkSteps := watched(t, c.steps, renames("behind", "it"))
		list, checkList := watched(t, c.list, pair("behind", "it"))
		other, checkOther := watched(t, cases[(i+1)%len(cases)].steps, adds("behind", "it"))
		checkLens(t, "watched", steps, list)
		impl.LensJoin(steps, other)
		impl.LensJoin(other, steps)
		impl.LensJoin(steps, steps)
		checkSteps()
		checkList()
		checkOther()
	}
}

// What lies behind the end of an argument, in the same memory, is not a part of it.
func TestP1NothingBehindTheEndCounts(t *testing.T) {
	whole := manyPairs(70)
	steps := append(thereAndBack(32), impl.Step{}, drops("n00", ""), adds("n00", ""))
	for end := range 65 {
		checkForward(t, "no steps", steps[:0], whole[:end], manyPairs(end), impl.OK)
		checkBack(t, "no steps", steps[:0], whole[:end], manyPairs(end), impl.OK)
	}
	for end := range 33 {
		flip, _ := flipOf(thereAndBack(end))
		checkFlip(t, "the beginning", steps[:end], flip, impl.OK)
		checkJoin(t, "the beginning", steps[:end], steps[end:32], thereAndBack(32), impl.OK)
	}
	checkFlip(t, "one step more", steps[:33], nil, impl.ErrBad)
	checkForward(t, "one pair more", nil, whole[:65], nil, impl.ErrBad)
	if !slices.Equal(whole, manyPairs(70)) || !slices.Equal(steps[:32], thereAndBack(32)) || steps[32] != (impl.Step{}) {
		t.Error("written into")
	}
}

// The same lens is given twice, or pieces of one memory that lie over each other.
func TestP1JoinedWithItself(t *testing.T) {
	for _, c := range lensCases() {
		steps, check := watched(t, c.steps, renames("behind", "it"))
		want, code := slices.Concat(c.steps, c.steps), impl.OK
		if !validLens(c.steps) {
			want, code = nil, impl.ErrBad
		} else if len(want) > impl.MaxSteps {
			want, code = nil, impl.ErrMany
		}
		checkJoin(t, "with itself", steps, steps, want, code)
		both, _ := impl.LensJoin(steps, steps)
		scribble(both, adds("!", "!"))
		check()
		checkJoin(t, "with itself, written over", steps, steps, want, code)
		check()
	}
	memory := lens(adds("a", "1"), renames("a", "b"), drops("b", "1"), adds("c", "2"), renames("c", "d"), drops("d", "3"))
	kept := slices.Clone(memory)
	for from := range memory {
		for to := from; to <= len(memory); to++ {
			for at := range memory {
				for end := at; end <= len(memory); end++ {
					both, code := impl.LensJoin(memory[from:to], memory[at:end])
					if code != impl.OK || !slices.Equal(both, slices.Concat(kept[from:to], kept[at:end])) {
						t.Errorf("pieces %d to %d and %d to %d: %s, code %d", from, to, at, end, brief(both), code)
					}
					scribble(both, impl.Step{Kind: -9})
				}
			}
		}
	}
	if !slices.Equal(memory, kept) {
		t.Errorf("written into: %s", brief(memory))
	}
}

// What is answered shares no memory with an argument, nor with another answer; written over, it is answered again.
func TestP1AnsweredFormsAreNew(t *testing.T) {
	for _, c := range lensCases() {
		for what, call := range map[string]func([]impl.Step, []impl.Pair) ([]impl.Pair, int){"LensForward": impl.LensForward, "LensBack": impl.LensBack} {
			steps, checkSteps := watched(t, c.steps, renames("behind", "it"))
			list, checkList := watched(t, c.list, pair("behind", "it"))
			first, code := call(steps, list)
			kept := slices.Clone(first)
			other, _ := call(steps, list)
			scribble(first, pair("!", "written over"))
			checkSteps()
			checkList()
			again, codeAgain := call(steps, list)
			checkPairs(t, what+", called again", again, codeAgain, kept, code)
			scribble(list, pair("!", "written over"))
			scribble(steps, impl.Step{Kind: -9})
			checkPairs(t, what+", the arguments written over", other, code, kept, code)
			checkPairs(t, what+", the arguments written over", again, code, kept, code)
		}
	}
}

func TestP1AnsweredLensesAreNew(t *testing.T) {
	cases := lensCases()
	for i, c := range cases {
		b := cases[(i+7)%len(cases)].steps
		for what, call := range map[string]func(a, b []impl.Step) ([]impl.Step, int){
			"LensFlip": func(a, _ []impl.Step) ([]impl.Step, int) { return impl.LensFlip(a) }, "LensJoin": impl.LensJoin,
			"LensJoin with none behind": func(a, _ []impl.Step) ([]impl.Step, int) { return impl.LensJoin(a, nil) },
			"LensJoin with none ahead":  func(a, _ []impl.Step) ([]impl.Step, int) { return impl.LensJoin(nil, a) },
		} {
			ahead, checkAhead := watched(t, c.steps, renames("behind", "it"))
			behind, checkBehind := watched(t, b, adds("behind", "it"))
			first, code := call(ahead, behind)
			kept := slices.Clone(first)
			other, _ := call(ahead, behind)
			scribble(first, impl.Step{Kind: -9})
			checkAhead()
			checkBehind()
			again, codeAgain := call(ahead, behind)
			checkLensIs(t, what+", called again", again, codeAgain, kept, code)
			scribble(ahead, impl.Step{Kind: -9})
			scribble(behind, impl.Step{Kind: -9})
			checkLensIs(t, what+", the arguments written over", other, code, kept, code)
			checkLensIs(t, what+", the arguments written over", again, code, kept, code)
		}
	}
}

// Nothing is kept from call to call, also with many at once.
func TestP1LensesKeepNothing(t *testing.T) {
	cases := lensCases()
	for range 3 {
		for _, c := range cases {
			checkLens(t, "behind others", c.steps, c.list)
			checkForward(t, "behind others", lens(renames("x", "y")), onePair(), form("y", "text"), impl.OK)
			checkJoin(t, "behind others", lens(adds("a", "")), nil, lens(adds("a", "")), impl.OK)
		}
	}
	var all sync.WaitGroup
	for range 10 {
		for _, c := range cases {
			all.Add(1)
			go func() {
				defer all.Done()
				checkLens(t, "at once", c.steps, c.list)
				if validLens(c.steps) && len(c.steps) <= 16 {
					checkJoin(t, "at once", c.steps, c.steps, slices.Concat(c.steps, c.steps), impl.OK)
				}
			}()
		}
	}
	all.Wait()
}

func anyWord(random *rand.Rand) string {
	words := []string{"", "a", "a", "ab", "b", "b", "c", "\x00", "\x80", "\xff\xfe", letters(200), letters(201), letters(5000)}
	return words[random.Intn(len(words))]
}

func anyStep(random *rand.Rand) impl.Step {
	kinds := []int{math.MinInt, -1, 0, 1, 2, 3, 4, math.MaxInt}
	name, other := anyWord(random), anyWord(random)
	switch random.Intn(5) {
	case 0:
		return impl.Step{Kind: kinds[random.Intn(len(kinds))], Name: name, To: other, Text: anyWord(random)}
	case 1:
		return adds(name, other)
	case 2:
		return drops(name, other)
	}
	return renames(name, other)
}

func anyForm(random *rand.Rand) []impl.Pair {
	var list []impl.Pair
	for range random.Intn(5) {
		list = append(list, pair(anyWord(random), anyWord(random)))
	}
	if random.Intn(4) > 0 {
		slices.SortFunc(list, func(a, b impl.Pair) int {
			if risesTo([]byte(a.Name), []byte(b.Name)) {
				return -1
			}
			return 1
		})
		list = slices.CompactFunc(list, func(a, b impl.Pair) bool { return a.Name == b.Name })
	}
	return list
}

// No panic and an end, and just what the document says, for lenses and forms of all kinds.
func TestP1AnyLensesAndForms(t *testing.T) {
	random := rand.New(rand.NewSource(146))
	codes := map[int]int{}
	for range 20000 {
		var steps, others []impl.Step
		for range random.Intn(4) {
			steps, others = append(steps, anyStep(random)), append(others, anyStep(random))
		}
		if random.Intn(9) == 0 {
			others = thereAndBack(28 + random.Intn(7))
		}
		list := anyForm(random)
		codes[checkLens(t, "any", steps, list)]++
		want, code := slices.Concat(steps, others), impl.OK
		if !validLens(steps) || !validLens(others) {
			want, code = nil, impl.ErrBad
		} else if len(want) > impl.MaxSteps {
			want, code = nil, impl.ErrMany
		}
		codes[100+code]++
		checkJoin(t, "any", steps, others, want, code)
	}
	for _, code := range []int{impl.OK, impl.ErrBad, impl.ErrLens, 100 + impl.OK, 100 + impl.ErrBad, 100 + impl.ErrMany} {
		if codes[code] < 20 {
			t.Errorf("code %d came %d times: %v", code, codes[code], codes)
		}
	}
}

// Lists of a size that nobody needs are told at once.
func TestP1HugeLensesAndForms(t *testing.T) {
	steps := make([]impl.Step, 1<<20)
	list := make([]impl.Pair, 1<<20)
	checkForward(t, "huge", steps, list, nil, impl.ErrBad)
	checkForward(t, "huge", nil, list, nil, impl.ErrBad)
	checkForward(t, "huge", steps, nil, nil, impl.ErrBad)
	checkBack(t, "huge", steps, list, nil, impl.ErrBad)
	checkFlip(t, "huge", steps, nil, impl.ErrBad)
	checkJoin(t, "huge", steps, steps, nil, impl.ErrBad)
	checkJoin(t, "huge", steps, nil, nil, impl.ErrBad)
	checkJoin(t, "huge", nil, steps, nil, impl.ErrBad)
}
