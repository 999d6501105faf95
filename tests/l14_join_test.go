package tests

import (
	"fmt"
	"math/rand"
	"slices"
	"testing"

	"loop.example/g00028/impl"
)

// oneBehindTheOther makes of a form what two lenses do, the second one of what the first one answered.
func oneBehindTheOther(ahead, behind func([]impl.Pair) ([]impl.Pair, int), list []impl.Pair) ([]impl.Pair, int) {
	there, code := ahead(list)
	if code != impl.OK {
		return nil, code
	}
	return behind(there)
}

func forwardBy(steps []impl.Step) func([]impl.Pair) ([]impl.Pair, int) {
	return func(list []impl.Pair) ([]impl.Pair, int) { return impl.LensForward(steps, list) }
}

func backBy(steps []impl.Step) func([]impl.Pair) ([]impl.Pair, int) {
	return func(list []impl.Pair) ([]impl.Pair, int) { return impl.LensBack(steps, list) }
}

// checkJoined asks that two lenses joined are one behind the other, there and back, with their codes too.
func checkJoined(t *testing.T, what string, a, b []impl.Step, list []impl.Pair) int {
	t.Helper()
	checkJoin(t, what, a, b, slices.Concat(a, b), impl.OK)
	both, _ := impl.LensJoin(a, b)
	there, code := oneBehindTheOther(forwardBy(a), forwardBy(b), list)
	checkForward(t, what+", joined", both, list, there, code)
	if code == impl.OK {
		back, backCode := oneBehindTheOther(backBy(b), backBy(a), there)
		checkBack(t, what+", joined, from there", both, there, back, backCode)
		wantCode(t, what+", the way back", backCode, impl.OK)
	}
	back, backCode := oneBehindTheOther(backBy(b), backBy(a), list)
	checkBack(t, what+", joined", both, list, back, backCode)
	return code
}

func TestP16JoinedAreOneBehindTheOther(t *testing.T) {
	a := lens(renames("title", "name"), adds("done", "no"))
	b := lens(drops("old", "?"), renames("done", "ready"))
	list := form("old", "?", "title", "t")
	checkJoin(t, "a and b", a, b, lens(renames("title", "name"), adds("done", "no"), drops("old", "?"), renames("done", "ready")), impl.OK)
	checkJoin(t, "b and a", b, a, lens(drops("old", "?"), renames("done", "ready"), renames("title", "name"), adds("done", "no")), impl.OK)
	both, _ := impl.LensJoin(a, b)
	checkThere(t, "a and b", both, list, form("name", "t", "ready", "no"), list)
	wantCode(t, "a and b", checkJoined(t, "a and b", a, b, list), impl.OK)
	wantCode(t, "b and a", checkJoined(t, "b and a", b, a, list), impl.ErrLens)
	checkThere(t, "not usual", both, form("old", "mine", "title", "t"), form("name", "t", "ready", "no"), list)
}

func TestP16JoinedWithNoSteps(t *testing.T) {
	a := lens(renames("x", "y"), adds("x", "1"))
	checkJoin(t, "none and none", nil, nil, nil, impl.OK)
	checkJoin(t, "none and none", lens(), lens(), nil, impl.OK)
	checkJoin(t, "none ahead", nil, a, a, impl.OK)
	checkJoin(t, "none behind", a, nil, a, impl.OK)
	checkJoin(t, "none ahead", lens(), thereAndBack(32), thereAndBack(32), impl.OK)
	checkJoin(t, "none behind", thereAndBack(32), lens(), thereAndBack(32), impl.OK)
	for _, steps := range [][]impl.Step{nil, a} {
		checkJoined(t, "none ahead", nil, steps, onePair())
		checkJoined(t, "none behind", steps, nil, onePair())
	}
}

func TestP16JoinedUpToTheLimit(t *testing.T) {
	for first := range impl.MaxSteps + 1 {
		a := thereAndBack(first)
		for second := range impl.MaxSteps + 1 {
			b := slices.Repeat(lens(drops("x", "")), second)
			what := fmt.Sprint(first, " and ", second, " steps")
			if first+second <= 32 {
				checkJoin(t, what, a, b, slices.Concat(a, b), impl.OK)
			} else {
				checkJoin(t, what, a, b, nil, impl.ErrMany)
			}
		}
	}
	whole := fittingLens(rand.New(rand.NewSource(142)), []string{"a", "b", "c", "d"}, form("b", "2"), impl.MaxSteps, false)
	for at := range whole {
		wantCode(t, "parted", checkJoined(t, fmt.Sprint("parted at ", at), whole[:at], whole[at:], form("b", "2")), impl.OK)
		checkJoin(t, "one more", whole[:at+1], whole[at:], nil, impl.ErrMany)
	}
}

// A lens that is not valid is told ahead of how many steps there were, on either side.
func TestP16BadAheadOfManySteps(t *testing.T) {
	full := thereAndBack(32)
	for what, wrong := range wrongLenses() {
		checkJoin(t, what+", ahead", wrong, full, nil, impl.ErrBad)
		checkJoin(t, what+", behind", full, wrong, nil, impl.ErrBad)
		checkJoin(t, what+", alone", wrong, nil, nil, impl.ErrBad)
		checkJoin(t, what+", alone", nil, wrong, nil, impl.ErrBad)
		checkJoin(t, what+", twice", wrong, wrong, nil, impl.ErrBad)
		checkJoin(t, what+", with a long one", wrong, thereAndBack(33), nil, impl.ErrBad)
	}
	checkJoin(t, "full ones", full, full, nil, impl.ErrMany)
	checkJoin(t, "33 and none", thereAndBack(33), nil, nil, impl.ErrBad)
	checkJoin(t, "none and 33", nil, thereAndBack(33), nil, impl.ErrBad)
	checkJoin(t, "32 and one", full, lens(adds("a", "")), nil, impl.ErrMany)
	checkJoin(t, "one and 32", lens(adds("a", "")), full, nil, impl.ErrMany)
}

// Joining asks no form: what fits none is joined all the same.
func TestP16JoinedThatFitNone(t *testing.T) {
	checkJoin(t, "added twice", lens(adds("a", "1")), lens(adds("a", "1")), lens(adds("a", "1"), adds("a", "1")), impl.OK)
	wantCode(t, "added twice", checkJoined(t, "added twice", lens(adds("a", "1")), lens(adds("a", "1")), nil), impl.ErrLens)
	wantCode(t, "full", checkJoined(t, "full", lens(adds("a", "")), lens(adds("b", "")), manyPairs(63)), impl.ErrMany)
	wantCode(t, "full", checkJoined(t, "full", lens(adds("a", "")), lens(adds("a", "")), manyPairs(63)), impl.ErrLens)
	wantCode(t, "full", checkJoined(t, "full", lens(adds("a", "")), lens(drops("a", "")), manyPairs(64)), impl.ErrMany)
	wantCode(t, "full", checkJoined(t, "full", lens(drops("n00", "")), lens(adds("a", "")), manyPairs(64)), impl.OK)
}

func TestP16EverySmallJoin(t *testing.T) {
	names := []string{"a", "b", "c"}
	var lenses [][]impl.Step
	everyList(stepsOn(names, []string{"1"}), 1, func(list []impl.Step) { lenses = append(lenses, list) })
	random := rand.New(rand.NewSource(143))
	for range 20 {
		lenses = append(lenses, fittingLens(random, names, form("a", "1"), random.Intn(5), false))
	}
	met := map[int]int{}
	for _, a := range lenses {
		for _, b := range lenses {
			for _, f := range formsOn(names, []string{"1"}) {
				met[checkJoined(t, brief(a)+" and "+brief(b), a, b, f)]++
			}
		}
	}
	if met[impl.OK] < 200 || met[impl.ErrLens] < 200 {
		t.Errorf("codes met: %v", met)
	}
}

// The flip of a join is the join of the flips, the other way round; a lens joined with its flip goes nowhere.
func TestP16FlipsOfJoins(t *testing.T) {
	random := rand.New(rand.NewSource(144))
	names := []string{"a", "ab", "b", "c", "\xff"}
	for range 1000 {
		list := someForm(random, names)
		a := fittingLens(random, names, list, random.Intn(9), true)
		there, _ := impl.LensForward(a, list)
		b := fittingLens(random, names, there, random.Intn(9), true)
		wantCode(t, "both", checkJoined(t, "both", a, b, list), impl.OK)
		both, _ := impl.LensJoin(a, b)
		flipA, _ := impl.LensFlip(a)
		flipB, _ := impl.LensFlip(b)
		flip, _ := impl.LensFlip(both)
		checkJoin(t, "the flips", flipB, flipA, flip, impl.OK)
		nowhere, code := impl.LensJoin(a, flipA)
		wantCode(t, "nowhere", code, impl.OK)
		checkThere(t, "nowhere", nowhere, list, list, list)
		c := fittingLens(random, names, list, random.Intn(9), true)
		ab, _ := impl.LensJoin(a, b)
		bc, _ := impl.LensJoin(b, c)
		one, _ := impl.LensJoin(ab, c)
		checkJoin(t, "three", a, bc, one, impl.OK)
	}
}
