package tests

import (
	"fmt"
	"math/rand"
	"slices"
	"testing"

	"loop.example/g00028/impl"
)

func TestP16FlipOfEachKind(t *testing.T) {
	long := letters(200)
	for _, c := range []struct{ step, want impl.Step }{
		{renames("a", "b"), renames("b", "a")},
		{renames("b", "a"), renames("a", "b")},
		{renames(long, "\xff"), renames("\xff", long)},
		{adds("a", "1"), drops("a", "1")},
		{adds("a", ""), drops("a", "")},
		{adds(long, long), drops(long, long)},
		{drops("a", "1"), adds("a", "1")},
		{drops("a", ""), adds("a", "")},
		{drops("\x00", "\xff"), adds("\x00", "\xff")},
	} {
		checkFlip(t, brief(c.step), lens(c.step), lens(c.want), impl.OK)
		checkFlip(t, brief(c.want), lens(c.want), lens(c.step), impl.OK)
		// Alone and among others.
		checkFlip(t, brief(c.step), lens(adds("x", "7"), c.step, renames("y", "z")), lens(renames("z", "y"), c.want, drops("x", "7")), impl.OK)
	}
	checkFlip(t, "no steps", nil, nil, impl.OK)
	checkFlip(t, "no steps", lens(), nil, impl.OK)
	for what, step := range goodSteps() {
		flip, _ := impl.LensFlip(lens(step))
		if len(flip) != 1 || !validStep(flip[0]) {
			t.Fatalf("%s: the flip %s is no step", what, brief(flip))
		}
		checkFlip(t, what+", twice", flip, lens(step), impl.OK)
	}
}

func TestP16FlipTurnsTheOrder(t *testing.T) {
	steps := lens(renames("title", "name"), adds("done", "no"), drops("old", "?"), adds("a", ""))
	checkFlip(t, "four steps", steps, lens(drops("a", ""), adds("old", "?"), drops("done", "no"), renames("name", "title")), impl.OK)
	for count := range impl.MaxSteps + 1 {
		var steps, want []impl.Step
		for i := range count {
			name, text := fmt.Sprint("n", i), fmt.Sprint("t", i)
			steps = append(steps, []impl.Step{renames(name, text), adds(name, text), drops(name, text)}[i%3])
			want = append(want, []impl.Step{renames(text, name), drops(name, text), adds(name, text)}[i%3])
		}
		slices.Reverse(want)
		checkFlip(t, fmt.Sprint(count, " steps"), steps, want, impl.OK)
		checkFlip(t, fmt.Sprint(count, " steps, twice"), want, steps, impl.OK)
	}
	checkFlip(t, "one too many", thereAndBack(33), nil, impl.ErrBad)
}

// Where each pair that was dropped has the Text of its step, one comes back to where one came from.
func TestP16BackToWhereItCameFrom(t *testing.T) {
	list := form("kind", "?", "old", "?", "title", "t", "z", "")
	steps := lens(renames("title", "name"), adds("done", "no"), drops("old", "?"), renames("kind", "sort"), drops("z", ""), adds("kind", "new"), renames("done", "z"))
	checkThere(t, "usual", steps, list, form("kind", "new", "name", "t", "sort", "?", "z", "no"), list)
	// What was dropped comes back as it is usual.
	unusual := form("kind", "?", "old", "mine", "title", "t", "z", "9")
	checkThere(t, "not usual", steps, unusual, form("kind", "new", "name", "t", "sort", "?", "z", "no"), list)
	// What was written there since comes back too, but not what was written into the pairs that were added.
	checkBack(t, "changed there", steps, form("kind", "k", "name", "n", "sort", "s", "z", "y"), form("kind", "s", "old", "?", "title", "n", "z", ""), impl.OK)
}

// There, back, there: the second time is as the first one, whatever was dropped.
func TestP16ThereAgain(t *testing.T) {
	random := rand.New(rand.NewSource(141))
	names := []string{"a", "ab", "b", "c", "d", "\x80", "\xff"}
	unlike := 0
	for range 2000 {
		list := someForm(random, names)
		steps := fittingLens(random, names, list, random.Intn(20), false)
		there, _ := impl.LensForward(steps, list)
		back, code := impl.LensBack(steps, there)
		wantCode(t, "back", code, impl.OK)
		if !slices.Equal(back, list) {
			unlike++
		}
		checkForward(t, "again", steps, back, there, impl.OK)
		checkBack(t, "again", steps, there, back, impl.OK)
		flip, _ := impl.LensFlip(steps)
		checkForward(t, "by the flip", flip, there, back, impl.OK)
	}
	if unlike < 200 {
		t.Errorf("only %d lenses dropped what is not usual", unlike)
	}
}

func TestP16BackOfEachStep(t *testing.T) {
	list := form("b", "2", "d", "4")
	checkBack(t, "an LRename", lens(renames("a", "b")), list, form("a", "2", "d", "4"), impl.OK)
	checkBack(t, "an LRename to the last place", lens(renames("z", "b")), list, form("d", "4", "z", "2"), impl.OK)
	checkBack(t, "an LAdd", lens(adds("b", "2")), list, form("d", "4"), impl.OK)
	checkBack(t, "an LAdd with another Text", lens(adds("b", "?")), list, form("d", "4"), impl.OK)
	checkBack(t, "an LDrop", lens(drops("c", "3")), list, form("b", "2", "c", "3", "d", "4"), impl.OK)
	checkBack(t, "no steps", nil, list, list, impl.OK)
	checkBack(t, "no pairs", lens(drops("c", "3")), nil, form("c", "3"), impl.OK)
	checkBack(t, "nothing at all", nil, nil, nil, impl.OK)
}

func TestP16WaysBackThatDoNotFit(t *testing.T) {
	list := form("b", "2", "d", "4")
	for what, steps := range map[string][]impl.Step{
		"called so, and not there":            lens(renames("a", "c")),
		"had been called what is there":       lens(renames("d", "b")),
		"both":                                lens(renames("d", "c")),
		"added, and not there":                lens(adds("c", "3")),
		"dropped, and there":                  lens(drops("b", "2")),
		"added twice":                         lens(adds("b", "2"), adds("b", "2")),
		"dropped twice":                       lens(drops("c", "2"), drops("c", "2")),
		"added ahead of dropped":              lens(adds("c", "3"), drops("c", "3"), adds("c", "3")),
		"the way there fits, not the way":     lens(drops("b", "2"), renames("d", "b"), adds("d", "4"), drops("d", "4")),
		"the last step fits, not the first":   lens(adds("c", "3"), adds("b", "2")),
		"a name that only the way there made": lens(renames("b", "c")),
	} {
		checkBack(t, what, steps, list, nil, impl.ErrLens)
		checkLens(t, what, steps, list)
	}
}

func TestP16WaysBackWithTooMany(t *testing.T) {
	full := manyPairs(64)
	checkBack(t, "one dropped", lens(drops("a", "")), full, nil, impl.ErrMany)
	checkBack(t, "one dropped that is there", lens(drops("n00", "")), full, nil, impl.ErrLens)
	checkBack(t, "two dropped", lens(drops("a", ""), drops("b", "")), full[:63], nil, impl.ErrMany)
	checkBack(t, "one dropped, of one less", lens(drops("a", "t")), full[:63], slices.Concat(form("a", "t"), full[:63]), impl.OK)
	checkBack(t, "one added behind one dropped", lens(drops("a", "t"), adds("n63", "")), full, slices.Concat(form("a", "t"), full[:63]), impl.OK)
	checkBack(t, "one added ahead of one dropped", lens(adds("n63", ""), drops("a", "t")), full, nil, impl.ErrMany)
	checkBack(t, "one called otherwise", lens(renames("a", "n63")), full, slices.Concat(form("a", full[63].Text), full[:63]), impl.OK)
	// The way there is free of it, since what was dropped there made room for others.
	steps := lens(drops("n00", "t"))
	there, _ := impl.LensForward(steps, full)
	there = append(there, pair("z", "since"))
	checkBack(t, "filled there", steps, there, nil, impl.ErrMany)
}

func TestP16WaysBackOfWhatIsNotValid(t *testing.T) {
	for what, wrong := range wrongLenses() {
		checkBack(t, what, wrong, onePair(), nil, impl.ErrBad)
		checkFlip(t, what, wrong, nil, impl.ErrBad)
	}
	for what, list := range wrongForms() {
		checkBack(t, what, nil, list, nil, impl.ErrBad)
		checkBack(t, what, lens(renames("b", "a")), list, nil, impl.ErrBad)
		checkBack(t, what, lens(adds("", "")), list, nil, impl.ErrBad)
	}
}

// The way back of a flip is the way there.
func TestP16BackOfTheFlip(t *testing.T) {
	names := []string{"a", "b", "c"}
	steps := stepsOn(names, []string{"1"})
	everyList(steps, 2, func(list []impl.Step) {
		flip, _ := impl.LensFlip(list)
		for _, f := range formsOn(names, []string{"1", "2"}) {
			there, code := impl.LensForward(list, f)
			checkBack(t, "of the flip of "+brief(list), flip, f, there, code)
		}
	})
}
