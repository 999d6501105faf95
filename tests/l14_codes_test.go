package tests

import (
	"testing"

	"loop.example/g00028/impl"
)

// A lens or a form that is not valid is told ahead of all else, even where an earlier step would not fit.
func TestP16BadAheadOfAll(t *testing.T) {
	unfit := drops("missing", "")
	many := adds("more", "")
	for what, wrong := range wrongSteps() {
		for _, list := range [][]impl.Pair{nil, onePair(), manyPairs(64)} {
			for _, steps := range [][]impl.Step{lens(unfit, wrong), lens(unfit, unfit, wrong), lens(many, wrong), lens(many, many, wrong), lens(wrong, unfit), lens(wrong, many)} {
				checkForward(t, what, steps, list, nil, impl.ErrBad)
				checkBack(t, what, steps, list, nil, impl.ErrBad)
			}
		}
	}
	for what, list := range wrongForms() {
		for _, steps := range [][]impl.Step{lens(unfit), lens(many), lens(unfit, many), lens(many, unfit), lens(adds("a", ""))} {
			checkForward(t, what, steps, list, nil, impl.ErrBad)
			checkBack(t, what, steps, list, nil, impl.ErrBad)
		}
	}
	// A lens that is too long, and whose first step does not fit.
	checkForward(t, "33 steps", append(lens(unfit), thereAndBack(32)...), onePair(), nil, impl.ErrBad)
	checkForward(t, "33 steps", append(lens(many), thereAndBack(32)...), manyPairs(64), nil, impl.ErrBad)
	checkBack(t, "33 steps", append(thereAndBack(32), unfit), manyPairs(64), nil, impl.ErrBad)
}

// Of one step ErrLens is named first.
func TestP16LensAheadOfManyInOneStep(t *testing.T) {
	full := manyPairs(64)
	for _, p := range full {
		checkForward(t, "full, and there: "+p.Name, lens(adds(p.Name, p.Text)), full, nil, impl.ErrLens)
		checkBack(t, "full, and there: "+p.Name, lens(drops(p.Name, p.Text)), full, nil, impl.ErrLens)
	}
	checkForward(t, "full, and not there", lens(adds("n", "")), full, nil, impl.ErrMany)
	checkBack(t, "full, and not there", lens(drops("n", "")), full, nil, impl.ErrMany)
	checkForward(t, "made full, and there", lens(adds("a", ""), adds("a", "")), full[:63], nil, impl.ErrLens)
	checkForward(t, "made full, and not there", lens(adds("a", ""), adds("b", "")), full[:63], nil, impl.ErrMany)
	// A pair is called otherwise in a full form, so there are no more pairs.
	checkForward(t, "full, and called otherwise", lens(renames("n00", "n63")), full, nil, impl.ErrLens)
	checkForward(t, "full, and none called otherwise", lens(renames("a", "b")), full, nil, impl.ErrLens)
	wantCode(t, "full, and called otherwise", checkLens(t, "full", lens(renames("n00", "a")), full), impl.OK)
}

// Of two steps the first one gives the code.
func TestP16FirstStepGivesTheCode(t *testing.T) {
	full := manyPairs(64)
	many := adds("more", "")
	for _, unfit := range lens(drops("missing", ""), renames("missing", "m"), renames("n00", "n01"), adds("n00", "")) {
		what := brief(unfit)
		checkForward(t, what+" ahead", lens(unfit, many), full, nil, impl.ErrLens)
		checkForward(t, what+" behind", lens(many, unfit), full, nil, impl.ErrMany)
		checkForward(t, what+" behind some that fit", lens(renames("n05", "a"), drops("n06", ""), adds("n06", ""), many, unfit), full, nil, impl.ErrMany)
		checkForward(t, what+" ahead, behind some that fit", lens(renames("n05", "a"), drops("n06", ""), adds("n06", ""), unfit, many), full, nil, impl.ErrLens)
	}
	// One that would be many later, had an earlier one not made room.
	wantCode(t, "room", checkLens(t, "room", lens(drops("n00", ""), many), full), impl.OK)
	checkForward(t, "room, and a Name that is there", lens(drops("n00", ""), adds("n01", "")), full, nil, impl.ErrLens)
	checkForward(t, "room once", lens(drops("n00", ""), many, adds("n00", ""), drops("n00", "")), full, nil, impl.ErrMany)
	// On the way back the last step comes first.
	back := drops("more", "")
	for _, unfit := range lens(adds("missing", ""), renames("m", "missing"), renames("n01", "n00"), drops("n00", "")) {
		what := brief(unfit)
		checkBack(t, what+" first", lens(back, unfit), full, nil, impl.ErrLens)
		checkBack(t, what+" later", lens(unfit, back), full, nil, impl.ErrMany)
	}
}

// With a code there is nothing beside it, however far the steps came.
func TestP16NothingBesideACode(t *testing.T) {
	for _, steps := range [][]impl.Step{
		lens(adds("a", "1"), adds("b", "2"), drops("c", "")), lens(drops("x", ""), drops("x", "")), lens(renames("x", "y"), renames("x", "y")), lens(adds("", "")), thereAndBack(33),
	} {
		for _, list := range [][]impl.Pair{nil, onePair(), manyPairs(64), manyPairs(65)} {
			there, code := impl.LensForward(steps, list)
			zeroWithCode(t, there, code)
			if code == impl.OK {
				t.Errorf("%s fits %s", brief(steps), brief(list))
			}
			back, code := impl.LensBack(steps, list)
			zeroWithCode(t, back, code)
			flip, code := impl.LensFlip(steps)
			zeroWithCode(t, flip, code)
			both, code := impl.LensJoin(steps, thereAndBack(32))
			zeroWithCode(t, both, code)
			if code == impl.OK {
				t.Errorf("%s and 32 more are a lens", brief(steps))
			}
		}
	}
}
