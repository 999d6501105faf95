package tests

import (
	"fmt"
	"math/rand"
	"slices"
	"testing"

	"loop.example/g00028/impl"
)

// worldNames rise; with 80 of them a form can be full.
func worldNames() []string {
	names := []string{"\x00", "A", "a", "a\x00", "aa", "ab", "b"}
	for i := range 70 {
		names = append(names, fmt.Sprint("n", 10+i))
	}
	return append(names, "\x80", "\xff", "\xff\xff")
}

// Whatever fits goes back to where it came from, where nothing was dropped that was not usual.
func TestP16WorldOfUsualLenses(t *testing.T) {
	random := rand.New(rand.NewSource(147))
	for round := range 3000 {
		names := worldNames()
		if round%2 == 0 {
			names = names[random.Intn(4):][:3+random.Intn(6)]
		}
		list := someForm(random, names)
		steps := fittingLens(random, names, list, random.Intn(33), true)
		there, code := impl.LensForward(steps, list)
		wantCode(t, "there", code, impl.OK)
		if !validForm(there) {
			t.Fatalf("no form: %s", brief(there))
		}
		checkBack(t, "usual", steps, there, list, impl.OK)
		checkLens(t, "usual", steps, list)
	}
}

// Where something else was dropped, that comes back with the Text of its step, and all else as it was.
func TestP16WorldOfOtherLenses(t *testing.T) {
	random := rand.New(rand.NewSource(148))
	unlike := 0
	for round := range 3000 {
		names := worldNames()
		if round%2 == 0 {
			names = names[random.Intn(4):][:3+random.Intn(6)]
		}
		list := someForm(random, names)
		steps := fittingLens(random, names, list, random.Intn(33), false)
		there, code := impl.LensForward(steps, list)
		wantCode(t, "there", code, impl.OK)
		back, code := impl.LensBack(steps, there)
		checkPairs(t, "other", back, code, usualOf(steps, list), impl.OK)
		if !slices.Equal(back, list) {
			unlike++
		}
		checkLens(t, "other", steps, list)
		// Another form may fit or not.
		checkLens(t, "on another form", steps, someForm(random, names))
	}
	if unlike < 500 {
		t.Errorf("only %d came back otherwise", unlike)
	}
}

// Forms that are full or nearly so, where steps make room and take it.
func TestP16WorldOfFullForms(t *testing.T) {
	random := rand.New(rand.NewSource(149))
	names := worldNames()
	met := map[int]int{}
	for range 3000 {
		rest := slices.Clone(names)
		random.Shuffle(len(rest), func(i, j int) { rest[i], rest[j] = rest[j], rest[i] })
		s := sheaf{}
		for _, name := range rest[:62+random.Intn(3)] {
			s[name] = "t" + name
		}
		list := s.form()
		var steps []impl.Step
		for range 1 + random.Intn(8) {
			name, to := names[random.Intn(len(names))], names[random.Intn(len(names))]
			if _, isThere := s[name]; !isThere {
				steps = append(steps, adds(name, to))
			} else if name != to {
				steps = append(steps, []impl.Step{drops(name, "t"+name), renames(name, to)}[random.Intn(2)])
			}
		}
		met[checkLens(t, "full", steps, list)]++
		if len(steps) > 0 {
			checkJoined(t, "full", steps[:1], steps[1:], list)
		}
	}
	for _, code := range []int{impl.OK, impl.ErrLens, impl.ErrMany} {
		if met[code] < 100 {
			t.Errorf("code %d came %d times", code, met[code])
		}
	}
}

// A form goes through the lenses of many versions, one by one or joined, and all the way back.
func TestP16WorldOfVersions(t *testing.T) {
	random := rand.New(rand.NewSource(150))
	names := worldNames()[:12]
	for range 500 {
		first := someForm(random, names)
		at := first
		var lenses [][]impl.Step
		var joined []impl.Step
		for range 1 + random.Intn(4) {
			steps := fittingLens(random, names, at, random.Intn(9), true)
			next, code := impl.LensForward(steps, at)
			wantCode(t, "a version", code, impl.OK)
			both, code := impl.LensJoin(joined, steps)
			wantCode(t, "joined", code, impl.OK)
			lenses, joined, at = append(lenses, steps), both, next
			checkThere(t, "all versions", joined, first, at, first)
		}
		for _, steps := range slices.Backward(lenses) {
			back, code := impl.LensBack(steps, at)
			wantCode(t, "a version back", code, impl.OK)
			at = back
		}
		if !slices.Equal(at, first) {
			t.Errorf("back at %s, began at %s", brief(at), brief(first))
		}
	}
}
