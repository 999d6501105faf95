package tests

import (
	"fmt"
	"slices"
	"testing"

	"loop.example/g00028/impl"
)

// Each Kind on a pair that is there, and on one that is not.
func TestP16EachKind(t *testing.T) {
	list := form("b", "2", "d", "4", "f", "6")
	checkThere(t, "an LRename", lens(renames("d", "e")), list, form("b", "2", "e", "4", "f", "6"), list)
	checkThere(t, "an LAdd", lens(adds("c", "3")), list, form("b", "2", "c", "3", "d", "4", "f", "6"), list)
	checkThere(t, "an LAdd without a Text", lens(adds("c", "")), list, form("b", "2", "c", "", "d", "4", "f", "6"), list)
	checkThere(t, "an LDrop", lens(drops("d", "4")), list, form("b", "2", "f", "6"), list)
	checkForward(t, "an LRename of none", lens(renames("c", "e")), list, nil, impl.ErrLens)
	checkForward(t, "an LAdd of one that is there", lens(adds("d", "3")), list, nil, impl.ErrLens)
	checkForward(t, "an LAdd of one that is just so", lens(adds("d", "4")), list, nil, impl.ErrLens)
	checkForward(t, "an LDrop of none", lens(drops("c", "3")), list, nil, impl.ErrLens)
	for _, step := range lens(renames("a", "b"), drops("a", ""), drops("a", "t")) {
		checkForward(t, "no pairs: "+brief(step), lens(step), nil, nil, impl.ErrLens)
	}
	checkThere(t, "an LAdd to none", lens(adds("a", "1")), nil, form("a", "1"), nil)
	checkThere(t, "an LDrop of the only one", lens(drops("a", "1")), form("a", "1"), nil, form("a", "1"))
	checkThere(t, "an LRename of the only one", lens(renames("a", "b")), form("a", "1"), form("b", "1"), form("a", "1"))
	checkThere(t, "no steps", nil, list, list, list)
	checkThere(t, "nothing at all", nil, nil, nil, nil)
}

func TestP16RenamedToOneThatIsThere(t *testing.T) {
	list := form("b", "2", "d", "4", "f", "4")
	for _, p := range list {
		for _, other := range list {
			if other != p {
				checkForward(t, p.Name+" to "+other.Name, lens(renames(p.Name, other.Name)), list, nil, impl.ErrLens)
			}
			checkForward(t, "none to "+other.Name, lens(renames("c", other.Name)), list, nil, impl.ErrLens)
		}
	}
}

// A name is the whole name, byte by byte: neither its beginning nor another case of it will do.
func TestP16WholeNames(t *testing.T) {
	list := form("name", "1", "names", "2", "é", "3")
	for _, other := range []string{"n", "nam", "namess", "Name", "name\x00", "name ", " name", "e", "\xc3", "\xa9", "É"} {
		checkForward(t, other, lens(drops(other, "")), list, nil, impl.ErrLens)
		checkForward(t, other, lens(renames(other, "z")), list, nil, impl.ErrLens)
		checkThere(t, other, lens(adds(other, "t")), list, sheafOf(append(form(other, "t"), list...)).form(), list)
		checkThere(t, other, lens(renames("name", other)), list, sheafOf(form(other, "1", "names", "2", "é", "3")).form(), list)
	}
	checkThere(t, "the beginning goes", lens(drops("name", "1")), list, list[1:], list)
	checkThere(t, "the longer one goes", lens(drops("names", "2")), list, form("name", "1", "é", "3"), list)
}

func TestP16RenamedToEachPlace(t *testing.T) {
	list := form("b", "2", "d", "4", "f", "6")
	for _, c := range []struct {
		name, to string
		want     []impl.Pair
	}{
		{"f", "a", form("a", "6", "b", "2", "d", "4")},
		{"f", "c", form("b", "2", "c", "6", "d", "4")},
		{"f", "e", form("b", "2", "d", "4", "e", "6")},
		{"f", "g", form("b", "2", "d", "4", "g", "6")},
		{"d", "a", form("a", "4", "b", "2", "f", "6")},
		{"d", "c", form("b", "2", "c", "4", "f", "6")},
		{"d", "g", form("b", "2", "f", "6", "g", "4")},
		{"b", "a", form("a", "2", "d", "4", "f", "6")},
		{"b", "e", form("d", "4", "e", "2", "f", "6")},
		{"b", "g", form("d", "4", "f", "6", "g", "2")},
		{"b", "\x00", form("\x00", "2", "d", "4", "f", "6")},
		{"b", "\xff", form("d", "4", "f", "6", "\xff", "2")},
		{"b", "dd", form("d", "4", "dd", "2", "f", "6")},
		{"f", letters(200), form("b", "2", "d", "4", letters(200), "6")},
	} {
		checkThere(t, c.name+" to "+brief(c.to), lens(renames(c.name, c.to)), list, c.want, list)
	}
}

func TestP16AddedInEachPlace(t *testing.T) {
	list := form("b", "2", "d", "4", "f", "6")
	for _, c := range []struct {
		name string
		at   int
	}{{"\x00", 0}, {"a", 0}, {"B", 0}, {"b\x00", 1}, {"c", 1}, {"d0", 2}, {"e", 2}, {"ff", 3}, {"g", 3}, {"\x80", 3}, {"\xff", 3}, {letters(200), 3}} {
		checkThere(t, brief(c.name), lens(adds(c.name, "new")), list, slices.Insert(slices.Clone(list), c.at, pair(c.name, "new")), list)
	}
}

// The Text of the step is not asked of the pair that goes.
func TestP16DroppedFromEachPlace(t *testing.T) {
	list := form("b", "2", "d", "4", "f", "6")
	for i, p := range list {
		rest := slices.Delete(slices.Clone(list), i, i+1)
		checkThere(t, p.Name, lens(drops(p.Name, p.Text)), list, rest, list)
		for _, usual := range []string{"", "?", "2 ", "b", letters(200)} {
			back := slices.Clone(list)
			back[i].Text = usual
			checkThere(t, p.Name+" with "+brief(usual), lens(drops(p.Name, usual)), list, rest, back)
		}
	}
}

// Every pair of a full form is found, and every place between two of them.
func TestP16EachPairOfAFullForm(t *testing.T) {
	list := manyPairs(64)
	for i, p := range list {
		rest := slices.Delete(slices.Clone(list), i, i+1)
		checkThere(t, "drops "+p.Name, lens(drops(p.Name, p.Text)), list, rest, list)
		checkThere(t, "adds "+p.Name, lens(adds(p.Name, p.Text)), rest, list, rest)
		checkThere(t, "renames "+p.Name, lens(renames(p.Name, "a")), list, slices.Concat(form("a", p.Text), rest), list)
		checkThere(t, "renames "+p.Name, lens(renames(p.Name, "z")), list, slices.Concat(rest, form("z", p.Text)), list)
		checkForward(t, "adds "+p.Name+" again", lens(adds(p.Name, "?")), list, nil, impl.ErrLens)
		checkForward(t, "drops a longer one than "+p.Name, lens(drops(p.Name+"!", "?")), list, nil, impl.ErrLens)
		between := slices.Insert(slices.Clone(rest), i, pair(p.Name+"!", p.Text))
		checkThere(t, "renames "+p.Name+" by a byte", lens(renames(p.Name, p.Name+"!")), list, between, list)
	}
}

// Each step meets what the ones ahead of it made.
func TestP16StepsThatMeetOthers(t *testing.T) {
	list := form("a", "1", "b", "2")
	for _, c := range []struct {
		what        string
		steps       []impl.Step
		there, back []impl.Pair
	}{
		{"added and dropped", lens(adds("c", "3"), drops("c", "3")), list, list},
		{"added and dropped with another Text", lens(adds("c", "3"), drops("c", "4")), list, list},
		{"added, dropped and added with another Text", lens(adds("c", "3"), drops("c", "3"), adds("c", "4")), form("a", "1", "b", "2", "c", "4"), list},
		{"dropped and added", lens(drops("a", "1"), adds("a", "1")), list, list},
		{"dropped and added with another Text", lens(drops("a", "1"), adds("a", "9")), form("a", "9", "b", "2"), list},
		{"dropped as unusual and added with another Text", lens(drops("a", "8"), adds("a", "9")), form("a", "9", "b", "2"), form("a", "8", "b", "2")},
		{"dropped and another one called so", lens(drops("a", "1"), renames("b", "a")), form("a", "2"), list},
		{"called otherwise twice", lens(renames("a", "c"), renames("c", "d")), form("b", "2", "d", "1"), list},
		{"called otherwise and back", lens(renames("a", "c"), renames("c", "a")), list, list},
		{"called otherwise and another one added", lens(renames("a", "c"), adds("a", "9")), form("a", "9", "b", "2", "c", "1"), list},
		{"called otherwise and another one called so", lens(renames("a", "c"), renames("b", "a")), form("a", "2", "c", "1"), list},
		{"called otherwise and dropped", lens(renames("a", "c"), drops("c", "1")), form("b", "2"), list},
		{"called otherwise and dropped as unusual", lens(renames("a", "c"), drops("c", "7")), form("b", "2"), form("a", "7", "b", "2")},
		{"called otherwise twice and dropped", lens(renames("a", "c"), renames("c", "d"), drops("d", "7")), form("b", "2"), form("a", "7", "b", "2")},
		{"added and called otherwise", lens(adds("c", "3"), renames("c", "0")), form("0", "3", "a", "1", "b", "2"), list},
		{"added, called otherwise and added again", lens(adds("c", "3"), renames("c", "d"), adds("c", "4")), form("a", "1", "b", "2", "c", "4", "d", "3"), list},
		{"added, called otherwise and dropped", lens(adds("c", "3"), renames("c", "d"), drops("d", "5")), list, list},
		{"two changed over by a third one", lens(renames("a", "c"), renames("b", "a"), renames("c", "b")), form("a", "2", "b", "1"), list},
		{"two changed over and back", lens(renames("a", "c"), renames("b", "a"), renames("c", "b"), renames("a", "c"), renames("b", "a"), renames("c", "b")), list, list},
		{"two changed over, and one dropped", lens(renames("a", "c"), renames("b", "a"), renames("c", "b"), drops("b", "7")), form("a", "2"), form("a", "7", "b", "2")},
		{"all dropped", lens(drops("b", "2"), drops("a", "1")), nil, list},
		{"all dropped, and others", lens(drops("a", "1"), drops("b", "2"), adds("y", "8"), adds("x", "7")), form("x", "7", "y", "8"), list},
	} {
		checkThere(t, c.what, c.steps, list, c.there, c.back)
	}
	for what, steps := range map[string][]impl.Step{
		"added twice":                            lens(adds("c", "3"), adds("c", "3")),
		"added twice with unlike Texts":          lens(adds("c", "3"), adds("c", "4")),
		"dropped twice":                          lens(drops("a", "1"), drops("a", "1")),
		"added, dropped and dropped":             lens(adds("c", "3"), drops("c", "3"), drops("c", "3")),
		"dropped, added and added":               lens(drops("a", "1"), adds("a", "1"), adds("a", "1")),
		"dropped and called otherwise":           lens(drops("a", "1"), renames("a", "c")),
		"called otherwise and dropped":           lens(renames("a", "c"), drops("a", "1")),
		"called otherwise twice":                 lens(renames("a", "c"), renames("a", "d")),
		"called otherwise and that one added":    lens(renames("a", "c"), adds("c", "3")),
		"called otherwise and another one so":    lens(renames("a", "c"), renames("b", "c")),
		"added and another one called so":        lens(adds("c", "3"), renames("a", "c")),
		"two changed over without a third one":   lens(renames("a", "b"), renames("b", "a")),
		"called otherwise, and back to one":      lens(renames("a", "c"), adds("a", "9"), renames("c", "a")),
		"dropped by the name that it had":        lens(renames("b", "c"), renames("a", "b"), drops("a", "1")),
		"the first step fits not, the next does": lens(drops("c", ""), adds("c", "")),
	} {
		checkForward(t, what, steps, list, nil, impl.ErrLens)
		checkLens(t, what, steps, list)
	}
}

// The order of the steps matters: turned about they make something else.
func TestP16StepsInTheirOrder(t *testing.T) {
	list := form("a", "1", "b", "2", "c", "3")
	steps := lens(drops("a", "0"), renames("b", "a"), renames("a", "d"), adds("a", "4"), drops("c", "5"), adds("b", "6"))
	fits := 0
	everyOrder(steps, func(order []impl.Step) {
		if checkLens(t, brief(order), order, list) == impl.OK {
			fits++
		}
	})
	if fits < 2 || fits > 700 {
		t.Errorf("%d orders fit", fits)
	}
	checkThere(t, "as it is", steps, list, form("a", "4", "b", "6", "d", "2"), form("a", "0", "b", "2", "c", "5"))
}

func TestP16AFullForm(t *testing.T) {
	full := manyPairs(64)
	last := full[63]
	for _, name := range []string{"a", "n31x", "z"} {
		checkForward(t, "one more", lens(adds(name, "")), full, nil, impl.ErrMany)
		checkForward(t, "one less and one more", lens(drops("n00", "t"), adds(name, "new")), full, sheafOf(append(form(name, "new"), full[1:]...)).form(), impl.OK)
		checkThere(t, "one less and one more", lens(drops("n63", last.Text), adds(name, "new")), full, sheafOf(append(form(name, "new"), full[:63]...)).form(), full)
		checkThere(t, "called otherwise", lens(renames("n63", name)), full, sheafOf(append(form(name, last.Text), full[:63]...)).form(), full)
		checkForward(t, "called otherwise and one more", lens(renames("n63", name), adds("n63", "")), full, nil, impl.ErrMany)
		checkForward(t, "one less and two more", lens(drops("n00", "t"), adds(name, ""), adds("n00", "")), full, nil, impl.ErrMany)
		checkForward(t, "one more and one less", lens(adds(name, ""), drops(name, "")), full, nil, impl.ErrMany)
		checkThere(t, "up to the last one", lens(adds(name, "new")), full[:63], sheafOf(append(form(name, "new"), full[:63]...)).form(), full[:63])
		checkForward(t, "one above the last one", lens(adds(name, "new"), adds("n63", "")), full[:63], nil, impl.ErrMany)
	}
	for count := 60; count <= 64; count++ {
		for more := range 8 {
			var steps []impl.Step
			for i := range more {
				steps = append(steps, adds(fmt.Sprint("m", i), "t"))
			}
			want := impl.OK
			if count+more > 64 {
				want = impl.ErrMany
			}
			wantCode(t, fmt.Sprint(count, " pairs and ", more, " more"), checkLens(t, "more", steps, manyPairs(count)), want)
		}
	}
	// 32 of 64 are exchanged in two lenses.
	var away, anew []impl.Step
	for i, p := range full[:32] {
		away, anew = append(away, drops(p.Name, p.Text)), append(anew, adds(fmt.Sprint("z", 10+i), p.Text))
	}
	half, _ := impl.LensForward(away, full)
	checkThere(t, "32 less", away, full, full[32:], full)
	again, _ := impl.LensForward(anew, half)
	if len(again) != 64 || !validForm(again) {
		t.Errorf("32 exchanged: %s", brief(again))
	}
	checkBack(t, "32 exchanged", anew, again, half, impl.OK)
}

// All lenses of up to three steps upon three names, on each form that these can make.
func TestP16EverySmallLens(t *testing.T) {
	names := []string{"a", "ab", "b"}
	steps := stepsOn(names, []string{"", "1"})
	forms := formsOn(names, []string{"1", "2"})
	met := map[int]int{}
	everyList(steps, 2, func(list []impl.Step) {
		for _, f := range forms {
			met[checkLens(t, brief(list), list, f)]++
		}
	})
	everyList(stepsOn(names, []string{"1"}), 3, func(list []impl.Step) {
		for _, f := range formsOn(names, []string{"1"}) {
			met[checkLens(t, brief(list), list, f)]++
		}
	})
	if met[impl.OK] < 1000 || met[impl.ErrLens] < 1000 || len(met) != 2 {
		t.Errorf("codes met: %v", met)
	}
}
