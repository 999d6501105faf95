package tests

import (
	"fmt"
	"math"
	"slices"
	"strings"
	"testing"

	"loop.example/g00028/impl"
)

// goodForms are valid forms at the edges that the document names.
func goodForms() map[string][]impl.Pair {
	return map[string][]impl.Pair{
		"no pairs":                        nil,
		"an empty list":                   {},
		"a Name of one byte":              form("a", "t"),
		"a Name of the byte 0":            form("\x00", "t"),
		"a Name of 200 bytes":             form(letters(200), "t"),
		"a Text of none":                  form("a", ""),
		"a Text of 200 bytes":             form("a", letters(200)),
		"all at the limit":                form("w"+letters(199), letters(200), letters(200), letters(200)),
		"Texts alike":                     form("a", "t", "b", "t"),
		"Texts that fall":                 form("a", "z", "b", "a"),
		"a Name that begins the next one": form("a", "1", "ab", "2", "abc", "3"),
		"one that is a byte longer":       form(letters(199), "1", letters(200), "2"),
		"a byte 0 behind it":              form("a", "1", "a\x00", "2", "a\x00\x00", "3"),
		"bytes above 127":                 form("a", "1", "\x7f", "2", "\x80", "3", "\xfe", "4", "\xff", "5", "\xff\xff", "6"),
		"letters of two bytes and three":  form("z", "1", "é", "2", "ü", "3", "→", "4"),
		"bytes that are no runes":         form("\xc3", "\xff", "\xc3\x28", "\xfe", "\xed\xa0\x80", ""),
		"capitals ahead of small ones":    form("A", "1", "B", "2", "a", "3"),
		"digits by bytes":                 form("10", "1", "9", "2"),
		"63 pairs":                        manyPairs(63),
		"64 pairs":                        manyPairs(64),
	}
}

func wrongForms() map[string][]impl.Pair {
	return map[string][]impl.Pair{
		"65 pairs":                             manyPairs(65),
		"66 pairs":                             manyPairs(66),
		"an empty Name":                        form("", "t"),
		"an empty Name ahead":                  form("", "t", "a", "t"),
		"an empty Name at the end":             form("a", "t", "", "t"),
		"a Name of 201 bytes":                  form(letters(201), "t"),
		"a Name of 201 bytes at the end":       form("a", "t", letters(201), "t"),
		"a Text of 201 bytes":                  form("a", letters(201)),
		"a Text of 201 bytes at the end":       form("a", "t", "b", letters(201)),
		"a Text of 201 bytes in 101 letters":   form("a", strings.Repeat("é", 101)),
		"Names that fall":                      form("b", "t", "a", "t"),
		"Names that fall at the end":           form("a", "t", "c", "t", "b", "t"),
		"Names that fall at the beginning":     form("b", "t", "a", "t", "c", "t"),
		"two alike":                            form("a", "t", "a", "t"),
		"two alike with unlike Texts":          form("a", "t", "a", "u"),
		"two alike at the end":                 form("a", "t", "b", "t", "b", "u"),
		"two alike, not one behind the other":  form("a", "t", "b", "t", "a", "t"),
		"a Name behind the one that it begins": form("ab", "1", "a", "2"),
		"a Name behind it by a byte 0":         form("a\x00", "1", "a", "2"),
		"bytes above 127 that fall":            form("\xff", "1", "\x80", "2"),
		"a byte above 127 ahead of a letter":   form("\x80", "1", "a", "2"),
		"a letter of two bytes ahead of a z":   form("é", "1", "z", "2"),
		"small ones ahead of capitals":         form("a", "1", "B", "2"),
		"digits by numbers":                    form("9", "1", "10", "2"),
		"a zero pair":                          {{}},
		"zero pairs":                           make([]impl.Pair, 3),
	}
}

// goodSteps are valid steps of each Kind at the edges.
func goodSteps() map[string]impl.Step {
	long := letters(200)
	return map[string]impl.Step{
		"an LRename of one byte":      renames("x", "y"),
		"an LRename from 200 bytes":   renames(long, "y"),
		"an LRename to 200 bytes":     renames("x", long),
		"an LRename by its last byte": renames(long, letters(199)+"y"),
		"an LRename to what it has":   renames("x", "xx"),
		"an LRename to its beginning": renames("xx", "x"),
		"an LRename by bytes":         renames("\x80", "\xff"),
		"an LRename by its case":      renames("x", "X"),
		"an LAdd without a Text":      adds("y", ""),
		"an LAdd of 200 bytes":        adds(long, "t"),
		"an LAdd with 200 bytes":      adds("y", long),
		"an LAdd of both":             adds(long, long),
		"an LAdd of a byte 255":       adds("\xff", "\xff"),
		"an LDrop without a Text":     drops("x", ""),
		"an LDrop of 200 bytes":       drops(long, "t"),
		"an LDrop with 200 bytes":     drops("x", long),
		"an LDrop of both":            drops(long, long),
		"an LDrop of a byte 0":        drops("\x00", "\x00"),
	}
}

// wrongSteps are, of each Kind, steps that are wrong in one field.
func wrongSteps() map[string]impl.Step {
	over := letters(201)
	list := map[string]impl.Step{
		"an LRename of none":             renames("", "y"),
		"an LRename of 201 bytes":        renames(over, "y"),
		"an LRename to none":             renames("x", ""),
		"an LRename to 201 bytes":        renames("x", over),
		"an LRename to itself":           renames("x", "x"),
		"an LRename of none to none":     renames("", ""),
		"an LRename of 200 to itself":    renames(letters(200), letters(200)),
		"an LRename with a Text":         {Kind: impl.LRename, Name: "x", To: "y", Text: "t"},
		"an LRename with 200 bytes":      {Kind: impl.LRename, Name: "x", To: "y", Text: letters(200)},
		"an LRename with 201 bytes":      {Kind: impl.LRename, Name: "x", To: "y", Text: over},
		"an LRename with a byte 0":       {Kind: impl.LRename, Name: "x", To: "y", Text: "\x00"},
		"an LAdd of none":                adds("", "t"),
		"an LAdd of 201 bytes":           adds(over, "t"),
		"an LAdd with 201 bytes":         adds("y", over),
		"an LAdd with a To":              {Kind: impl.LAdd, Name: "y", To: "z"},
		"an LAdd with a To and a Text":   {Kind: impl.LAdd, Name: "y", To: "z", Text: "t"},
		"an LAdd with itself as To":      {Kind: impl.LAdd, Name: "y", To: "y"},
		"an LAdd with a To of 200":       {Kind: impl.LAdd, Name: "y", To: letters(200)},
		"an LAdd with a To of 201":       {Kind: impl.LAdd, Name: "y", To: over},
		"an LDrop of none":               drops("", "t"),
		"an LDrop of 201 bytes":          drops(over, "t"),
		"an LDrop with 201 bytes":        drops("x", over),
		"an LDrop with a To":             {Kind: impl.LDrop, Name: "x", To: "z"},
		"an LDrop with a To and a Text":  {Kind: impl.LDrop, Name: "x", To: "z", Text: "t"},
		"an LDrop with itself as To":     {Kind: impl.LDrop, Name: "x", To: "x"},
		"an LDrop with a To of 200":      {Kind: impl.LDrop, Name: "x", To: letters(200)},
		"an LDrop with a To of 201":      {Kind: impl.LDrop, Name: "x", To: over},
		"an LAdd with a Text as its To":  {Kind: impl.LAdd, Name: "y", To: "\x00"},
		"an LDrop with a Text as its To": {Kind: impl.LDrop, Name: "x", To: "\x00"},
		"nothing":                        {},
	}
	for _, kind := range []int{0, 4, 5, -1, -2, -3, math.MinInt, math.MaxInt, 1 << 32, 1<<32 + 1, 257, 258, 259} {
		list[fmt.Sprint("Kind ", kind, " with a To")] = impl.Step{Kind: kind, Name: "x", To: "y"}
		list[fmt.Sprint("Kind ", kind, " with a Text")] = impl.Step{Kind: kind, Name: "x", Text: "text"}
	}
	return list
}

// wrongLenses have one wrong step, in each place among good ones, or too many good ones.
func wrongLenses() map[string][]impl.Step {
	good := lens(adds("a", "1"), renames("a", "b"), drops("b", "1"))
	list := map[string][]impl.Step{
		"33 steps": thereAndBack(33), "34 steps": thereAndBack(34), "one step 33 times": slices.Repeat(lens(adds("y", "")), 33),
	}
	for what, wrong := range wrongSteps() {
		for at := range len(good) + 1 {
			list[fmt.Sprint(what, " at ", at)] = slices.Insert(slices.Clone(good), at, wrong)
		}
		list[what+" alone"] = lens(wrong)
		full := thereAndBack(32)
		full[31] = wrong
		list[what+" as the last one"] = full
	}
	return list
}

// checkBadLens asks for ErrBad from each function that gets a lens which is not valid.
func checkBadLens(t *testing.T, what string, wrong []impl.Step) {
	t.Helper()
	for _, list := range [][]impl.Pair{nil, onePair(), manyPairs(64), form("b", "t", "a", "t")} {
		checkForward(t, what, wrong, list, nil, impl.ErrBad)
		checkBack(t, what, wrong, list, nil, impl.ErrBad)
	}
	checkFlip(t, what, wrong, nil, impl.ErrBad)
	for _, other := range [][]impl.Step{nil, lens(adds("y", "")), thereAndBack(32), lens(adds("", "")), wrong} {
		checkJoin(t, what+", ahead", wrong, other, nil, impl.ErrBad)
		checkJoin(t, what+", behind", other, wrong, nil, impl.ErrBad)
	}
}

func TestP16FormsThatAreValid(t *testing.T) {
	for what, list := range goodForms() {
		if !validForm(list) {
			t.Fatalf("%s: no good form", what)
		}
		checkForward(t, what, nil, list, list, impl.OK)
		checkBack(t, what, nil, list, list, impl.OK)
		if len(list) < impl.MaxPairs {
			checkThere(t, what, lens(adds("!", "?")), list, sheafOf(append(form("!", "?"), list...)).form(), list)
		}
		for name, step := range goodSteps() {
			checkLens(t, what+", "+name, lens(step), list)
		}
	}
}

func TestP16FormsThatAreNot(t *testing.T) {
	for what, list := range wrongForms() {
		if validForm(list) {
			t.Fatalf("%s: no wrong form", what)
		}
		for _, steps := range [][]impl.Step{nil, lens(adds("!", "?")), lens(drops("a", "t")), lens(renames("a", "d")), thereAndBack(32)} {
			checkForward(t, what, steps, list, nil, impl.ErrBad)
			checkBack(t, what, steps, list, nil, impl.ErrBad)
		}
	}
	// One pair in the midst of good ones is enough, wherever it stands.
	for at := range 64 {
		for what, wrong := range map[string]impl.Pair{
			"no Name": {Text: "t"}, "a long Name": pair("n00"+letters(198), ""), "a long Text": pair(manyPairs(64)[at].Name, letters(201)),
		} {
			list := manyPairs(64)
			list[at] = wrong
			checkForward(t, fmt.Sprint(what, " at ", at), nil, list, nil, impl.ErrBad)
			checkBack(t, fmt.Sprint(what, " at ", at), nil, list, nil, impl.ErrBad)
		}
		if at > 0 {
			list := manyPairs(64)
			list[at-1], list[at] = list[at], list[at-1]
			checkForward(t, fmt.Sprint("changed over at ", at), nil, list, nil, impl.ErrBad)
			list = manyPairs(64)
			list[at].Name = list[at-1].Name
			checkForward(t, fmt.Sprint("alike at ", at), nil, list, nil, impl.ErrBad)
			checkBack(t, fmt.Sprint("alike at ", at), nil, list, nil, impl.ErrBad)
		}
	}
}

// Every two Names of a pool are held against each other, as the bytes go.
func TestP16NamesRise(t *testing.T) {
	pool := []string{"\x00", "\x00\x00", "A", "a", "a\x00", "aa", "ab", "b", "\x7f", "\x80", "é", "\xff", "\xff\x00", letters(199), letters(200)}
	met := map[bool]int{}
	for _, a := range pool {
		for _, b := range pool {
			list := form(a, "1", b, "2")
			met[validForm(list)]++
			checkLens(t, fmt.Sprintf("%q and %q", brief(a), brief(b)), nil, list)
		}
	}
	if met[true] != len(pool)*(len(pool)-1)/2 || met[false] != len(pool)*(len(pool)+1)/2 {
		t.Errorf("met %v", met)
	}
}

func TestP16LensesThatAreValid(t *testing.T) {
	for what, step := range goodSteps() {
		if !validStep(step) {
			t.Fatalf("%s: no good step", what)
		}
		flip, _ := flipOf(lens(step))
		checkFlip(t, what, lens(step), flip, impl.OK)
		checkJoin(t, what, lens(step), nil, lens(step), impl.OK)
		checkJoin(t, what, nil, lens(step), lens(step), impl.OK)
		checkJoin(t, what, lens(step), flip, slices.Concat(lens(step), flip), impl.OK)
		fits := form(step.Name, "text")
		if step.Kind == impl.LAdd {
			fits = nil
		}
		if code := checkLens(t, what, lens(step), fits); code != impl.OK {
			t.Errorf("%s: code %d", what, code)
		}
	}
	for _, count := range []int{0, 1, 2, 31, 32} {
		steps := thereAndBack(count)
		there := onePair()
		if count%2 == 1 {
			there = form("!", "?", "x", "text")
		}
		checkThere(t, fmt.Sprint(count, " steps"), steps, onePair(), there, onePair())
		flip, _ := flipOf(steps)
		checkFlip(t, fmt.Sprint(count, " steps"), steps, flip, impl.OK)
		checkJoin(t, fmt.Sprint(count, " steps"), steps, nil, steps, impl.OK)
		checkJoin(t, fmt.Sprint(count, " steps"), nil, steps, steps, impl.OK)
	}
	// What is valid need not fit any form.
	checkFlip(t, "fits none", lens(drops("x", ""), drops("x", "")), lens(adds("x", ""), adds("x", "")), impl.OK)
	checkJoin(t, "fits none", lens(drops("x", "")), lens(drops("x", "")), lens(drops("x", ""), drops("x", "")), impl.OK)
}

func TestP16LensesThatAreNot(t *testing.T) {
	for what, step := range wrongSteps() {
		if validStep(step) {
			t.Fatalf("%s: no wrong step", what)
		}
	}
	for what, steps := range wrongLenses() {
		checkBadLens(t, what, steps)
	}
}

// Each Kind with each of its fields empty, of one byte, at the limit and above it, in all ways together.
func TestP16EveryFieldOfAStep(t *testing.T) {
	words := []string{"", "x", "y", letters(200), letters(201)}
	met := map[int]int{}
	for _, kind := range []int{math.MinInt, -1, 0, 1, 2, 3, 4, math.MaxInt} {
		for _, name := range words {
			for _, to := range words {
				for _, text := range words {
					step := impl.Step{Kind: kind, Name: name, To: to, Text: text}
					what := brief(step)
					if !validStep(step) {
						checkBadLens(t, what, lens(step))
						continue
					}
					met[kind]++
					for _, list := range [][]impl.Pair{nil, form(name, "text")} {
						checkLens(t, what, lens(step), list)
					}
					checkJoin(t, what, lens(step), lens(step), lens(step, step), impl.OK)
				}
			}
		}
	}
	if len(met) != 3 || met[1] != 6 || met[2] != 12 || met[3] != 12 {
		t.Errorf("valid steps by Kind: %v", met)
	}
}

// A lens has a limit of its own, and a form too: beyond MaxList it is the same code.
func TestP16VeryLongOnes(t *testing.T) {
	for _, count := range []int{100, impl.MaxList, impl.MaxList + 1, 3 * impl.MaxList} {
		what := fmt.Sprint(count, " steps or pairs")
		checkBadLens(t, what, slices.Repeat(lens(adds("y", "")), count))
		checkBadLens(t, what, make([]impl.Step, count))
		var list []impl.Pair
		for i := range count {
			list = append(list, pair(fmt.Sprintf("n%09d", i), ""))
		}
		checkForward(t, what, nil, list, nil, impl.ErrBad)
		checkBack(t, what, nil, list, nil, impl.ErrBad)
		checkForward(t, what, nil, make([]impl.Pair, count), nil, impl.ErrBad)
		checkForward(t, what, thereAndBack(33), list, nil, impl.ErrBad)
	}
	huge := letters(impl.MaxBytes + 1)
	checkForward(t, "a huge Name", nil, form(huge, ""), nil, impl.ErrBad)
	checkForward(t, "a huge Text", nil, form("a", huge), nil, impl.ErrBad)
	checkBack(t, "a huge Text", nil, form("a", huge), nil, impl.ErrBad)
	checkBadLens(t, "a huge Name", lens(drops(huge, "")))
	checkBadLens(t, "a huge To", lens(renames("a", huge)))
	checkBadLens(t, "a huge Text", lens(adds("a", huge)))
}
