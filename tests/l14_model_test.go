package tests

import (
	"math/rand"
	"slices"
	"sort"
	"testing"

	"loop.example/g00028/impl"
)

func pair(name, text string) impl.Pair { return impl.Pair{Name: name, Text: text} }

// form lays names and texts, in turns, into pairs as they stand.
func form(words ...string) []impl.Pair {
	var list []impl.Pair
	for i := 0; i < len(words); i += 2 {
		list = append(list, pair(words[i], words[i+1]))
	}
	return list
}

func renames(name, to string) impl.Step {
	return impl.Step{Kind: impl.LRename, Name: name, To: to}
}

func adds(name, text string) impl.Step {
	return impl.Step{Kind: impl.LAdd, Name: name, Text: text}
}

func drops(name, text string) impl.Step {
	return impl.Step{Kind: impl.LDrop, Name: name, Text: text}
}

func lens(steps ...impl.Step) []impl.Step { return steps }

// validStep asks what the document asks of a step, by numbers alone.
func validStep(s impl.Step) bool {
	name, to, text := len(s.Name), len(s.To), len(s.Text)
	switch {
	case name < 1 || name > 200:
		return false
	case s.Kind == 1:
		return to > 0 && to < 201 && text == 0 && s.To != s.Name
	case s.Kind == 2 || s.Kind == 3:
		return to == 0 && text < 201
	}
	return false
}

func validLens(steps []impl.Step) bool {
	for _, s := range steps {
		if !validStep(s) {
			return false
		}
	}
	return len(steps) < 33
}

func validForm(list []impl.Pair) bool {
	var last []byte
	for _, p := range list {
		name := []byte(p.Name)
		if len(name) == 0 || len(name) > 200 || len(p.Text) > 200 || !risesTo(last, name) {
			return false
		}
		last = name
	}
	return len(list) < 65
}

// risesTo tells whether a text comes ahead of another one, byte by byte.
func risesTo(a, b []byte) bool {
	for i := range a {
		if i == len(b) || a[i] != b[i] {
			return i < len(b) && a[i] < b[i]
		}
	}
	return len(a) < len(b)
}

// A sheaf has the pairs of a form in no order.
type sheaf map[string]string

func sheafOf(list []impl.Pair) sheaf {
	s := sheaf{}
	for _, p := range list {
		s[p.Name] = p.Text
	}
	return s
}

func (s sheaf) form() []impl.Pair {
	var list []impl.Pair
	for name, text := range s {
		list = append(list, pair(name, text))
	}
	sort.Slice(list, func(i, j int) bool { return risesTo([]byte(list[i].Name), []byte(list[j].Name)) })
	return list
}

func (s sheaf) take(step impl.Step) int {
	text, isThere := s[step.Name]
	_, isTaken := s[step.To]
	switch {
	case isThere == (step.Kind == impl.LAdd), isTaken:
		return impl.ErrLens
	case step.Kind == impl.LAdd && len(s) == 64:
		return impl.ErrMany
	case step.Kind == impl.LAdd:
		s[step.Name] = step.Text
		return impl.OK
	}
	delete(s, step.Name)
	if step.Kind == impl.LRename {
		s[step.To] = text
	}
	return impl.OK
}

// forwardOf says by the document's words what LensForward answers.
func forwardOf(steps []impl.Step, list []impl.Pair) ([]impl.Pair, int) {
	if !validLens(steps) || !validForm(list) {
		return nil, impl.ErrBad
	}
	s := sheafOf(list)
	for _, step := range steps {
		if code := s.take(step); code != impl.OK {
			return nil, code
		}
	}
	return s.form(), impl.OK
}

// flipOf says what LensFlip answers.
func flipOf(steps []impl.Step) ([]impl.Step, int) {
	if !validLens(steps) {
		return nil, impl.ErrBad
	}
	list := make([]impl.Step, len(steps))
	for i, s := range steps {
		other := impl.Step{Kind: []int{0, 1, 3, 2}[s.Kind], Name: s.Name, Text: s.Text}
		if s.Kind == impl.LRename {
			other.Name, other.To = s.To, s.Name
		}
		list[len(steps)-1-i] = other
	}
	return list, impl.OK
}

// usualOf is the form to which one comes back: each of its pairs that a step drops has that step's Text. It follows
// the pairs by what they were called at first.
func usualOf(steps []impl.Step, list []impl.Pair) []impl.Pair {
	first := map[string]string{}
	for _, p := range list {
		first[p.Name] = p.Name
	}
	back := sheafOf(list)
	for _, s := range steps {
		origin, isOld := first[s.Name]
		delete(first, s.Name)
		if isOld && s.Kind == impl.LRename {
			first[s.To] = origin
		}
		if isOld && s.Kind == impl.LDrop {
			back[origin] = s.Text
		}
	}
	return back.form()
}

// checkPairs asks for an answer that is written down.
func checkPairs(t *testing.T, what string, got []impl.Pair, code int, want []impl.Pair, wantCode int) {
	t.Helper()
	if code != wantCode || !slices.Equal(got, want) {
		t.Errorf("%s: %s, code %d, want %s, code %d", what, brief(got), code, brief(want), wantCode)
	}
}

func checkLensIs(t *testing.T, what string, got []impl.Step, code int, want []impl.Step, wantCode int) {
	t.Helper()
	if code != wantCode || !slices.Equal(got, want) {
		t.Errorf("%s: %s, code %d, want %s, code %d", what, brief(got), code, brief(want), wantCode)
	}
}

func checkForward(t *testing.T, what string, steps []impl.Step, list, want []impl.Pair, wantCode int) {
	t.Helper()
	got, code := impl.LensForward(steps, list)
	checkPairs(t, what+": LensForward", got, code, want, wantCode)
}

func checkBack(t *testing.T, what string, steps []impl.Step, list, want []impl.Pair, wantCode int) {
	t.Helper()
	got, code := impl.LensBack(steps, list)
	checkPairs(t, what+": LensBack", got, code, want, wantCode)
}

func checkFlip(t *testing.T, what string, steps, want []impl.Step, wantCode int) {
	t.Helper()
	got, code := impl.LensFlip(steps)
	checkLensIs(t, what+": LensFlip", got, code, want, wantCode)
}

func checkJoin(t *testing.T, what string, a, b, want []impl.Step, wantCode int) {
	t.Helper()
	got, code := impl.LensJoin(a, b)
	checkLensIs(t, what+": LensJoin", got, code, want, wantCode)
}

// checkThere asks that a lens makes of one form another one, and goes back from there to a third one.
func checkThere(t *testing.T, what string, steps []impl.Step, list, there, back []impl.Pair) {
	t.Helper()
	checkForward(t, what, steps, list, there, impl.OK)
	checkBack(t, what, steps, there, back, impl.OK)
	checkLens(t, what, steps, list)
}

// checkLens holds all that is asked of a lens and a form against the other program, and gives the code of the way
// there. Whatever went there goes back.
func checkLens(t *testing.T, what string, steps []impl.Step, list []impl.Pair) int {
	t.Helper()
	there, code := forwardOf(steps, list)
	checkForward(t, what, steps, list, there, code)
	if code == impl.OK {
		checkBack(t, what+", from there", steps, there, usualOf(steps, list), impl.OK)
	}
	flip, flipCode := flipOf(steps)
	checkFlip(t, what, steps, flip, flipCode)
	back, backCode := forwardOf(flip, list)
	if flipCode != impl.OK {
		back, backCode = nil, flipCode
	}
	checkBack(t, what, steps, list, back, backCode)
	if flipCode == impl.OK {
		checkFlip(t, what+", twice", flip, steps, impl.OK)
		checkForward(t, what+", turned over", flip, list, back, backCode)
	}
	return code
}

// manyPairs is a valid form of so many pairs, n00, n01, .. with unlike Texts.
func manyPairs(count int) []impl.Pair {
	var list []impl.Pair
	for i := range count {
		list = append(list, pair("n"+string(rune('0'+i/10))+string(rune('0'+i%10)), "t"+letters(i)))
	}
	return list
}

// onePair is a form of which the only pair is called x.
func onePair() []impl.Pair { return form("x", "text") }

// thereAndBack is a valid lens of so many steps that fits every form without a pair "!": that one comes and goes.
func thereAndBack(count int) []impl.Step {
	var steps []impl.Step
	for i := range count {
		if i%2 == 0 {
			steps = append(steps, adds("!", "?"))
		} else {
			steps = append(steps, drops("!", "?"))
		}
	}
	return steps
}

// stepsOn are steps upon names, each that is valid.
func stepsOn(names, texts []string) []impl.Step {
	var list []impl.Step
	for _, name := range names {
		for _, to := range names {
			if to != name {
				list = append(list, renames(name, to))
			}
		}
		for _, text := range texts {
			list = append(list, adds(name, text), drops(name, text))
		}
	}
	return list
}

// formsOn are the forms that have each of names with one of texts, or not at all.
func formsOn(names, texts []string) [][]impl.Pair {
	lists := [][]impl.Pair{nil}
	for _, name := range names {
		for _, list := range lists {
			for _, text := range texts {
				lists = append(lists, append(slices.Clone(list), pair(name, text)))
			}
		}
	}
	return lists
}

// fittingLens is a random lens of so many steps that fits a form; nothing is dropped that is not usual, if usual.
func fittingLens(random *rand.Rand, names []string, list []impl.Pair, size int, usual bool) []impl.Step {
	s := sheafOf(list)
	var steps []impl.Step
	for len(steps) < size {
		name := names[random.Intn(len(names))]
		text := names[random.Intn(len(names))]
		step := []impl.Step{renames(name, text), adds(name, text), drops(name, text)}[random.Intn(3)]
		if step.Kind == impl.LDrop && usual {
			step.Text = s[name]
		}
		if validStep(step) && s.take(step) == impl.OK {
			steps = append(steps, step)
		}
	}
	return steps
}

// someForm is a random form out of names, which rise.
func someForm(random *rand.Rand, names []string) []impl.Pair {
	var list []impl.Pair
	for _, name := range names {
		if len(list) < impl.MaxPairs && random.Intn(2) == 0 {
			list = append(list, pair(name, names[random.Intn(len(names))]))
		}
	}
	return list
}
