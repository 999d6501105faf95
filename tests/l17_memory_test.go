package tests

import (
	"math"
	"math/rand"
	"slices"
	"sync"
	"testing"

	"loop.example/g00028/impl"
)

// A viewCase is what all three functions are asked with, valid or not.
type viewCase struct {
	columns []impl.Column
	a, b    []impl.Row
	changes []impl.Change
	view    impl.View
}

func viewCases() []viewCase {
	w := newWatcher(171)
	cases := []viewCase{
		{}, {columns: twoColumns()}, {twoColumns(), threeRows(), nil, []impl.Change{{}}, impl.View{}}, {named("b", "a"), threeRows(), threeRows(), nil, impl.View{}},
		{twoColumns(), threeRows(), threeRows()[1:], []impl.Change{departs("a", "red", "x")}, impl.View{Group: "team"}}, {twoColumns(), threeRows()[:1], nil, nil, impl.View{Conds: sameConds(9)}},
		{twoColumns(), []impl.Row{shown("b", "x"), shown("a", "x", "y", "z")}, threeRows(), []impl.Change{arrives("b", "x"), arrives("a")}, viewAsking(asks("x", 7, letters(201)))},
	}
	for range 120 {
		a := w.table()
		b := w.after(a)
		cases = append(cases, viewCase{w.columns, a, b, rowsBetween(a, b), w.view()})
	}
	return cases
}

func copyChanges(list []impl.Change) []impl.Change {
	var copied []impl.Change
	for _, c := range list {
		copied = append(copied, alters(c.Key, slices.Clone(c.Old), slices.Clone(c.New)))
	}
	return copied
}

// boxedIn copies a list into memory that goes on behind its end, and its own lists too.
func boxedIn(t *testing.T, checks *[]func(), list []string) []string {
	boxed, check := watched(t, list, "behind")
	*checks = append(*checks, check)
	return boxed
}

func watchedRows(t *testing.T, checks *[]func(), rows []impl.Row) []impl.Row {
	whole := copyRows(rows)
	for i := range whole {
		whole[i].Values = boxedIn(t, checks, whole[i].Values)
	}
	for range spare {
		whole = append(whole, shown("zzz", "behind", "behind"))
	}
	kept := copyRows(whole)
	*checks = append(*checks, func() {
		t.Helper()
		if !slices.EqualFunc(whole, kept, sameRow) {
			t.Errorf("rows were written into, or behind their end: %s", brief(rows))
		}
	})
	return whole[:len(rows)]
}

func watchedChanges(t *testing.T, checks *[]func(), list []impl.Change) []impl.Change {
	whole := copyChanges(list)
	for i, c := range whole {
		whole[i] = alters(c.Key, boxedIn(t, checks, c.Old), boxedIn(t, checks, c.New))
	}
	for range spare {
		whole = append(whole, arrives("zzz", "behind", "behind"))
	}
	kept := copyChanges(whole)
	*checks = append(*checks, func() {
		t.Helper()
		if !slices.EqualFunc(whole, kept, sameChange) {
			t.Errorf("changes were written into, or behind their end: %s", brief(list))
		}
	})
	return whole[:len(list)]
}

// watchedCase gives a case all of whose lists are watched, and the check of them all.
func watchedCase(t *testing.T, c viewCase) (viewCase, func()) {
	var checks []func()
	columns, checkColumns := watched(t, c.columns, behindColumn())
	conds, checkConds := watched(t, c.view.Conds, asks("behind", 1, "it"))
	checks = append(checks, checkColumns, checkConds)
	seen := viewCase{columns, watchedRows(t, &checks, c.a), watchedRows(t, &checks, c.b), watchedChanges(t, &checks, c.changes), c.view}
	seen.view.Conds = conds
	return seen, func() {
		t.Helper()
		for _, check := range checks {
			check()
		}
	}
}

// checkCase holds all that is answered of a case against what is written down.
func checkCase(t *testing.T, what string, c viewCase) {
	t.Helper()
	checkView(t, what, c.columns, c.a, c.view)
	checkView(t, what, c.columns, c.b, c.view)
	checkBetween(t, what, c.columns, c.a, c.b)
	checkFlow(t, what, c.columns, c.a, c.changes, c.view)
}

func TestP1RowsAndViewsAreNotWrittenInto(t *testing.T) {
	for _, c := range viewCases() {
		seen, check := watchedCase(t, c)
		checkCase(t, "watched", seen)
		check()
		// The same memory on both sides, and as what goes and what comes.
		impl.RowChanges(seen.columns, seen.a, seen.a)
		impl.ViewChanges(seen.columns, seen.b, seen.changes, seen.view)
		check()
	}
}

// What lies behind the end of an argument, in the same memory, is not a part of it.
func TestP1NothingBehindRowsCounts(t *testing.T) {
	rows, columns := manyRows(40), twoColumns()
	for end := range rows {
		part := rows[:end]
		for _, v := range someViews() {
			wantView(t, "the beginning", columns, part, v, viewLines(columns, copyRows(part), v)...)
		}
		wantBetween(t, "the beginning", columns, part, rows[:end+1], arrives(rows[end].Key, rows[end].Values...))
		list := allArrive(rows)[:end]
		wantFlow(t, "the beginning", columns, nil, list, impl.View{}, nil, viewLines(columns, part, impl.View{}))
	}
	// The values of all rows are pieces of one memory, one behind the other.
	memory := texts("red", "c", "red", "c", "blue", "zz", "green")
	pieces := []impl.Row{{Key: "a", Values: memory[0:2]}, {Key: "b", Values: memory[2:4]}, {Key: "c", Values: memory[4:6]}}
	wantView(t, "pieces", columns, pieces, impl.View{}, "a=red,c", "b=red,c", "c=blue,zz")
	list, _ := impl.RowChanges(columns, nil, pieces)
	for i, c := range list {
		list[i].New = append(c.New, "more")
	}
	if !slices.Equal(memory, texts("red", "c", "red", "c", "blue", "zz", "green")) {
		t.Errorf("written into: %s", memory)
	}
}

// What is answered shares no memory with an argument, nor with another answer; written over, it is answered again.
func TestP1AnsweredLinesAreNew(t *testing.T) {
	told := 0
	for _, c := range viewCases() {
		seen, check := watchedCase(t, c)
		lines, code := impl.ViewOf(seen.columns, seen.a, seen.view)
		kept := slices.Clone(lines)
		scribble(lines, "!")
		gone, come, codeOfChanges := impl.ViewChanges(seen.columns, seen.a, seen.changes, seen.view)
		keptGone, keptCome := slices.Clone(gone), slices.Clone(come)
		scribble(gone, "!")
		if !slices.Equal(come, keptCome) {
			t.Errorf("what goes and what comes share memory: %s", brief(come))
		}
		scribble(come, "!")
		check()
		told += len(kept) + len(keptGone) + len(keptCome)
		if code == impl.OK {
			wantView(t, "written over", seen.columns, seen.a, seen.view, kept...)
		}
		if codeOfChanges == impl.OK {
			wantFlow(t, "written over", seen.columns, seen.a, seen.changes, seen.view, keptGone, keptCome)
		}
		other, _ := impl.ViewOf(seen.columns, seen.a, seen.view)
		spoil(seen)
		if !slices.Equal(other, kept) {
			t.Errorf("lines share memory with an argument: %s", brief(other))
		}
		checkCase(t, "behind that", c)
	}
	if told < 300 {
		t.Errorf("only %d lines", told)
	}
}

// spoil writes over all that a case has.
func spoil(c viewCase) {
	for _, row := range slices.Concat(c.a, c.b) {
		scribble(row.Values, "!")
	}
	for _, one := range c.changes {
		scribble(one.Old, "!")
		scribble(one.New, "!")
	}
	scribble(c.a, shown("!"))
	scribble(c.b, shown("!"))
	scribble(c.changes, arrives("!"))
	scribble(c.columns, impl.Column{Name: "!"})
	scribble(c.view.Conds, asks("!", 9, "!"))
}

func TestP1AnsweredChangesAreNew(t *testing.T) {
	told := 0
	for _, c := range viewCases() {
		seen, check := watchedCase(t, c)
		list, code := impl.RowChanges(seen.columns, seen.a, seen.b)
		kept := copyChanges(list)
		told += len(kept)
		// No two lists of one answer share memory, not even behind their ends.
		for i := range list {
			scribble(list[i].Old, "!")
			if !slices.Equal(list[i].New, kept[i].New) || !slices.EqualFunc(list[i+1:], kept[i+1:], sameChange) {
				t.Errorf("the lists of one answer share memory: %s, was %s", brief(list), brief(kept))
			}
			scribble(list[i].New, "!")
			if !slices.EqualFunc(list[i+1:], kept[i+1:], sameChange) {
				t.Errorf("the lists of one answer share memory: %s, was %s", brief(list), brief(kept))
			}
		}
		scribble(list, arrives("!"))
		check()
		if code == impl.OK {
			wantBetween(t, "written over", seen.columns, seen.a, seen.b, kept...)
		}
		other, _ := impl.RowChanges(seen.columns, seen.a, seen.b)
		spoil(seen)
		if !slices.EqualFunc(other, kept, sameChange) {
			t.Errorf("changes share memory with an argument: %s, was %s", brief(other), brief(kept))
		}
	}
	if told < 100 {
		t.Errorf("only %d changes", told)
	}
}

// Nothing is kept from call to call, also with many at once.
func TestP1ViewsKeepNothing(t *testing.T) {
	cases := viewCases()
	for range 3 {
		for _, c := range cases {
			checkCase(t, "behind others", c)
			wantView(t, "behind others", twoColumns(), threeRows(), impl.View{Group: "team"}, "blue:1", "red:2")
			wantFlow(t, "behind others", twoColumns(), threeRows(), []impl.Change{departs("a", "red", "c")}, impl.View{Group: "team"}, texts("red:2"), texts("red:1"))
		}
	}
	var all sync.WaitGroup
	for range 10 {
		for _, c := range cases {
			all.Add(1)
			go func() {
				defer all.Done()
				checkCase(t, "at once", c)
			}()
		}
	}
	all.Wait()
}

func anyTexts(random *rand.Rand) []string {
	lists := [][]string{nil, {}, {"x"}, {"x", "y"}, {"x", "y"}, {"x", "y"}, {"", "a"}, {"y", "b"}, {"a", "b", "c"}, {letters(200), "a"}, {letters(201), "a"}}
	return lists[random.Intn(len(lists))]
}

func anyRows(random *rand.Rand) []impl.Row {
	var rows []impl.Row
	for _, key := range texts("a", "b", "c") {
		if random.Intn(2) == 0 {
			rows = append(rows, shown(key, []string{"x", "y", ""}[random.Intn(3)], []string{"a", "b", "n"}[random.Intn(3)]))
		}
	}
	if random.Intn(8) == 0 {
		rows = append(rows, shown(anyWord(random), anyTexts(random)...))
	}
	return rows
}

func anyRowChanges(random *rand.Rand, rows []impl.Row) []impl.Change {
	var list []impl.Change
	for _, row := range rows {
		if random.Intn(2) == 0 {
			list = append(list, alters(row.Key, row.Values, anyTexts(random)))
		}
	}
	if random.Intn(4) == 0 {
		list = append(list, alters(anyWord(random), anyTexts(random), anyTexts(random)))
	}
	if random.Intn(3) == 0 {
		list = append(list, arrives("d", "x", "a"))
	}
	return list
}

func anyView(random *rand.Rand) impl.View {
	names := texts("", "", "team", "team", "up", "up", "x")
	kinds := []int{1, 1, 2, 2, 3, 4, 0, 5, -1, math.MinInt, math.MaxInt}
	v := impl.View{Group: names[random.Intn(len(names))], Link: names[random.Intn(len(names))]}
	for range random.Intn(3) {
		v.Conds = append(v.Conds, asks(names[random.Intn(len(names))], kinds[random.Intn(len(kinds))], anyWord(random)))
	}
	return v
}

// No panic and an end, and just what the document says, for rows, changes and views of all kinds.
func TestP1AnyViews(t *testing.T) {
	random := rand.New(rand.NewSource(172))
	lists := append(wrongColumns(), named("x"), named("team", "up", "x"))
	codes := map[int]int{}
	for range 20000 {
		columns := twoColumns()
		if random.Intn(12) == 0 {
			columns = lists[random.Intn(len(lists))]
		}
		a, b, v := anyRows(random), anyRows(random), anyView(random)
		codes[checkView(t, "any", columns, a, v)]++
		codes[100+checkBetween(t, "any", columns, a, b)]++
		codes[200+checkFlow(t, "any", columns, a, anyRowChanges(random, a), v)]++
	}
	for _, code := range []int{impl.OK, impl.ErrBad, 100, 100 + impl.ErrBad, 200, 200 + impl.ErrBad} {
		if codes[code] < 500 {
			t.Errorf("code %d came %d times: %v", code, codes[code], codes)
		}
	}
}

// Lists of a size that nobody needs are told at once.
func TestP1HugeRowsAndViews(t *testing.T) {
	rows, columns, changes := make([]impl.Row, 1<<20), make([]impl.Column, 1<<20), make([]impl.Change, 1<<20)
	many := impl.View{Conds: make([]impl.Cond, 1<<20)}
	checkNoView(t, "huge", columns, rows, many)
	checkNoView(t, "huge", twoColumns(), rows, many)
	checkNoView(t, "huge", twoColumns(), threeRows(), many)
	checkNoneBetween(t, "huge", columns, rows, rows)
	checkNoneBetween(t, "huge", twoColumns(), nil, rows)
	checkNoFlow(t, "huge", columns, rows, changes, many, impl.ErrLong)
	checkNoFlow(t, "huge", columns, rows, nil, many, impl.ErrBad)
	checkNoFlow(t, "huge", twoColumns(), threeRows(), nil, many, impl.ErrBad)
	wide := []impl.Row{shown("a", make([]string, 1<<20)...)}
	checkNoView(t, "wide", twoColumns(), wide, impl.View{})
	checkNoneBetween(t, "wide", twoColumns(), wide, wide)
	long := viewAsking(asks("", 1, letters(1<<26)))
	checkNoView(t, "long", twoColumns(), threeRows(), long)
	// The longest rows that there can be, all of which link to one.
	longest := manyColumns(impl.MaxColumns)
	var most []impl.Row
	for i := range impl.MaxOps {
		values := slices.Repeat([]string{letters(impl.MaxWord)}, impl.MaxColumns)
		values[0] = letters(196) + "1000"
		most = append(most, shown(letters(196)+string(rune('1'+i/1000))+string([]byte{byte('0' + i/100%10), byte('0' + i/10%10), byte('0' + i%10)}), values...))
	}
	for _, v := range []impl.View{{}, {Link: "c0000"}, {Group: "c0001", Link: "c0000"}} {
		lines, code := impl.ViewOf(longest, most, v)
		wantCode(t, "longest", code, impl.OK)
		if v.Group == "" && len(lines) != impl.MaxOps || v.Group != "" && !slices.Equal(lines, texts(letters(200)+":2048")) {
			t.Errorf("longest by %s: %d lines", brief(v), len(lines))
		}
		gone, come, code := impl.ViewChanges(longest, most, []impl.Change{departs(most[0].Key, most[0].Values...)}, v)
		wantCode(t, "longest", code, impl.OK)
		if len(gone) == 0 || v.Group != "" && len(come) != 0 {
			t.Errorf("longest by %s: %d go, %d come", brief(v), len(gone), len(come))
		}
	}
}
