package tests

import (
	"fmt"
	"slices"
	"testing"

	"loop.example/g00028/impl"
)

func TestP19NoChanges(t *testing.T) {
	for _, list := range [][]impl.Change{nil, {}} {
		for _, v := range someViews() {
			for _, rows := range [][]impl.Row{nil, {}, threeRows(), linkRows()} {
				wantFlow(t, "no changes", twoColumns(), rows, list, v, nil, nil)
			}
		}
	}
}

func TestP19RowsThatComeAndGo(t *testing.T) {
	columns := twoColumns()
	all := []impl.Change{departs("a", "red", "c"), alters("b", texts("red", "c"), texts("blue", "c")), arrives("d", "red", "b")}
	wantFlow(t, "rows", columns, threeRows(), all, impl.View{}, texts("a=red,c", "b=red,c"), texts("b=blue,c", "d=red,b"))
	red := asks("team", impl.CSame, "red")
	wantFlow(t, "red rows", columns, threeRows(), all, viewAsking(red), texts("a=red,c", "b=red,c"), texts("d=red,b"))
	wantFlow(t, "blue rows", columns, threeRows(), all, viewAsking(asks("team", impl.CSame, "blue")), nil, texts("b=blue,c"))
	wantFlow(t, "none of them", columns, threeRows(), all, viewAsking(asks("", impl.CSame, "c")), nil, nil)
	wantFlow(t, "groups", columns, threeRows(), all, impl.View{Group: "team"}, texts("blue:1", "red:2"), texts("blue:2", "red:1"))
	wantFlow(t, "links", columns, threeRows(), all, impl.View{Link: "up"}, texts("a=red,c>c", "b=red,c>c"), texts("b=blue,c>c", "d=red,b>b"))
	wantFlow(t, "groups of links", columns, threeRows(), all, impl.View{Link: "up", Group: "team"}, nil, nil)
	for _, v := range someViews() {
		everyPart(all, func(some []impl.Change) { checkFlow(t, "some of them", columns, threeRows(), some, v) })
	}
}

// everyPart calls use with each of the lists that are left when some are taken out.
func everyPart[T any](list []T, use func([]T)) {
	for bits := range 1 << len(list) {
		var some []T
		for i, one := range list {
			if bits>>i&1 == 1 {
				some = append(some, one)
			}
		}
		use(some)
	}
}

// A row changes, and with it what is told of those that link to it, though these did not change.
func TestP19LinkedRowsThatChange(t *testing.T) {
	columns := twoColumns()
	change := []impl.Change{alters("b", texts("blue", "b"), texts("green", "b"))}
	both := impl.View{Link: "up", Group: "team"}
	wantFlow(t, "its group", columns, linkRows(), change, both, texts("blue:3"), texts("green:3"))
	wantFlow(t, "its group alone is told", columns, linkRows(), change, impl.View{Link: "up"}, texts("b=blue,b>b"), texts("b=green,b>b"))
	red := []impl.Cond{asks("team", impl.CSame, "red")}
	wantFlow(t, "who links is red", columns, linkRows(), change, impl.View{Conds: red, Link: "up", Group: "team"}, texts("blue:2"), texts("green:2"))
	wantFlow(t, "who links is red", columns, linkRows(), change, impl.View{Conds: red, Link: "up"}, nil, nil)
	// It need not meet the Conds, neither before nor behind.
	key := []impl.Cond{asks("", impl.CBelow, "b")}
	wantFlow(t, "by Key", columns, linkRows(), change, impl.View{Conds: key, Link: "up", Group: "team"}, texts("blue:1"), texts("green:1"))
	// The group that is told may be the Link itself.
	turned := []impl.Change{alters("b", texts("blue", "b"), texts("blue", "f"))}
	wantFlow(t, "its own link", columns, linkRows(), turned, impl.View{Link: "up", Group: "up"}, texts("b:4"), texts("b:2", "f:2"))
	wantFlow(t, "its own link", columns, linkRows(), turned, impl.View{Link: "up"}, texts("b=blue,b>b"), texts("b=blue,f>f"))
}

func TestP19LinkedRowsThatComeAndGo(t *testing.T) {
	columns := twoColumns()
	both := impl.View{Link: "up", Group: "team"}
	gone := []impl.Change{departs("b", "blue", "b")}
	wantFlow(t, "goes", columns, linkRows(), gone, both, texts("blue:3"), nil)
	wantFlow(t, "goes", columns, linkRows(), gone, impl.View{Link: "up"}, texts("a=red,b>b", "b=blue,b>b", "f=red,b>b"), nil)
	without := rowsBehind(linkRows(), gone)
	back := []impl.Change{arrives("b", "blue", "b")}
	wantFlow(t, "comes", columns, without, back, both, nil, texts("blue:3"))
	wantFlow(t, "comes", columns, without, back, impl.View{Link: "up"}, nil, texts("a=red,b>b", "b=blue,b>b", "f=red,b>b"))
	other := []impl.Change{arrives("b", "green", "nobody")}
	wantFlow(t, "comes otherwise", columns, without, other, both, nil, texts("green:2"))
	none := []impl.Change{arrives("nobody", "", "")}
	wantFlow(t, "somebody comes", columns, linkRows(), none, impl.View{Link: "up"}, nil, texts("c=red,nobody>nobody"))
	wantFlow(t, "somebody comes", columns, linkRows(), none, both, nil, texts(":1"))
	// Both sides of a link come or go at once: it is told once.
	pair := []impl.Change{arrives("x", "one", "y"), arrives("y", "two", "x")}
	wantFlow(t, "both come", columns, linkRows(), pair, both, nil, texts("one:1", "two:1"))
	wantFlow(t, "both come", columns, linkRows(), pair, impl.View{Link: "up"}, nil, texts("x=one,y>y", "y=two,x>x"))
	wantFlow(t, "both go", columns, []impl.Row{shown("x", "one", "y"), shown("y", "two", "x")}, []impl.Change{departs("x", "one", "y"), departs("y", "two", "x")}, both, texts("one:1", "two:1"), nil)
	wantFlow(t, "one goes, one comes", columns, []impl.Row{shown("x", "one", "z"), shown("y", "two", "x")}, []impl.Change{departs("x", "one", "z"), arrives("z", "3", "y")}, both, texts("one:1"), texts("two:1"))
	wantFlow(t, "who links goes, who is linked changes", columns, []impl.Row{shown("x", "one", "y"), shown("y", "two", "")}, []impl.Change{departs("x", "one", "y"), alters("y", texts("two", ""), texts("3", ""))}, both, texts("two:1"), nil)
	wantFlow(t, "both change", columns, []impl.Row{shown("x", "one", "y"), shown("y", "two", "")}, []impl.Change{alters("x", texts("one", "y"), texts("one", "x")), alters("y", texts("two", ""), texts("3", "x"))}, both, texts("two:1"), texts("one:2"))
}

func TestP19RowsThatLinkToThemselves(t *testing.T) {
	columns := twoColumns()
	rows := []impl.Row{shown("k", "one", "k")}
	for _, c := range []struct {
		next       []string
		v          impl.View
		gone, come []string
	}{
		{texts("two", "k"), impl.View{Link: "up"}, texts("k=one,k>k"), texts("k=two,k>k")}, {texts("two", "k"), impl.View{Link: "up", Group: "team"}, texts("one:1"), texts("two:1")},
		{texts("one", ""), impl.View{Link: "up"}, texts("k=one,k>k"), nil}, {texts("one", "x"), impl.View{Link: "up", Group: "team"}, texts("one:1"), nil},
		{nil, impl.View{Link: "up"}, texts("k=one,k>k"), nil}, {nil, impl.View{Link: "up", Group: "up"}, texts("k:1"), nil},
		{texts("two", "k"), impl.View{Link: "up", Group: "up"}, nil, nil}, {texts("k", "x"), impl.View{Link: "team", Group: "up"}, nil, texts("x:1")},
	} {
		wantFlow(t, "itself", columns, rows, []impl.Change{alters("k", texts("one", "k"), c.next)}, c.v, c.gone, c.come)
		if c.next != nil {
			wantFlow(t, "itself, back", columns, []impl.Row{shown("k", c.next...)}, []impl.Change{alters("k", c.next, texts("one", "k"))}, c.v, c.come, c.gone)
		} else {
			wantFlow(t, "itself, back", columns, nil, []impl.Change{arrives("k", "one", "k")}, c.v, c.come, c.gone)
		}
	}
}

// What goes and comes as often is in neither list.
func TestP19LinesThatStay(t *testing.T) {
	columns := named("a", "b")
	// One row goes and another one comes with the same line.
	rows := []impl.Row{shown("k", "x=y", "")}
	wantFlow(t, "another row", columns, rows, []impl.Change{departs("k", "x=y", ""), arrives("k=x", "y", "")}, impl.View{}, nil, nil)
	// A row changes its values and not its line.
	wantFlow(t, "another comma", columns, []impl.Row{shown("k", "x,y", "z")}, []impl.Change{alters("k", texts("x,y", "z"), texts("x", "y,z"))}, impl.View{}, nil, nil)
	// Two rows exchange their groups.
	rows = []impl.Row{shown("k", "1", ""), shown("l", "2", "")}
	exchange := []impl.Change{alters("k", texts("1", ""), texts("2", "")), alters("l", texts("2", ""), texts("1", ""))}
	wantFlow(t, "exchanged", columns, rows, exchange, impl.View{Group: "a"}, nil, nil)
	wantFlow(t, "exchanged", columns, rows, exchange, impl.View{}, texts("k=1,", "l=2,"), texts("k=2,", "l=1,"))
	wantFlow(t, "what is not told", columns, rows, []impl.Change{alters("k", texts("1", ""), texts("1", "x"))}, impl.View{Group: "a"}, nil, nil)
	wantFlow(t, "not met, before and behind", columns, rows, exchange, viewAsking(asks("a", impl.CSame, "3")), nil, nil)
	// Two go and one comes.
	rows = []impl.Row{shown("k", "x=y", ""), shown("k=x", "y", "")}
	wantFlow(t, "two go, one comes", columns, rows, []impl.Change{departs("k", "x=y", ""), departs("k=x", "y", ""), arrives("k=x=y", "", "")}, impl.View{}, texts("k=x=y,", "k=x=y,"), texts("k=x=y=,"))
	rows = []impl.Row{shown("k", "x==", ""), shown("k=x", "=", "")}
	two := []impl.Change{departs("k", "x==", ""), departs("k=x", "=", ""), arrives("k=x=", "", "")}
	wantFlow(t, "two go, one comes", columns, rows, two, impl.View{}, texts("k=x==,"), nil)
	wantFlow(t, "one goes, two come", columns, []impl.Row{shown("k=x=", "", "")}, []impl.Change{arrives("k", "x==", ""), arrives("k=x", "=", ""), departs("k=x=", "", "")}, impl.View{}, nil, texts("k=x==,"))
}

// A line that is told twice goes once, or twice.
func TestP19LinesToldTwice(t *testing.T) {
	columns := named("a", "b")
	rows := []impl.Row{shown("a", "b=c", "d"), shown("a=b", "c", "d"), shown("z", "", "")}
	first, second := departs("a", "b=c", "d"), departs("a=b", "c", "d")
	line := "a=b=c,d"
	wantFlow(t, "the first", columns, rows, []impl.Change{first}, impl.View{}, texts(line), nil)
	wantFlow(t, "the second", columns, rows, []impl.Change{second}, impl.View{}, texts(line), nil)
	wantFlow(t, "both", columns, rows, []impl.Change{first, second}, impl.View{}, texts(line, line), nil)
	wantFlow(t, "both come", columns, rows[2:], []impl.Change{arrives("a", "b=c", "d"), arrives("a=b", "c", "d")}, impl.View{}, nil, texts(line, line))
	wantFlow(t, "one more comes", columns, rows[1:], []impl.Change{arrives("a", "b=c", "d")}, impl.View{}, nil, texts(line))
	wantFlow(t, "one is otherwise", columns, rows, []impl.Change{alters("a", texts("b=c", "d"), texts("b=c", "e"))}, impl.View{}, texts(line), texts("a=b=c,e"))
	wantFlow(t, "one is met no more", columns, rows, []impl.Change{alters("a=b", texts("c", "d"), texts("x", "d"))}, viewAsking(asks("a", impl.COther, "x")), texts(line), nil)
	linked := []impl.Row{shown("a", "b=c", "z"), shown("a=b", "c", "z"), shown("z", "", "")}
	wantFlow(t, "linked", columns, linked, []impl.Change{departs("z", "", "")}, impl.View{Link: "b"}, texts("a=b=c,z>z", "a=b=c,z>z"), nil)
	wantFlow(t, "one linked", columns, linked, []impl.Change{departs("a=b", "c", "z")}, impl.View{Link: "b"}, texts("a=b=c,z>z"), nil)
}

func TestP19NumbersOfGroups(t *testing.T) {
	columns := named("v", "w")
	rows := []impl.Row{shown("k0", "x", ""), shown("k1", "y", ""), shown("k2", "y", "")}
	wantFlow(t, "falls to nothing", columns, rows, []impl.Change{departs("k0", "x", "")}, impl.View{Group: "v"}, texts("x:1"), nil)
	wantFlow(t, "falls to nothing", columns, rows, []impl.Change{alters("k0", texts("x", ""), texts("y", ""))}, impl.View{Group: "v"}, texts("x:1", "y:2"), texts("y:3"))
	wantFlow(t, "begins", columns, rows, []impl.Change{arrives("l", "z", "")}, impl.View{Group: "v"}, nil, texts("z:1"))
	wantFlow(t, "begins empty", columns, rows, []impl.Change{arrives("l", "", "")}, impl.View{Group: "v"}, nil, texts(":1"))
	wantFlow(t, "begins", columns, rows, []impl.Change{alters("k2", texts("y", ""), texts("z", ""))}, impl.View{Group: "v"}, texts("y:2"), texts("y:1", "z:1"))
	wantFlow(t, "two fall, one begins", columns, rows, []impl.Change{departs("k0", "x", ""), departs("k1", "y", ""), alters("k2", texts("y", ""), texts("z", ""))}, impl.View{Group: "v"}, texts("x:1", "y:2"), texts("z:1"))
	wantFlow(t, "from nothing", columns, nil, []impl.Change{arrives("a", "x", ""), arrives("b", "x", ""), arrives("c", "y", "")}, impl.View{Group: "v"}, nil, texts("x:2", "y:1"))
	// Numbers rise as texts do, with those that go and come beside one another.
	for n := 1; n <= 110; n++ {
		rows, next := manyAlike(n), manyAlike(n+1)
		last := next[n]
		wantFlow(t, "one more", columns, rows, []impl.Change{arrives(last.Key, last.Values...)}, impl.View{Group: "v"}, texts(fmt.Sprint("x:", n)), texts(fmt.Sprint("x:", n+1)))
		wantFlow(t, "one less", columns, next, []impl.Change{departs(last.Key, last.Values...)}, impl.View{Group: "v"}, texts(fmt.Sprint("x:", n+1)), texts(fmt.Sprint("x:", n)))
		wantFlow(t, "all go", columns, rows, rowsBetween(rows, nil), impl.View{Group: "v"}, texts(fmt.Sprint("x:", n)), nil)
	}
}

func manyAlike(n int) []impl.Row {
	var rows []impl.Row
	for i := range n {
		rows = append(rows, shown(fmt.Sprint("k", 1000+i), "x", ""))
	}
	return rows
}

// Each change that is none, alone, ahead of one that is good and behind one.
func TestP19ChangesThatAreNone(t *testing.T) {
	columns := twoColumns()
	good := texts("red", "c")
	bad := map[string]impl.Change{
		"Old is of another row": departs("b", "blue", "zz"), "a value of Old is another one": departs("b", "red", "d"), "a value of Old is empty": departs("b", "", "c"),
		"Old has a value too few": departs("b", "red"), "Old has a value too many": departs("b", "red", "c", ""), "Old is turned": alters("b", texts("c", "red"), texts("x", "y")),
		"Old is of a row that is not there": departs("bb", "red", "c"), "it changes what is not there": alters("bb", good, texts("x", "y")), "Old is what comes": alters("b", texts("x", "y"), good),
		"it comes and is there": arrives("b", "x", "y"), "it comes as it is there": arrives("b", "red", "c"), "Old begins as it is": alters("b", texts("red"), texts("x", "y")),
		"both are empty": {Key: "b"}, "both are empty, of none": {Key: "bb"}, "both are empty, not nil": {Key: "bb", Old: []string{}, New: []string{}},
		"both are alike": alters("b", good, good), "both are alike, of none": alters("bb", good, good),
		"New has a value too few": alters("b", good, texts("x")), "New has a value too many": alters("b", good, texts("x", "y", "z")), "New has Old and one more": alters("b", good, texts("red", "c", "")),
		"it comes with a value too few": arrives("bb", "x"), "it comes with a value too many": arrives("bb", "x", "y", "z"),
		"a value is too long": alters("b", good, texts("x", letters(201))), "the first value is too long": alters("b", good, texts(letters(201), "x")), "it comes with a value too long": arrives("bb", letters(5000), ""),
		"New is huge": alters("b", good, make([]string, 1<<20)), "Old is huge": alters("b", make([]string, 1<<20), good),
	}
	for what, c := range bad {
		for _, list := range [][]impl.Change{{c}, {departs("a", "red", "c"), c}, {c, departs("c", "blue", "zz")}, {arrives("0", "x", "y"), c, arrives("d", "x", "y")}} {
			for _, v := range someViews() {
				checkNoFlow(t, what, columns, threeRows(), list, v, impl.ErrBad)
			}
		}
	}
	for _, key := range []string{"", letters(201), letters(5000)} {
		for _, c := range []impl.Change{arrives(key, "x", "y"), departs(key, "x", "y"), alters(key, good, texts("x", "y")), {Key: key}} {
			checkNoFlow(t, "a Key", columns, threeRows(), []impl.Change{c}, impl.View{}, impl.ErrBad)
			checkNoFlow(t, "a Key", columns, nil, []impl.Change{c}, impl.View{}, impl.ErrBad)
			checkNoFlow(t, "a last Key", columns, threeRows(), []impl.Change{departs("a", "red", "c"), c}, impl.View{}, impl.ErrBad)
		}
	}
}

// What is a change at the very edge is done.
func TestP19ChangesAtTheEdge(t *testing.T) {
	for _, c := range []impl.Change{
		arrives(letters(200), letters(200), letters(200)), arrives("\x00", "", ""), arrives("bb", "", ""), alters("b", texts("red", "c"), texts("", "")), alters("b", texts("red", "c"), texts(letters(200), "c")),
		alters("b", texts("red", "c"), texts("red", "b")), {Key: "b", Old: texts("red", "c"), New: []string{}}, {Key: "bb", Old: []string{}, New: texts("red", "c")},
	} {
		for _, v := range someViews() {
			wantCode(t, "at the edge", checkFlow(t, "at the edge", twoColumns(), threeRows(), []impl.Change{c}, v), impl.OK)
		}
	}
}

func TestP19ChangesThatDoNotRise(t *testing.T) {
	come := func(keys ...string) []impl.Change {
		var list []impl.Change
		for i, key := range keys {
			list = append(list, arrives(key, fmt.Sprint(i), "c"))
		}
		return list
	}
	for _, keys := range [][]string{{"e", "d"}, {"d", "d"}, {"d", "e", "e"}, {"d", "e", "d"}, {"d", "f", "e"}, {"de", "d"}, {"d", "D"}, {"\xff", "\u00e9"}} {
		for _, v := range someViews() {
			checkNoFlow(t, "do not rise", twoColumns(), threeRows(), come(keys...), v, impl.ErrBad)
		}
	}
	for _, keys := range [][]string{{"d", "e"}, {"d", "de"}, {"D", "d"}, {"\u00e9", "\xff"}, {"0", "aa", "bb", "cc"}} {
		for _, v := range someViews() {
			wantCode(t, "rise", checkFlow(t, "rise", twoColumns(), threeRows(), come(keys...), v), impl.OK)
		}
	}
	twice := []impl.Change{alters("a", texts("red", "c"), texts("x", "c")), alters("a", texts("x", "c"), texts("y", "c"))}
	checkNoFlow(t, "one row twice", twoColumns(), threeRows(), twice, impl.View{}, impl.ErrBad)
	slices.Reverse(twice)
	checkNoFlow(t, "one row twice", twoColumns(), threeRows(), twice, impl.View{}, impl.ErrBad)
}

// A list of its own that is longer than MaxList is too long, whatever is wrong besides.
func TestP19TooManyChanges(t *testing.T) {
	columns := twoColumns()
	most := allArrive(manyRows(impl.MaxList))
	for _, v := range someViews()[:4] {
		gone, come, code := impl.ViewChanges(columns, nil, most, v)
		wantCode(t, "MaxList changes", code, impl.OK)
		if len(gone) != 0 || !slices.Equal(come, manyLines(manyRows(impl.MaxList), v)) {
			t.Errorf("%s: %s go, %s come", brief(v), brief(gone), brief(come))
		}
	}
	more := allArrive(manyRows(impl.MaxList + 1))
	for _, list := range [][]impl.Change{more, make([]impl.Change, impl.MaxList+1), make([]impl.Change, 1<<20)} {
		checkNoFlow(t, "one more", columns, nil, list, impl.View{}, impl.ErrLong)
		checkNoFlow(t, "and no columns", nil, nil, list, impl.View{}, impl.ErrLong)
		checkNoFlow(t, "and no rows", columns, make([]impl.Row, 1<<20), list, impl.View{}, impl.ErrLong)
		checkNoFlow(t, "and no view", columns, threeRows(), list, impl.View{Group: "x"}, impl.ErrLong)
	}
	checkNoFlow(t, "no changes", columns, nil, make([]impl.Change, impl.MaxList), impl.View{}, impl.ErrBad)
}

// allArrive lets all rows come.
func allArrive(rows []impl.Row) []impl.Change {
	var list []impl.Change
	for _, row := range rows {
		list = append(list, arrives(row.Key, row.Values...))
	}
	return list
}

// manyLines tells of what manyRows gives, by how these are made: row i is in team i%3 and links to row i/2.
func manyLines(rows []impl.Row, v impl.View) []string {
	var list []string
	groups := [3]int{}
	for i, row := range rows {
		line := row.Key + "=" + row.Values[0] + "," + row.Values[1]
		if v.Link != "" {
			line += ">" + row.Values[1]
			i /= 2
		}
		list = append(list, line)
		groups[i%3]++
	}
	if v.Group == "" {
		return list
	}
	return texts(fmt.Sprint("team0:", groups[0]), fmt.Sprint("team1:", groups[1]), fmt.Sprint("team2:", groups[2]))
}
