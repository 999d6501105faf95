package tests

import (
	"fmt"
	"slices"
	"testing"

	"loop.example/g00028/impl"
)

func TestP19LinesOfRows(t *testing.T) {
	wantView(t, "one column", named("a"), []impl.Row{shown("k", "v")}, impl.View{}, "k=v")
	wantView(t, "one column, empty", named("a"), []impl.Row{shown("k", "")}, impl.View{}, "k=")
	wantView(t, "three columns", named("a", "b", "c"), []impl.Row{shown("k", "x", "", "z"), shown("l", "", "", "")}, impl.View{}, "k=x,,z", "l=,,")
	wantView(t, "all sixteen", manyColumns(16), []impl.Row{shown("k", make([]string, 16)...)}, impl.View{}, "k=,,,,,,,,,,,,,,,")
	// Nothing is written otherwise in a line than it is.
	wantView(t, "as it is", named("a", "b"), []impl.Row{shown("k=,", ":>\n", "%\x00\xff")}, impl.View{}, "k=,=:>\n,%\x00\xff")
	wantView(t, "longest", named("a"), []impl.Row{shown(letters(200), letters(200))}, impl.View{Link: "a"}, letters(200)+"="+letters(200)+">"+letters(200))
	wantView(t, "longest", named("a"), []impl.Row{shown(letters(200), letters(200))}, impl.View{Group: "a"}, letters(200)+":1")
}

// Two rows can have one line; it is told twice.
func TestP19LinesThatAreAlike(t *testing.T) {
	columns := named("a", "b")
	rows := []impl.Row{shown("a", "b=c", "d"), shown("a=b", "c", "d"), shown("b", "x", "y,z"), shown("b=x", "", "")}
	wantView(t, "alike", columns, rows, impl.View{}, "a=b=c,d", "a=b=c,d", "b=x,y,z", "b=x=,")
	rows = []impl.Row{shown("a", "b=c", "d=e"), shown("a=b", "c", "d=e"), shown("a=b=c,d", "e", "")}
	wantView(t, "alike but for one", columns, rows, impl.View{}, "a=b=c,d=e", "a=b=c,d=e", "a=b=c,d=e,")
	three := []impl.Row{shown("=", "==", ""), shown("==", "=", ""), shown("===", "", "")}
	wantView(t, "three alike", columns, three, impl.View{}, "====,", "====,", "====,")
	wantView(t, "two of three", columns, three, viewAsking(asks("", impl.COther, "==")), "====,", "====,")
	linked := []impl.Row{shown("a", "b=c", "z"), shown("a=b", "c", "z"), shown("z", "", "")}
	wantView(t, "alike with Link", columns, linked, impl.View{Link: "b"}, "a=b=c,z>z", "a=b=c,z>z")
	linked = []impl.Row{shown("a", "x", "y>b"), shown("a=x,y>b", "", "b"), shown("b", "", ""), shown("y>b", "", "")}
	wantView(t, "with Link", columns, linked, impl.View{Link: "b"}, "a=x,y>b=,b>b", "a=x,y>b>y>b")
	// Values between which there is a comma, told as one.
	wantView(t, "commas", columns, []impl.Row{shown("k", "x,y", "z"), shown("k=x", "", "")}, impl.View{}, "k=x,y,z", "k=x=,")
}

// Lines rise as they are, which is not always how the Keys do.
func TestP19LinesRiseAsAWhole(t *testing.T) {
	columns := named("v")
	for _, c := range []struct {
		rows []impl.Row
		want []string
	}{
		{[]impl.Row{shown("a", "1"), shown("a!", "2")}, texts("a!=2", "a=1")},
		{[]impl.Row{shown("a", "1"), shown("a0", "2"), shown("a<", "3"), shown("a>", "4"), shown("a\xff", "5")}, texts("a0=2", "a<=3", "a=1", "a>=4", "a\xff=5")},
		{[]impl.Row{shown("a", "z"), shown("a=", "a")}, texts("a==a", "a=z")},
		{[]impl.Row{shown("a", "<"), shown("a=", ""), shown("a=<", "")}, texts("a=<", "a=<=", "a==")},
		{[]impl.Row{shown("a", ">"), shown("a=", "x"), shown("a=>", "")}, texts("a==x", "a=>", "a=>=")},
		{[]impl.Row{shown("a", "\x00"), shown("a\x00", ""), shown("a\x00\x00", "")}, texts("a\x00\x00=", "a\x00=", "a=\x00")},
		{[]impl.Row{shown("a", ""), shown("a,", ""), shown("a:", ""), shown("a>", "")}, texts("a,=", "a:=", "a=", "a>=")},
		{[]impl.Row{shown("B", ""), shown("a", ""), shown("\x80", ""), shown("\xff", "")}, texts("B=", "a=", "\x80=", "\xff=")},
	} {
		wantView(t, "rise", columns, c.rows, impl.View{}, c.want...)
		for _, v := range []impl.View{{}, {Link: "v"}, {Group: "v"}, {Group: "v", Link: "v"}} {
			checkAllGood(t, "rise", columns, c.rows, v)
		}
	}
	// Of values, too, and of what stands behind them.
	two := named("a", "b")
	wantView(t, "values", two, []impl.Row{shown("k", "x", "1"), shown("k=x+", "", "")}, impl.View{}, "k=x+=,", "k=x,1")
	linked := []impl.Row{shown("k", "", "z"), shown("k=,z", "", "z"), shown("k=,z=", "", "z"), shown("z", "", "")}
	wantView(t, "links", two, linked, impl.View{Link: "b"}, "k=,z=,z>z", "k=,z==,z>z", "k=,z>z")
	// Groups rise with their colon and number.
	groups := []impl.Row{shown("1", "x"), shown("2", "x!"), shown("3", "x9"), shown("4", "x:"), shown("5", "x;"), shown("6", "x:0"), shown("7", ""), shown("8", "x")}
	wantView(t, "groups", columns, groups, impl.View{Group: "v"}, ":1", "x!:1", "x9:1", "x:0:1", "x:2", "x::1", "x;:1")
	var many []impl.Row
	for i := range 30 {
		many = append(many, shown(fmt.Sprint("k", 10+i), []string{"x", "x:1"}[min(i/19, 1)]))
	}
	wantView(t, "groups of many", columns, many, impl.View{Group: "v"}, "x:19", "x:1:11")
}

func TestP19GroupsAreNumbers(t *testing.T) {
	columns := named("v", "w")
	for n := 1; n <= 120; n++ {
		var rows []impl.Row
		for i := range n {
			rows = append(rows, shown(fmt.Sprint("k", 1000+i), "one", fmt.Sprint(i%3)))
		}
		wantView(t, "one group", columns, rows, impl.View{Group: "v"}, fmt.Sprint("one:", n))
		wantView(t, "some of it", columns, rows, impl.View{Group: "v", Conds: []impl.Cond{asks("w", impl.CSame, "0")}}, fmt.Sprint("one:", (n+2)/3))
		var want []string
		for i := range min(n, 3) {
			want = append(want, fmt.Sprint(i, ":", (n+2-i)/3))
		}
		wantView(t, "three groups", columns, rows, impl.View{Group: "w"}, want...)
	}
	wantView(t, "all of MaxOps", twoColumns(), manyRows(impl.MaxOps), impl.View{Group: "team"}, "team0:683", "team1:683", "team2:682")
	wantView(t, "empty values", columns, []impl.Row{shown("a", "", "x"), shown("b", "", "y"), shown("c", "\x00", "z")}, impl.View{Group: "v"}, "\x00:1", ":2")
	wantView(t, "no row meets", columns, []impl.Row{shown("a", "", "x")}, impl.View{Group: "v", Conds: []impl.Cond{asks("w", impl.COther, "x")}})
	// A group is a value, not a number nor a Key.
	wantView(t, "values", columns, []impl.Row{shown("1", "01", ""), shown("2", "1", ""), shown("3", " 1", ""), shown("4", "1", "")}, impl.View{Group: "v"}, " 1:1", "01:1", "1:2")
}

func linkRows() []impl.Row {
	return []impl.Row{
		shown("a", "red", "b"), shown("b", "blue", "b"), shown("c", "red", "nobody"), shown("d", "green", ""), shown("e", "blue", "a"), shown("f", "red", "b"),
	}
}

func TestP19Links(t *testing.T) {
	columns := twoColumns()
	wantView(t, "links", columns, linkRows(), impl.View{Link: "up"}, "a=red,b>b", "b=blue,b>b", "e=blue,a>a", "f=red,b>b")
	wantView(t, "groups of links", columns, linkRows(), impl.View{Link: "up", Group: "team"}, "blue:3", "red:1")
	wantView(t, "the link of the linked", columns, linkRows(), impl.View{Link: "up", Group: "up"}, "b:4")
	wantView(t, "a column that is no Link", columns, linkRows(), impl.View{Link: "team"})
	// The Conds are asked of the row that links, not of the one that it links to.
	red, blue := asks("team", impl.CSame, "red"), asks("team", impl.CSame, "blue")
	wantView(t, "red ones", columns, linkRows(), impl.View{Conds: []impl.Cond{red}, Link: "up"}, "a=red,b>b", "f=red,b>b")
	wantView(t, "blue ones", columns, linkRows(), impl.View{Conds: []impl.Cond{blue}, Link: "up"}, "b=blue,b>b", "e=blue,a>a")
	wantView(t, "red ones, by group", columns, linkRows(), impl.View{Conds: []impl.Cond{red}, Link: "up", Group: "team"}, "blue:2")
	wantView(t, "blue ones, by group", columns, linkRows(), impl.View{Conds: []impl.Cond{blue}, Link: "up", Group: "team"}, "blue:1", "red:1")
	wantView(t, "by Key", columns, linkRows(), impl.View{Conds: []impl.Cond{asks("", impl.COther, "b")}, Link: "up", Group: "team"}, "blue:2", "red:1")
	wantView(t, "by link", columns, linkRows(), impl.View{Conds: []impl.Cond{asks("up", impl.CSame, "a")}, Link: "up"}, "e=blue,a>a")
	wantView(t, "what links to none", columns, linkRows(), impl.View{Conds: []impl.Cond{asks("up", impl.CSame, "nobody")}, Link: "up", Group: "team"})
	wantView(t, "what links nowhere", columns, linkRows(), impl.View{Conds: []impl.Cond{asks("up", impl.CSame, "")}, Link: "up"})
	// Without Link all of them count.
	wantView(t, "without", columns, linkRows(), impl.View{Group: "team"}, "blue:2", "green:1", "red:3")
}

// A link is a whole Key, byte by byte.
func TestP19LinksAreKeys(t *testing.T) {
	columns := named("l")
	keys := texts("A", "a", "a\x00", "a ", "aa", "ab", "\xff")
	var rows []impl.Row
	for _, key := range keys {
		rows = append(rows, shown(key, ""))
	}
	for i := range rows {
		for _, to := range append(keys, "", "b", "aaa", " a", "\x00", letters(200)) {
			list := copyRows(rows)
			list[i].Values[0] = to
			var want []string
			if slices.Contains(keys, to) {
				want = texts(keys[i] + "=" + to + ">" + to)
			}
			wantView(t, "one link", columns, list, impl.View{Link: "l"}, want...)
			wantView(t, "one link, by group", columns, list, impl.View{Link: "l", Group: "l"}, groupOfLink(to, keys[i], want)...)
		}
	}
}

// groupOfLink tells what the row that is linked to has itself: a link if it is the one that links, else nothing.
func groupOfLink(to, from string, lines []string) []string {
	switch {
	case lines == nil:
		return nil
	case to == from:
		return texts(to + ":1")
	}
	return texts(":1")
}

// Any column can be the Link of a view, also the first one, and the one of the Group.
func TestP19LinkByAnyColumn(t *testing.T) {
	columns := named("a", "b", "c")
	rows := []impl.Row{shown("x", "y", "z", "x"), shown("y", "z", "x", "x"), shown("z", "none", "", "y")}
	wantView(t, "a", columns, rows, impl.View{Link: "a"}, "x=y,z,x>y", "y=z,x,x>z")
	wantView(t, "b", columns, rows, impl.View{Link: "b"}, "x=y,z,x>z", "y=z,x,x>x")
	wantView(t, "c", columns, rows, impl.View{Link: "c"}, "x=y,z,x>x", "y=z,x,x>x", "z=none,,y>y")
	wantView(t, "a by b", columns, rows, impl.View{Link: "a", Group: "b"}, ":1", "x:1")
	wantView(t, "b by a", columns, rows, impl.View{Link: "b", Group: "a"}, "none:1", "y:1")
	wantView(t, "c by c", columns, rows, impl.View{Link: "c", Group: "c"}, "x:3")
	for _, link := range []string{"", "a", "b", "c"} {
		for _, group := range []string{"", "a", "b", "c"} {
			checkAllGood(t, "all", columns, rows, impl.View{Link: link, Group: group})
		}
	}
}
