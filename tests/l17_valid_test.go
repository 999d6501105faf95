package tests

import (
	"fmt"
	"slices"
	"testing"

	"loop.example/g00028/impl"
)

func twoColumns() []impl.Column {
	return []impl.Column{{Name: "team"}, {Name: "up", Link: true}}
}

func threeRows() []impl.Row {
	return []impl.Row{shown("a", "red", "c"), shown("b", "red", "c"), shown("c", "blue", "zz")}
}

// manyRows rise; some of them link to others, and to themselves.
func manyRows(n int) []impl.Row {
	var rows []impl.Row
	for i := range n {
		rows = append(rows, shown(fmt.Sprintf("r%05d", i), fmt.Sprint("team", i%3), fmt.Sprintf("r%05d", i/2)))
	}
	return rows
}

func sameConds(n int) []impl.Cond {
	var conds []impl.Cond
	for range n {
		conds = append(conds, asks("team", impl.COther, "none"))
	}
	return conds
}

func someViews() []impl.View {
	return []impl.View{{}, {Group: "team"}, {Link: "up"}, {Group: "team", Link: "up"}, viewAsking(asks("", impl.COther, "b")), {Conds: sameConds(1), Group: "up", Link: "up"}}
}

// checkAllBad hands out to each function what none of them takes.
func checkAllBad(t *testing.T, what string, columns []impl.Column, rows []impl.Row) {
	t.Helper()
	for _, v := range someViews() {
		checkNoView(t, what, columns, rows, v)
		checkNoFlow(t, what, columns, rows, nil, v, impl.ErrBad)
		checkNoFlow(t, what, columns, rows, []impl.Change{arrives("x", "1", "2")}, v, impl.ErrBad)
	}
	checkNoneBetween(t, what, columns, rows, nil)
	checkNoneBetween(t, what, columns, nil, rows)
	checkNoneBetween(t, what, columns, rows, rows)
	checkNoneBetween(t, what, columns, rows, threeRows())
	checkNoneBetween(t, what, columns, threeRows(), rows)
}

// checkAllGood hands out to each function what all of them take.
func checkAllGood(t *testing.T, what string, columns []impl.Column, rows []impl.Row, v impl.View) {
	t.Helper()
	wantCode(t, what, checkView(t, what, columns, rows, v), impl.OK)
	wantCode(t, what, checkFlow(t, what, columns, rows, nil, v), impl.OK)
	wantCode(t, what, checkFlow(t, what, columns, nil, rowsBetween(nil, rows), v), impl.OK)
	wantCode(t, what, checkFlow(t, what, columns, rows, rowsBetween(rows, nil), v), impl.OK)
	wantCode(t, what, checkBetween(t, what, columns, rows, nil), impl.OK)
	wantCode(t, what, checkBetween(t, what, columns, nil, rows), impl.OK)
	wantCode(t, what, checkBetween(t, what, columns, rows, rows), impl.OK)
}

func TestP19NothingAtAll(t *testing.T) {
	for _, rows := range [][]impl.Row{nil, {}} {
		for _, v := range someViews() {
			checkAllGood(t, "no rows", twoColumns(), rows, v)
			wantView(t, "no rows", twoColumns(), rows, v)
		}
	}
	for _, conds := range [][]impl.Cond{nil, {}} {
		wantView(t, "no Conds", twoColumns(), threeRows(), impl.View{Conds: conds}, "a=red,c", "b=red,c", "c=blue,zz")
	}
}

func TestP19ColumnsThatAreNotValid(t *testing.T) {
	for _, columns := range append(wrongColumns(), named("up", "team"), named("team", "team")) {
		rows := []impl.Row{shown("a", make([]string, len(columns))...)}
		checkAllBad(t, "wrong columns", columns, rows)
		checkAllBad(t, "wrong columns", columns, threeRows())
		for _, v := range []impl.View{{}, viewAsking(asks("", 1, ""))} {
			checkNoView(t, "wrong columns", columns, nil, v)
			checkNoFlow(t, "wrong columns", columns, nil, nil, v, impl.ErrBad)
		}
		checkNoneBetween(t, "wrong columns", columns, nil, nil)
	}
	// Where there are no columns rows have no values, and still these are no columns.
	for _, columns := range [][]impl.Column{nil, {}} {
		rows := []impl.Row{{Key: "a"}, {Key: "b", Values: []string{}}}
		checkAllBad(t, "no columns", columns, rows)
		checkNoneBetween(t, "no columns", columns, rows[:1], rows[1:])
		checkNoFlow(t, "no columns", columns, rows, []impl.Change{{Key: "c"}}, impl.View{}, impl.ErrBad)
	}
}

func TestP19ColumnsOfAllSizes(t *testing.T) {
	for n := 1; n <= impl.MaxColumns; n++ {
		columns := manyColumns(n)
		values := slices.Repeat([]string{"v"}, n)
		rows := []impl.Row{shown("k", values...), shown("v", values...)}
		for _, c := range columns {
			checkAllGood(t, "columns", columns, rows, impl.View{Conds: []impl.Cond{asks(c.Name, 1, "v")}, Link: c.Name})
			checkAllGood(t, "columns", columns, rows, impl.View{Conds: []impl.Cond{asks(c.Name, 2, "w")}, Group: c.Name})
		}
		checkAllBad(t, "a value too few", columns, []impl.Row{shown("k", values[1:]...)})
		checkAllBad(t, "a value too many", columns, []impl.Row{shown("k", append(values, "v")...)})
	}
	longest := named(letters(1), letters(impl.MaxWord))
	checkAllGood(t, "long names", longest, []impl.Row{shown("1", "1", "2")}, impl.View{Group: letters(200), Link: letters(1)})
}

func TestP19MaxOpsRows(t *testing.T) {
	rows := manyRows(impl.MaxOps)
	for _, v := range someViews() {
		got, code := impl.ViewOf(twoColumns(), rows, v)
		wantCode(t, "MaxOps rows", code, impl.OK)
		if !slices.Equal(got, viewLines(twoColumns(), rows, v)) {
			t.Errorf("MaxOps rows: %s, %d lines", brief(got), len(got))
		}
		gone, come, code := impl.ViewChanges(twoColumns(), rows, []impl.Change{departs(rows[0].Key, rows[0].Values...)}, v)
		wantCode(t, "MaxOps rows", code, impl.OK)
		wantFlow(t, "MaxOps rows", twoColumns(), rows[1:], []impl.Change{arrives(rows[0].Key, rows[0].Values...)}, v, come, gone)
	}
	list, code := impl.RowChanges(twoColumns(), rows, rows[1:])
	wantCode(t, "MaxOps rows", code, impl.OK)
	if len(list) != 1 || !sameChange(list[0], departs(rows[0].Key, rows[0].Values...)) {
		t.Errorf("MaxOps rows: %s", brief(list))
	}
	checkAllBad(t, "one row more", twoColumns(), manyRows(impl.MaxOps+1))
	// A limit of their own counts alone: there is no ErrLong.
	checkAllBad(t, "more than MaxList rows", twoColumns(), manyRows(impl.MaxList+1))
}

func TestP19Keys(t *testing.T) {
	values := texts("red", "c")
	for _, key := range []string{"x", "\x00", "\xff", " ", letters(200), "=,:>", letters(199) + "\x80"} {
		for _, v := range someViews() {
			checkAllGood(t, "a Key", twoColumns(), []impl.Row{shown(key, values...)}, v)
			checkAllGood(t, "a Key linked", twoColumns(), []impl.Row{shown(key, key, key)}, v)
		}
	}
	for _, key := range []string{"", letters(201), letters(5000)} {
		checkAllBad(t, "a Key", twoColumns(), []impl.Row{shown(key, values...)})
		checkAllBad(t, "a first Key", twoColumns(), []impl.Row{shown(key, values...), shown("y", values...)})
		checkAllBad(t, "a last Key", twoColumns(), []impl.Row{shown("a", values...), shown(key, values...)})
	}
	for _, keys := range [][]string{{"b", "a"}, {"a", "a"}, {"a", "b", "b"}, {"a", "b", "a"}, {"a", "c", "b"}, {"ab", "a"}, {"a", "B"}, {"\xff", "\u00e9"}, {letters(200), letters(199)}} {
		var rows []impl.Row
		for i, key := range keys {
			rows = append(rows, shown(key, fmt.Sprint(i), "c"))
		}
		checkAllBad(t, "Keys that do not rise", twoColumns(), rows)
	}
	for _, keys := range [][]string{{"a", "b"}, {"a", "ab"}, {"B", "a"}, {"\u00e9", "\xff"}, {"\x00", "\x00\x00", "\x01"}, {letters(199), letters(200)}} {
		var rows []impl.Row
		for _, key := range keys {
			rows = append(rows, shown(key, key, keys[0]))
		}
		for _, v := range someViews() {
			checkAllGood(t, "Keys that rise", twoColumns(), rows, v)
		}
	}
}

func TestP19Values(t *testing.T) {
	for _, value := range []string{"", "x", letters(200), "\x00\xff", ",", "=,:>"} {
		for _, v := range someViews() {
			checkAllGood(t, "a first value", twoColumns(), []impl.Row{shown("k", value, "k")}, v)
			checkAllGood(t, "a last value", twoColumns(), []impl.Row{shown("k", "x", value)}, v)
		}
	}
	for _, value := range []string{letters(201), letters(5000)} {
		checkAllBad(t, "a first value", twoColumns(), []impl.Row{shown("k", value, "x")})
		checkAllBad(t, "a last value", twoColumns(), []impl.Row{shown("k", "x", value)})
		checkAllBad(t, "a value of a last row", twoColumns(), append(threeRows(), shown("k", "x", value)))
	}
	for _, values := range [][]string{nil, {}, {"x"}, {"x", "y", "z"}, make([]string, 5000)} {
		checkAllBad(t, "too few or too many values", twoColumns(), []impl.Row{shown("k", values...)})
		checkAllBad(t, "too few or too many values", twoColumns(), append(threeRows(), shown("k", values...)))
	}
}

// checkBadView asks for a view that is none of rows, of no rows, and behind changes.
func checkBadView(t *testing.T, what string, v impl.View) {
	t.Helper()
	for _, rows := range [][]impl.Row{nil, threeRows()} {
		checkNoView(t, what, twoColumns(), rows, v)
		checkNoFlow(t, what, twoColumns(), rows, nil, v, impl.ErrBad)
		checkNoFlow(t, what, twoColumns(), rows, []impl.Change{arrives("x", "1", "2")}, v, impl.ErrBad)
	}
}

func TestP19Conds(t *testing.T) {
	for n := range impl.MaxConds + 1 {
		checkAllGood(t, "Conds", twoColumns(), threeRows(), viewAsking(sameConds(n)...))
	}
	for _, n := range []int{impl.MaxConds + 1, 100, impl.MaxList + 1} {
		checkBadView(t, "too many Conds", viewAsking(sameConds(n)...))
	}
	good := asks("team", impl.CSame, "red")
	for _, bad := range []impl.Cond{
		{}, asks("team", 0, ""), asks("team", 5, ""), asks("team", -1, ""), asks("team", 1<<62, ""), asks("team", -1<<62, ""), asks("", 0, ""), asks("", 5, "a"),
		asks("x", 1, ""), asks("tea", 1, ""), asks("teams", 2, ""), asks("Team", 3, ""), asks("up ", 4, ""), asks("c", 1, ""), asks("\x00", 1, ""), asks(letters(5000), 1, ""),
		asks("team", 1, letters(201)), asks("", 2, letters(201)), asks("team", 3, letters(201)), asks("", 4, letters(5000)),
	} {
		checkBadView(t, "a Cond", viewAsking(bad))
		checkBadView(t, "a first Cond", viewAsking(bad, good))
		checkBadView(t, "a last Cond", viewAsking(good, bad))
		checkBadView(t, "a last Cond of all", viewAsking(append(sameConds(7), bad)...))
	}
	for kind := 1; kind <= 4; kind++ {
		for _, column := range []string{"", "team", "up"} {
			for _, text := range []string{"", "a", letters(200), "\xff"} {
				checkAllGood(t, "a Cond", twoColumns(), threeRows(), viewAsking(asks(column, kind, text)))
			}
		}
	}
}

func TestP19GroupAndLink(t *testing.T) {
	for _, group := range []string{"", "team", "up"} {
		for _, link := range []string{"", "team", "up"} {
			checkAllGood(t, "Group and Link", twoColumns(), threeRows(), impl.View{Group: group, Link: link})
		}
	}
	for _, bad := range []string{"x", "tea", "teams", "Team", "a", "red", "\x00", "team,up", letters(200), letters(5000)} {
		for _, good := range []string{"", "team", "up"} {
			checkBadView(t, "Group", impl.View{Group: bad, Link: good})
			checkBadView(t, "Link", impl.View{Group: good, Link: bad})
		}
		checkBadView(t, "both", impl.View{Group: bad, Link: bad})
	}
}

// The names of columns hold bytes of which lines are made; they stand in no line.
func TestP19NamesOfColumns(t *testing.T) {
	columns := named(",", ":", "=", ">")
	rows := []impl.Row{shown("a", "1", "2", "3", "b"), shown("b", "4", "5", "6", "a")}
	wantView(t, "names", columns, rows, viewAsking(asks(",", 1, "4")), "b=4,5,6,a")
	wantView(t, "names", columns, rows, impl.View{Link: ">", Group: ":"}, "2:1", "5:1")
	wantView(t, "names", columns, rows, impl.View{Link: ">", Conds: []impl.Cond{asks("=", 1, "3")}}, "a=1,2,3,b>b")
}
