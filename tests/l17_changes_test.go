package tests

import (
	"slices"
	"testing"

	"loop.example/g00028/impl"
)

func TestP19ChangesOfRows(t *testing.T) {
	columns := twoColumns()
	wantBetween(t, "nothing", columns, nil, nil)
	wantBetween(t, "nothing", columns, []impl.Row{}, nil)
	wantBetween(t, "to itself", columns, threeRows(), threeRows())
	rows := threeRows()
	wantBetween(t, "to itself, in one memory", columns, rows, rows)
	wantBetween(t, "all come", columns, nil, threeRows(), arrives("a", "red", "c"), arrives("b", "red", "c"), arrives("c", "blue", "zz"))
	wantBetween(t, "all go", columns, threeRows(), nil, departs("a", "red", "c"), departs("b", "red", "c"), departs("c", "blue", "zz"))
	next := []impl.Row{shown("0", "", ""), shown("b", "red", "d"), shown("bb", "x", "y"), shown("c", "blue", "zz"), shown("d", "z", "")}
	wantBetween(t, "some of each", columns, threeRows(), next,
		arrives("0", "", ""), departs("a", "red", "c"), alters("b", texts("red", "c"), texts("red", "d")), arrives("bb", "x", "y"), arrives("d", "z", ""))
	wantBetween(t, "some of each, back", columns, next, threeRows(),
		departs("0", "", ""), arrives("a", "red", "c"), alters("b", texts("red", "d"), texts("red", "c")), departs("bb", "x", "y"), departs("d", "z", ""))
}

// Each value counts, also where one is empty, or where two together are the same text.
func TestP19ChangesOfValues(t *testing.T) {
	values := [][]string{{"", ""}, {"x", ""}, {"", "x"}, {"x", "x"}, {"xx", ""}, {"x,", ""}, {"", ",x"}, {"X", "x"}, {"\x00", "\xff"}, {letters(200), letters(200)}, {letters(200), letters(199)}}
	for i, old := range values {
		for j, next := range values {
			a, b := []impl.Row{shown("k", old...)}, []impl.Row{shown("k", next...)}
			if i == j {
				wantBetween(t, "alike", twoColumns(), a, b)
			} else {
				wantBetween(t, "not alike", twoColumns(), a, b, alters("k", old, next))
			}
			for _, v := range someViews() {
				checkFlow(t, "values", twoColumns(), a, rowsBetween(a, b), v)
			}
		}
		wantBetween(t, "comes", twoColumns(), nil, []impl.Row{shown("k", old...)}, arrives("k", old...))
		wantBetween(t, "goes", twoColumns(), []impl.Row{shown("k", old...)}, nil, departs("k", old...))
	}
	wantBetween(t, "one empty value", named("c"), []impl.Row{shown("k", "")}, []impl.Row{shown("k", "x"), shown("l", "")}, alters("k", texts(""), texts("x")), arrives("l", ""))
}

// Rows are told apart by their Keys alone.
func TestP19ChangesOfKeys(t *testing.T) {
	keys := texts("\x00", "A", "a", "a ", "aa", "b", "\x80", "\xff")
	for i := range keys {
		for j := range keys {
			a, b := []impl.Row{shown(keys[i], "1", "2")}, []impl.Row{shown(keys[j], "1", "2")}
			switch {
			case i == j:
				wantBetween(t, "one Key", twoColumns(), a, b)
			case i < j:
				wantBetween(t, "two Keys", twoColumns(), a, b, departs(keys[i], "1", "2"), arrives(keys[j], "1", "2"))
			default:
				wantBetween(t, "two Keys", twoColumns(), a, b, arrives(keys[j], "1", "2"), departs(keys[i], "1", "2"))
			}
		}
	}
}

// Every pair of tables of these rows: what makes the one of the other is what is told, and does just that.
func TestP19ChangesOfEveryPair(t *testing.T) {
	tables := everySmallTable()
	for _, a := range tables {
		for _, b := range tables {
			checkBetween(t, "pairs", twoColumns(), a, b)
			list, _ := impl.RowChanges(twoColumns(), a, b)
			if !slices.EqualFunc(rowsBehind(a, list), b, sameRow) {
				t.Errorf("%s does not make %s of %s", brief(list), brief(b), brief(a))
			}
		}
	}
}

// everySmallTable has every table of up to three rows that are not there or have some values, which link to one another.
func everySmallTable() [][]impl.Row {
	tables := [][]impl.Row{nil}
	for _, key := range []string{"a", "b", "c"} {
		grown := slices.Clone(tables)
		for _, values := range [][]string{{"x", "a"}, {"x", "b"}, {"y", "c"}, {"", ""}} {
			for _, rows := range tables {
				grown = append(grown, append(slices.Clone(rows), shown(key, values...)))
			}
		}
		tables = grown
	}
	return tables
}

// All of one side go and all of the other side come, and these can be more than MaxOps.
func TestP19ChangesOfMany(t *testing.T) {
	columns := twoColumns()
	a, b := manyRows(impl.MaxOps), manyRows(impl.MaxOps)
	for i := range b {
		b[i].Key += "+"
	}
	list, code := impl.RowChanges(columns, a, b)
	wantCode(t, "many", code, impl.OK)
	if len(list) != impl.MaxList {
		t.Fatalf("%d changes", len(list))
	}
	for i, row := range a {
		if !sameChange(list[2*i], departs(row.Key, row.Values...)) || !sameChange(list[2*i+1], arrives(b[i].Key, b[i].Values...)) {
			t.Fatalf("changes %d: %s", 2*i, brief(list[2*i:2*i+2]))
		}
	}
	for _, v := range []impl.View{{}, {Group: "team"}, {Link: "up"}} {
		gone, come, code := impl.ViewChanges(columns, a, list, v)
		wantCode(t, "many", code, impl.OK)
		if v.Group != "" && len(gone)+len(come) != 0 || v.Group == "" && !slices.Equal(gone, viewLines(columns, a, v)) || v.Link != "" && len(come) != 0 {
			t.Errorf("%s: %s go, %s come", brief(v), brief(gone), brief(come))
		}
	}
}
