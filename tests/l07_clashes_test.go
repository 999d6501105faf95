package tests

import (
	"slices"
	"testing"

	"loop.example/g00028/impl"
)

// threeThere lets the rows a, b and c come.
func threeThere() []impl.RowOp {
	return []impl.RowOp{comes(10, 0, "a"), comes(11, 0, "b"), comes(12, 0, "c")}
}

// tableCase is a table of one column, upon threeThere.
type tableCase struct {
	what    string
	more    []impl.RowOp
	want    []impl.Row
	clashes []impl.Clash
}

func checkCases(t *testing.T, column impl.Column, cases []tableCase) {
	t.Helper()
	for _, c := range cases {
		ops := slices.Concat(threeThere(), c.more)
		columns := []impl.Column{column}
		checkTableOf(t, c.what, columns, ops, c.want, c.clashes...)
		if len(ops) < 8 {
			checkEveryTable(t, c.what, columns, ops, c.want, c.clashes...)
		}
		slices.Reverse(ops)
		checkTableOf(t, c.what+", turned over", columns, ops, c.want, c.clashes...)
		checkTable(t, columns, ops)
	}
}

// three are the rows a, b and c with a value each.
func three(a, b, c string) []impl.Row {
	return []impl.Row{shown("a", a), shown("b", b), shown("c", c)}
}

func one(time int, row, text string) impl.RowOp { return sets(time, 0, row, "one", text) }

func TestP9Unique(t *testing.T) {
	checkCases(t, impl.Column{Name: "one", Unique: true}, []tableCase{
		{"all unlike", []impl.RowOp{one(20, "a", "x"), one(21, "b", "y"), one(22, "c", "z")}, three("x", "y", "z"), nil},
		{"two alike", []impl.RowOp{one(20, "a", "x"), one(21, "b", "x")}, three("x", "", ""), []impl.Clash{twice("b", "one")}},
		{"two alike, the later row first", []impl.RowOp{one(21, "a", "x"), one(20, "b", "x")}, three("", "x", ""), []impl.Clash{twice("a", "one")}},
		{"three alike", []impl.RowOp{one(20, "a", "x"), one(21, "b", "x"), one(22, "c", "x")}, three("x", "", ""), []impl.Clash{twice("b", "one"), twice("c", "one")}},
		{"three alike, the one between first", []impl.RowOp{one(21, "a", "x"), one(20, "b", "x"), one(22, "c", "x")}, three("", "x", ""), []impl.Clash{twice("a", "one"), twice("c", "one")}},
		{"three alike, the last one first", []impl.RowOp{one(22, "a", "x"), one(21, "b", "x"), one(20, "c", "x")}, three("", "", "x"), []impl.Clash{twice("a", "one"), twice("b", "one")}},
		{"the actors decide", []impl.RowOp{sets(20, 9, "a", "one", "x"), sets(20, 8, "b", "one", "x")}, three("", "x", ""), []impl.Clash{twice("a", "one")}},
		{"the keeper goes", []impl.RowOp{one(20, "a", "x"), one(21, "b", "x"), one(22, "c", "x"), goes(23, 0, "a")}, []impl.Row{shown("b", "x"), shown("c", "")}, []impl.Clash{twice("c", "one")}},
		{"the keeper comes back", []impl.RowOp{one(20, "a", "x"), one(21, "b", "x"), goes(23, 0, "a"), comes(24, 0, "a")}, three("x", "", ""), []impl.Clash{twice("b", "one")}},
		{"the keeper is set to another value", []impl.RowOp{one(20, "a", "x"), one(21, "b", "x"), one(22, "a", "y")}, three("y", "x", ""), nil},
		{"the keeper is set to nothing", []impl.RowOp{one(20, "a", "x"), one(21, "b", "x"), one(22, "a", "")}, three("", "x", ""), nil},
		{"the keeper is set to it again", []impl.RowOp{one(20, "a", "x"), one(21, "b", "x"), one(22, "a", "x")}, three("", "x", ""), []impl.Clash{twice("a", "one")}},
		{"the keeper is set to another and back", []impl.RowOp{one(20, "a", "x"), one(21, "b", "x"), one(22, "a", "y"), one(23, "a", "x")}, three("", "x", ""), []impl.Clash{twice("a", "one")}},
		{"the other one is set to another value", []impl.RowOp{one(20, "a", "x"), one(21, "b", "x"), one(22, "b", "y")}, three("x", "y", ""), nil},
		{"the other one goes", []impl.RowOp{one(20, "a", "x"), one(21, "b", "x"), goes(22, 0, "b")}, []impl.Row{shown("a", "x"), shown("c", "")}, nil},
		{"set ahead of its coming", []impl.RowOp{one(20, "a", "x"), one(5, "b", "x")}, three("", "x", ""), []impl.Clash{twice("a", "one")}},
		{"both set ahead of their coming", []impl.RowOp{one(6, "a", "x"), one(5, "b", "x")}, three("", "x", ""), []impl.Clash{twice("a", "one")}},
		{"the later comer has the lesser Id", []impl.RowOp{one(20, "a", "x"), goes(21, 0, "c"), one(5, "c", "x"), comes(30, 0, "c")}, three("", "", "x"), []impl.Clash{twice("a", "one")}},
		{"one that never came has it", []impl.RowOp{one(5, "d", "x"), one(20, "a", "x"), one(21, "b", "x")}, three("x", "", ""), []impl.Clash{twice("b", "one")}},
		{"one set while it was gone", []impl.RowOp{one(20, "a", "x"), goes(14, 0, "b"), one(15, "b", "x"), comes(16, 0, "b")}, three("", "x", ""), []impl.Clash{twice("a", "one")}},
		{"nothing in all of them", []impl.RowOp{one(20, "a", ""), one(21, "b", ""), one(22, "c", "")}, three("", "", ""), nil},
		{"nothing, and values that begin alike", []impl.RowOp{one(20, "a", ""), one(21, "b", "x"), one(22, "c", "xx")}, three("", "x", "xx"), nil},
		{"values that look alike", []impl.RowOp{one(20, "a", "x"), one(21, "b", "X"), one(22, "c", "x ")}, three("x", "X", "x "), nil},
		{"the value is a row", []impl.RowOp{one(20, "a", "b"), one(21, "c", "b"), one(22, "b", "a")}, three("b", "a", ""), []impl.Clash{twice("c", "one")}},
		{"two values twice", []impl.RowOp{one(20, "a", "x"), one(21, "b", "x"), one(22, "c", "y"), comes(23, 0, "d"), one(24, "d", "y")}, append(three("x", "", "y"), shown("d", "")), []impl.Clash{twice("b", "one"), twice("d", "one")}},
	})
}

// What clashes keeps its value in hand: a third one clashes with it no less than with the one that keeps it.
func TestP9ClashWithAClash(t *testing.T) {
	checkCases(t, impl.Column{Name: "one", Unique: true}, []tableCase{
		{"the first goes, the second keeps", []impl.RowOp{one(20, "a", "x"), one(21, "b", "x"), one(22, "c", "x"), goes(23, 0, "a")}, []impl.Row{shown("b", "x"), shown("c", "")}, []impl.Clash{twice("c", "one")}},
		{"two go, the third keeps", []impl.RowOp{one(20, "a", "x"), one(21, "b", "x"), one(22, "c", "x"), goes(23, 0, "a"), goes(24, 0, "b")}, []impl.Row{shown("c", "x")}, nil},
	})
	// The first is of no row, and yet it keeps the value from the second, which is Twice for that.
	checkCases(t, impl.Column{Name: "both", Unique: true, Link: true}, []tableCase{
		{"the first one loose", []impl.RowOp{both(20, "a", "z"), both(21, "b", "z"), both(22, "c", "z")}, three("", "", ""), []impl.Clash{loose("a", "both"), twice("b", "both"), twice("c", "both")}},
		{"the last one loose", []impl.RowOp{both(22, "a", "z"), both(21, "b", "z"), both(20, "c", "z")}, three("", "", ""), []impl.Clash{twice("a", "both"), twice("b", "both"), loose("c", "both")}},
	})
}

func link(time int, row, text string) impl.RowOp { return sets(time, 0, row, "link", text) }

func TestP9Link(t *testing.T) {
	checkCases(t, impl.Column{Name: "link", Link: true}, []tableCase{
		{"to rows that are there", []impl.RowOp{link(20, "a", "b"), link(21, "b", "c"), link(22, "c", "a")}, three("b", "c", "a"), nil},
		{"to one row from all", []impl.RowOp{link(20, "a", "b"), link(21, "b", "b"), link(22, "c", "b")}, three("b", "b", "b"), nil},
		{"to itself", []impl.RowOp{link(20, "a", "a")}, three("a", "", ""), nil},
		{"to nothing", []impl.RowOp{link(20, "a", "")}, three("", "", ""), nil},
		{"to what never was", []impl.RowOp{link(20, "a", "z")}, three("", "", ""), []impl.Clash{loose("a", "link")}},
		{"to what begins alike", []impl.RowOp{link(20, "a", "bb"), link(21, "b", "A"), link(22, "c", "a ")}, three("", "", ""), []impl.Clash{loose("a", "link"), loose("b", "link"), loose("c", "link")}},
		{"to what has values and never came", []impl.RowOp{link(20, "a", "z"), link(21, "z", "a")}, three("", "", ""), []impl.Clash{loose("a", "link")}},
		{"to what is gone", []impl.RowOp{link(20, "a", "b"), goes(21, 0, "b")}, []impl.Row{shown("a", ""), shown("c", "")}, []impl.Clash{loose("a", "link")}},
		{"to what was gone when it was set", []impl.RowOp{goes(20, 0, "b"), link(21, "a", "b")}, []impl.Row{shown("a", ""), shown("c", "")}, []impl.Clash{loose("a", "link")}},
		{"to what comes back", []impl.RowOp{link(20, "a", "b"), goes(21, 0, "b"), comes(22, 0, "b")}, three("b", "", ""), nil},
		{"to what comes later", []impl.RowOp{link(20, "a", "d"), comes(30, 0, "d")}, append(three("d", "", ""), shown("d", "")), nil},
		{"set ahead of all coming", []impl.RowOp{link(1, "a", "b")}, three("b", "", ""), nil},
		{"from what is gone", []impl.RowOp{link(20, "a", "z"), goes(21, 0, "a")}, []impl.Row{shown("b", ""), shown("c", "")}, nil},
		{"to itself, gone and back", []impl.RowOp{link(20, "a", "a"), goes(21, 0, "a"), comes(22, 0, "a")}, three("a", "", ""), nil},
		{"set anew to what is there", []impl.RowOp{link(20, "a", "z"), link(21, "a", "c")}, three("c", "", ""), nil},
		{"set anew to what is not there", []impl.RowOp{link(20, "a", "c"), link(21, "a", "z")}, three("", "", ""), []impl.Clash{loose("a", "link")}},
		{"a ring of two of which one goes", []impl.RowOp{link(20, "a", "b"), link(21, "b", "a"), goes(22, 0, "b")}, []impl.Row{shown("a", ""), shown("c", "")}, []impl.Clash{loose("a", "link")}},
		{"to + and -", []impl.RowOp{link(20, "a", "+"), link(21, "b", "-")}, three("", "", ""), []impl.Clash{loose("a", "link"), loose("b", "link")}},
	})
}

func both(time int, row, text string) impl.RowOp { return sets(time, 0, row, "both", text) }

func TestP9UniqueAndLink(t *testing.T) {
	checkCases(t, impl.Column{Name: "both", Unique: true, Link: true}, []tableCase{
		{"all hold", []impl.RowOp{both(20, "a", "b"), both(21, "b", "c"), both(22, "c", "a")}, three("b", "c", "a"), nil},
		{"twice", []impl.RowOp{both(20, "a", "c"), both(21, "b", "c")}, three("c", "", ""), []impl.Clash{twice("b", "both")}},
		{"loose", []impl.RowOp{both(20, "a", "z")}, three("", "", ""), []impl.Clash{loose("a", "both")}},
		{"both at once", []impl.RowOp{both(20, "a", "z"), both(21, "b", "z")}, three("", "", ""), []impl.Clash{loose("a", "both"), twice("b", "both")}},
		{"twice, and then both gone from under them", []impl.RowOp{both(20, "a", "c"), both(21, "b", "c"), goes(22, 0, "c")}, []impl.Row{shown("a", ""), shown("b", "")}, []impl.Clash{loose("a", "both"), twice("b", "both")}},
		{"the keeper goes, the other one is loose", []impl.RowOp{both(20, "a", "z"), both(21, "b", "z"), goes(22, 0, "a")}, []impl.Row{shown("b", ""), shown("c", "")}, []impl.Clash{loose("b", "both")}},
		{"to itself and from another", []impl.RowOp{both(20, "a", "a"), both(21, "b", "a")}, three("a", "", ""), []impl.Clash{twice("b", "both")}},
		{"to the keeper, which goes", []impl.RowOp{both(20, "a", "a"), both(21, "b", "a"), goes(22, 0, "a")}, []impl.Row{shown("b", ""), shown("c", "")}, []impl.Clash{loose("b", "both")}},
		{"nothing", []impl.RowOp{both(20, "a", ""), both(21, "b", "")}, three("", "", ""), nil},
	})
}

// Clashes are told by rising Row, of one by rising Column, and the other values of the row stay.
func TestP9ClashesRise(t *testing.T) {
	var ops []impl.RowOp
	for i, row := range []string{"c", "a", "b"} {
		ops = append(ops, comes(1+i, 0, row), sets(10+i, 0, row, "plain", "p"+row), sets(20+i, 0, row, "one", "u"), sets(30+i, 0, row, "link", "z"), sets(40+i, 0, row, "both", "y"))
	}
	want := []impl.Row{shown("a", "", "", "", "pa"), shown("b", "", "", "", "pb"), shown("c", "", "", "u", "pc")}
	clashes := []impl.Clash{
		twice("a", "both"), loose("a", "link"), twice("a", "one"), twice("b", "both"), loose("b", "link"), twice("b", "one"), loose("c", "both"), loose("c", "link"),
	}
	checkTableOf(t, "all clash", fourColumns(), ops, want, clashes...)
	slices.Reverse(ops)
	checkTableOf(t, "turned over", fourColumns(), ops, want, clashes...)
	checkTable(t, fourColumns(), ops)
}

// The same value in two columns is no clash, each column stands for itself.
func TestP9ColumnsStandAlone(t *testing.T) {
	columns := []impl.Column{{Name: "p", Unique: true}, {Name: "q", Unique: true}, {Name: "r", Link: true}}
	ops := []impl.RowOp{
		comes(1, 0, "a"), comes(2, 0, "b"), sets(3, 0, "a", "p", "x"), sets(4, 0, "b", "q", "x"), sets(5, 0, "a", "q", "y"), sets(6, 0, "b", "p", "y"), sets(7, 0, "a", "r", "b"),
	}
	checkEveryTable(t, "crosswise", columns, ops, []impl.Row{shown("a", "x", "y", "b"), shown("b", "y", "x", "")})
	// In one row as well.
	checkEveryTable(t, "in one row", columns, []impl.RowOp{comes(1, 0, "a"), sets(3, 0, "a", "p", "x"), sets(4, 0, "a", "q", "x")}, []impl.Row{shown("a", "x", "x", "")})
	// A value told empty by a clash leaves the Link of another column as it is: the row is there.
	linked := append(ops[:6:6], sets(8, 0, "b", "p", "x"), sets(9, 0, "a", "r", "b"))
	checkEveryTable(t, "linked to a row with a clash", columns, linked, []impl.Row{shown("a", "x", "y", "b"), shown("b", "", "x", "")}, twice("b", "p"))
}

// The same operations are told otherwise by other columns: what clashes hangs on them alone.
func TestP9ColumnsDecide(t *testing.T) {
	ops := []impl.RowOp{comes(1, 0, "a"), comes(2, 0, "b"), sets(3, 0, "a", "v", "z"), sets(4, 0, "b", "v", "z")}
	for _, c := range []struct {
		column  impl.Column
		a, b    string
		clashes []impl.Clash
	}{
		{impl.Column{Name: "v"}, "z", "z", nil},
		{impl.Column{Name: "v", Unique: true}, "z", "", []impl.Clash{twice("b", "v")}},
		{impl.Column{Name: "v", Link: true}, "", "", []impl.Clash{loose("a", "v"), loose("b", "v")}},
		{impl.Column{Name: "v", Unique: true, Link: true}, "", "", []impl.Clash{loose("a", "v"), twice("b", "v")}},
	} {
		checkEveryTable(t, "columns", []impl.Column{c.column}, ops, []impl.Row{shown("a", c.a), shown("b", c.b)}, c.clashes...)
	}
}
