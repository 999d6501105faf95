package tests

import (
	"fmt"
	"math"
	"slices"
	"strings"
	"testing"

	"loop.example/g00028/impl"
)

func goodSet() impl.RowOp { return sets(5, 1, "a", "plain", "v") }

// setWith is a good operation, changed.
func setWith(change func(op *impl.RowOp)) impl.RowOp {
	op := goodSet()
	change(&op)
	return op
}

// wrongSets are operations of which each has one fault by itself.
func wrongSets() []impl.RowOp {
	list := []impl.RowOp{{}, sets(5, 1, "", "", "+")}
	for _, s := range notStamps() {
		list = append(list, setWith(func(op *impl.RowOp) { op.Id = s }), impl.RowOp{Id: s, Row: "a", Text: "+"})
	}
	for _, row := range []string{"", letters(201), strings.Repeat("\u00e9", 101), letters(100000)} {
		list = append(list, setWith(func(op *impl.RowOp) { op.Row = row }))
	}
	for _, column := range []string{"none", "plai", "plain1", "Plain", " plain", "+", "-", "a", "\x00", letters(200), letters(100000)} {
		list = append(list, setWith(func(op *impl.RowOp) { op.Column = column }))
	}
	for _, text := range []string{letters(201), strings.Repeat("\u00e9", 101), letters(100000)} {
		for _, column := range []string{"both", "link", "one", "plain"} {
			list = append(list, setWith(func(op *impl.RowOp) { op.Column, op.Text = column, text }))
		}
	}
	for _, text := range []string{"", "++", "+-", "--", " +", "+ ", "v", "a", "\x00", letters(201), letters(100000)} {
		list = append(list, sets(5, 1, "a", "", text))
	}
	return list
}

// wrongColumns are lists that are no columns, each by one fault.
func wrongColumns() [][]impl.Column {
	lists := [][]impl.Column{nil, {}, {{}}, {{Unique: true, Link: true}}}
	lists = append(lists, manyColumns(17), manyColumns(1000), make([]impl.Column, impl.MaxList+1))
	for _, names := range [][]string{
		{"b", "a"}, {"a", "a"}, {"a", "b", "b"}, {"a", "b", "a"}, {"a", "c", "b"}, {"", "a"}, {"a", ""}, {"ab", "a"}, {"a", "B"}, {"\xff", "\u00e9"}, {"plain", "plain", "plain"},
		{letters(201)}, {"a", letters(201)}, {letters(201), "y"}, {strings.Repeat("\u00e9", 101)}, {letters(100000)},
	} {
		lists = append(lists, named(names...))
	}
	return lists
}

func named(names ...string) []impl.Column {
	var columns []impl.Column
	for _, name := range names {
		columns = append(columns, impl.Column{Name: name})
	}
	return columns
}

func manyColumns(n int) []impl.Column {
	var columns []impl.Column
	for i := range n {
		columns = append(columns, impl.Column{Name: fmt.Sprintf("c%04d", i), Unique: i%2 == 1, Link: i%4 > 1})
	}
	return columns
}

func TestP9NoOperations(t *testing.T) {
	for _, ops := range [][]impl.RowOp{nil, {}} {
		checkTableOf(t, "nothing", fourColumns(), ops, nil)
		checkSet(t, fourColumns(), ops, setting{actor: 3, row: "a", text: "+"}, comes(1, 3, "a"), impl.OK)
		checkSet(t, fourColumns(), ops, setting{row: "a", column: "plain"}, sets(1, 0, "a", "plain", ""), impl.OK)
	}
}

func TestP9WrongColumns(t *testing.T) {
	for _, columns := range wrongColumns() {
		wantCode(t, "the columns", tableCode(columns, nil), impl.ErrBad)
		checkNoTable(t, columns, nil, impl.ErrBad)
		checkNoTable(t, columns, []impl.RowOp{comes(1, 0, "a")}, impl.ErrBad)
		// They are asked about ahead of a fork, and behind too many.
		checkNoTable(t, columns, []impl.RowOp{comes(1, 0, "a"), goes(1, 0, "a")}, impl.ErrBad)
		checkNoTable(t, columns, slices.Repeat([]impl.RowOp{comes(1, 0, "a")}, impl.MaxOps), impl.ErrBad)
		checkNoTable(t, columns, slices.Repeat([]impl.RowOp{comes(1, 0, "a")}, impl.MaxOps+1), impl.ErrLong)
	}
}

func TestP9ValidColumns(t *testing.T) {
	for n := 1; n <= impl.MaxColumns; n++ {
		columns := manyColumns(n)
		last := columns[n-1].Name
		ops := []impl.RowOp{comes(1, 0, "a"), sets(2, 0, "a", last, "a")}
		values := make([]string, n)
		values[n-1] = "a"
		checkTableOf(t, "columns", columns, ops, []impl.Row{shown("a", values...)})
		checkSet(t, columns, ops, setting{row: "b", column: last, text: "v"}, sets(3, 0, "b", last, "v"), impl.OK)
	}
	for _, names := range [][]string{
		{"a"}, {"a", "ab"}, {"B", "a"}, {"+", "-"}, {"\x00", "\x00\x00"}, {"\u00e9", "\xff"}, {letters(200)}, {letters(199), letters(200)}, {strings.Repeat("\u00e9", 100)}, {"a", letters(200), "y"},
	} {
		columns := named(names...)
		var ops []impl.RowOp
		var values []string
		for i, name := range names {
			ops = append(ops, sets(2+i, 0, "a", name, name))
			values = append(values, name)
		}
		checkEveryTable(t, "names", columns, append(ops, comes(1, 0, "a")), []impl.Row{shown("a", values...)})
	}
}

func TestP9WrongOperations(t *testing.T) {
	first := comes(1, 0, "a")
	for _, wrong := range wrongSets() {
		checkNoTable(t, fourColumns(), []impl.RowOp{wrong}, impl.ErrBad)
		checkNoTable(t, fourColumns(), []impl.RowOp{first, wrong}, impl.ErrBad)
		checkNoTable(t, fourColumns(), []impl.RowOp{wrong, first}, impl.ErrBad)
		checkNoTable(t, fourColumns(), []impl.RowOp{wrong, wrong}, impl.ErrBad)
	}
	// A column of another table is none here.
	checkNoTable(t, named("a"), []impl.RowOp{goodSet()}, impl.ErrBad)
	checkTableOf(t, "its own", named("plain"), []impl.RowOp{goodSet()}, nil)
}

// The first and the last of what is still valid.
func TestP9ValidOperations(t *testing.T) {
	texts := []string{"", "+", "-", "v", "\x00", letters(199), letters(200), strings.Repeat("\u00e9", 100), strings.Repeat("\xff", 200)}
	for _, id := range []impl.Stamp{stamp(1, 0), stamp(1, 15), stamp(impl.MaxTime, 0), stamp(impl.MaxTime, 15)} {
		for _, row := range texts[1:] {
			for _, column := range []string{"both", "link", "one", "plain"} {
				for _, text := range texts {
					ops := []impl.RowOp{comes(2, 0, row), {Id: id, Row: row, Column: column, Text: text}}
					wantCode(t, "valid", tableCode(fourColumns(), ops), impl.OK)
					checkTable(t, fourColumns(), ops)
				}
			}
			checkTableOf(t, "there", fourColumns(), []impl.RowOp{{Id: id, Row: row, Text: "+"}}, []impl.Row{shown(row, "", "", "", "")})
			checkTableOf(t, "gone", fourColumns(), []impl.RowOp{{Id: id, Row: row, Text: "-"}}, nil)
		}
	}
}

func TestP9Forks(t *testing.T) {
	for name, twin := range map[string]impl.RowOp{
		"another Row":    setWith(func(op *impl.RowOp) { op.Row = "b" }),
		"another Column": setWith(func(op *impl.RowOp) { op.Column = "one" }),
		"another Text":   setWith(func(op *impl.RowOp) { op.Text = "w" }),
		"no Text":        setWith(func(op *impl.RowOp) { op.Text = "" }),
		"the row there":  setWith(func(op *impl.RowOp) { op.Column, op.Text = "", "+" }),
		"the row gone":   setWith(func(op *impl.RowOp) { op.Column, op.Text = "", "-" }),
	} {
		t.Run(name, func(t *testing.T) {
			before, later := comes(1, 0, "a"), sets(6, 0, "a", "plain", "later")
			for _, list := range [][]impl.RowOp{{goodSet(), twin}, {goodSet(), twin, before, later}, {goodSet(), twin, goodSet(), twin}} {
				everyOrder(list, func(ops []impl.RowOp) { checkNoTable(t, fourColumns(), ops, impl.ErrFork) })
			}
		})
	}
	checkNoTable(t, fourColumns(), []impl.RowOp{comes(1, 0, "a"), goes(1, 0, "a")}, impl.ErrFork)
	// The actor and the time are both of the Id.
	for _, id := range []impl.Stamp{stamp(5, 0), stamp(5, 2), stamp(4, 1), stamp(6, 1)} {
		ops := []impl.RowOp{comes(1, 0, "a"), goodSet(), setWith(func(op *impl.RowOp) { op.Id, op.Text = id, "w" })}
		wantCode(t, "another Id", tableCode(fourColumns(), ops), impl.OK)
		checkTable(t, fourColumns(), ops)
	}
}

func TestP9Alike(t *testing.T) {
	ops := []impl.RowOp{goodSet(), comes(1, 0, "a"), goodSet(), comes(1, 0, "a"), goodSet()}
	checkTableOf(t, "alike", fourColumns(), ops, []impl.Row{shown("a", "", "", "", "v")})
	// What came twice does not stand against itself.
	alone := sets(2, 0, "a", "one", "m")
	checkTableOf(t, "alike and Unique", fourColumns(), []impl.RowOp{alone, alone, comes(1, 0, "a"), alone}, []impl.Row{shown("a", "", "", "m", "")})
}

func setFaults() map[int][]impl.RowOp {
	return map[int][]impl.RowOp{
		impl.ErrBad:  {setWith(func(op *impl.RowOp) { op.Row = "" })},
		impl.ErrFork: {comes(8, 0, "a"), goes(8, 0, "a")},
	}
}

// Two faults at once: ErrLong goes ahead of ErrBad, this one ahead of ErrFork, and all of them ahead of what is said of
// each call (checkNoTable asks for wrong arguments too).
func TestP9OrderOfCodes(t *testing.T) {
	columns := fourColumns()
	long := slices.Repeat([]impl.RowOp{goodSet()}, impl.MaxOps+1)
	checkNoTable(t, columns, long, impl.ErrLong)
	for code, ops := range setFaults() {
		checkNoTable(t, columns, ops, code)
		checkNoTable(t, columns, slices.Concat(ops, long), impl.ErrLong)
		checkNoTable(t, columns, slices.Concat(long, ops), impl.ErrLong)
		checkNoTable(t, columns, slices.Concat(long[:impl.MaxOps+1-len(ops)], ops), impl.ErrLong)
		checkNoTable(t, columns, slices.Concat(long[:impl.MaxOps-len(ops)], ops), code)
	}
	both := slices.Concat(setFaults()[impl.ErrBad], setFaults()[impl.ErrFork])
	everyOrder(both, func(ops []impl.RowOp) { checkNoTable(t, columns, ops, impl.ErrBad) })
	// A fork of two of which one is not valid is no fork yet.
	for _, wrong := range wrongSets() {
		twin := wrong
		twin.Column, twin.Text = "plain", "twin"
		everyOrder([]impl.RowOp{wrong, twin, goodSet()}, func(ops []impl.RowOp) { checkNoTable(t, columns, ops, impl.ErrBad) })
	}
	checkNoTable(t, columns, slices.Concat(long, both), impl.ErrLong)
	checkNoTable(t, columns, make([]impl.RowOp, impl.MaxOps), impl.ErrBad)
	checkNoTable(t, columns, make([]impl.RowOp, impl.MaxOps+1), impl.ErrLong)
	checkNoTable(t, nil, make([]impl.RowOp, impl.MaxOps+1), impl.ErrLong)
}

// manySets gives MaxOps operations of as many rows as can be with one value each, all of them the same.
func manySets() ([]impl.RowOp, []impl.Row, []impl.Clash) {
	var ops []impl.RowOp
	var rows []impl.Row
	var clashes []impl.Clash
	for i := range impl.MaxOps / 2 {
		key := fmt.Sprintf("r%05d", i)
		ops = append(ops, comes(2*i+1, 4, key), sets(2*i+2, 4, key, "one", "same"))
		if i == 0 {
			rows = append(rows, shown(key, "", "", "same", ""))
		} else {
			rows = append(rows, shown(key, "", "", "", ""))
			clashes = append(clashes, twice(key, "one"))
		}
	}
	return ops, rows, clashes
}

func TestP9Limit(t *testing.T) {
	columns := fourColumns()
	ops, rows, clashes := manySets()
	turned := slices.Clone(ops)
	slices.Reverse(turned)
	for _, ops := range [][]impl.RowOp{ops, turned} {
		checkTableOf(t, "just MaxOps", columns, ops, rows, clashes...)
		checkSet(t, columns, ops, setting{row: "a", text: "+"}, impl.RowOp{}, impl.ErrMany)
		// One more is too many, also if it is there already.
		checkNoTable(t, columns, append(slices.Clone(ops), ops[7]), impl.ErrLong)
		checkNoTable(t, columns, append(slices.Clone(ops), comes(impl.MaxOps+1, 4, "a")), impl.ErrLong)
	}
	// Those that came twice are counted twice where the limit is asked for.
	half := ops[:impl.MaxOps/2]
	all := slices.Concat(half, half)
	checkTableOf(t, "all twice", columns, all, rows[:impl.MaxOps/4], clashes[:impl.MaxOps/4-1]...)
	checkNoTable(t, columns, slices.Concat(all, half[:1]), impl.ErrLong)
}

// MaxOps rows that are there, and as many operations upon one value.
func TestP9MostOfOneSort(t *testing.T) {
	var coming, setting []impl.RowOp
	var rows []impl.Row
	for i := range impl.MaxOps {
		key := fmt.Sprintf("r%05d", i)
		coming = append(coming, comes(impl.MaxOps-i, 3, key))
		rows = append(rows, shown(key, ""))
		setting = append(setting, sets(1+i/16, i%16, "a", "plain", key))
	}
	checkTableOf(t, "all there", named("plain"), coming, rows)
	setting[0] = comes(1, 0, "a")
	checkTableOf(t, "set again and again", named("plain"), setting, []impl.Row{shown("a", rows[impl.MaxOps-1].Key)})
	slices.Reverse(setting)
	checkTableOf(t, "turned over", named("plain"), setting, []impl.Row{shown("a", rows[impl.MaxOps-1].Key)})
}

// All lists of three operations out of a pool with faults.
func TestP9EverySmallListWithFaults(t *testing.T) {
	pool := []impl.RowOp{
		comes(1, 0, "a"), comes(1, 1, "b"), sets(2, 0, "a", "both", "a"), sets(2, 0, "a", "both", "b"), sets(3, 0, "b", "both", "a"), goes(3, 1, "a"),
		sets(4, 0, "b", "one", "x"), sets(4, 0, "a", "one", "x"), sets(5, 0, "a", "none", ""), sets(5, 0, "", "one", ""), sets(0, 0, "a", "one", "x"), sets(5, 0, "a", "", "x"),
	}
	codes := map[int]int{}
	everyList(pool, 3, func(ops []impl.RowOp) {
		checkTable(t, fourColumns(), ops)
		codes[tableCode(fourColumns(), ops)]++
	})
	for _, code := range []int{impl.OK, impl.ErrBad, impl.ErrFork} {
		if codes[code] < 50 {
			t.Errorf("code %d came %d times", code, codes[code])
		}
	}
}

// Numbers that wrap are no stamps either.
func TestP9FarIds(t *testing.T) {
	for _, far := range []int{math.MinInt, math.MaxInt, 1 << 44, -1 << 32} {
		checkNoTable(t, fourColumns(), []impl.RowOp{comes(far, 0, "a")}, impl.ErrBad)
		checkNoTable(t, fourColumns(), []impl.RowOp{comes(1, far, "a")}, impl.ErrBad)
	}
	checkTableOf(t, "not so far", fourColumns(), []impl.RowOp{comes(1<<32, 0, "a")}, []impl.Row{shown("a", "", "", "", "")})
}
