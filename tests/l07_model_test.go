package tests

import (
	"math/rand"
	"slices"
	"testing"

	"loop.example/g00028/impl"
)

func sets(time, actor int, row, column, text string) impl.RowOp {
	return impl.RowOp{Id: stamp(time, actor), Row: row, Column: column, Text: text}
}

func comes(time, actor int, row string) impl.RowOp { return sets(time, actor, row, "", "+") }

func goes(time, actor int, row string) impl.RowOp { return sets(time, actor, row, "", "-") }

func shown(key string, values ...string) impl.Row { return impl.Row{Key: key, Values: values} }

func twice(row, column string) impl.Clash {
	return impl.Clash{Row: row, Column: column, Kind: impl.Twice}
}

func loose(row, column string) impl.Clash {
	return impl.Clash{Row: row, Column: column, Kind: impl.Loose}
}

// fourColumns has a column of each sort, named by it.
func fourColumns() []impl.Column {
	return []impl.Column{{Name: "both", Unique: true, Link: true}, {Name: "link", Link: true}, {Name: "one", Unique: true}, {Name: "plain"}}
}

func validColumns(columns []impl.Column) bool {
	for i, c := range columns {
		if len(c.Name) == 0 || len(c.Name) > 200 || slices.ContainsFunc(columns[:i], func(ahead impl.Column) bool { return ahead.Name >= c.Name }) {
			return false
		}
	}
	return len(columns) > 0 && len(columns) < 17
}

// validRowOp says again what an operation must be.
func validRowOp(columns []impl.Column, op impl.RowOp) bool {
	if !impl.StampOK(op.Id) || len(op.Row) == 0 || len(op.Row) > 200 || len(op.Text) > 200 {
		return false
	}
	for _, c := range columns {
		if c.Name == op.Column {
			return true
		}
	}
	return op.Column == "" && (op.Text == "+" || op.Text == "-")
}

// tableCode looks for the faults in their order, each by holding all against all.
func tableCode(columns []impl.Column, ops []impl.RowOp) int {
	if len(ops) > 2048 {
		return impl.ErrLong
	}
	if !validColumns(columns) || slices.ContainsFunc(ops, func(op impl.RowOp) bool { return !validRowOp(columns, op) }) {
		return impl.ErrBad
	}
	for _, one := range ops {
		if slices.ContainsFunc(ops, func(other impl.RowOp) bool { return other.Id == one.Id && other != one }) {
			return impl.ErrFork
		}
	}
	return impl.OK
}

// lastSet looks through all operations for the one that counts in a row and a column; it is zero if there is none.
func lastSet(ops []impl.RowOp, row, column string) impl.RowOp {
	var last impl.RowOp
	for _, op := range ops {
		if op.Row == row && op.Column == column && impl.StampLess(last.Id, op.Id) {
			last = op
		}
	}
	return last
}

// rowsThere gives the keys of the rows that are there, rising.
func rowsThere(ops []impl.RowOp) []string {
	var keys []string
	for _, op := range ops {
		if lastSet(ops, op.Row, "").Text == "+" {
			keys = append(keys, op.Row)
		}
	}
	slices.Sort(keys)
	return slices.Compact(keys)
}

// clashIn asks every other row about the value of a row, 0 if there is nothing against it.
func clashIn(ops []impl.RowOp, column impl.Column, row string) int {
	mine := lastSet(ops, row, column.Name)
	if mine.Text == "" {
		return 0
	}
	linked := false
	for _, key := range rowsThere(ops) {
		its := lastSet(ops, key, column.Name)
		if column.Unique && key != row && its.Text == mine.Text && impl.StampLess(its.Id, mine.Id) {
			return 1
		}
		linked = linked || key == mine.Text
	}
	if column.Link && !linked {
		return 2
	}
	return 0
}

// sheetOf writes down what the document says of valid operations.
func sheetOf(columns []impl.Column, ops []impl.RowOp) ([]impl.Row, []impl.Clash) {
	var rows []impl.Row
	var clashes []impl.Clash
	for _, key := range rowsThere(ops) {
		row := impl.Row{Key: key}
		for _, c := range columns {
			value := lastSet(ops, key, c.Name).Text
			if kind := clashIn(ops, c, key); kind != 0 {
				clashes = append(clashes, impl.Clash{Row: key, Column: c.Name, Kind: kind})
				value = ""
			}
			row.Values = append(row.Values, value)
		}
		rows = append(rows, row)
	}
	return rows, clashes
}

func sameRow(a, b impl.Row) bool {
	return a.Key == b.Key && slices.Equal(a.Values, b.Values)
}

func checkTableOf(t *testing.T, what string, columns []impl.Column, ops []impl.RowOp, want []impl.Row, wantClashes ...impl.Clash) {
	t.Helper()
	rows, clashes, code := impl.TableOf(columns, ops)
	if code != impl.OK || !slices.EqualFunc(rows, want, sameRow) || !slices.Equal(clashes, wantClashes) {
		t.Errorf("%s: TableOf %s: %s, clashes %s, code %d, want %s, clashes %s", what, brief(ops), brief(rows), brief(clashes), code, brief(want), brief(wantClashes))
	}
}

// checkTable holds what the program tells of operations against what is written down here, and looks by itself whether
// the promise holds.
func checkTable(t *testing.T, columns []impl.Column, ops []impl.RowOp) {
	t.Helper()
	if code := tableCode(columns, ops); code != impl.OK {
		checkNoTable(t, columns, ops, code)
		return
	}
	rows, clashes := sheetOf(columns, ops)
	checkTableOf(t, "set", columns, ops, rows, clashes...)
	checkHolds(t, columns, ops)
}

// checkHolds looks at what is told alone: no value twice in a Unique column, no Link to a row that is not told, and
// nothing where a clash is.
func checkHolds(t *testing.T, columns []impl.Column, ops []impl.RowOp) {
	t.Helper()
	rows, clashes, _ := impl.TableOf(columns, ops)
	value := func(row, column string) string {
		i := slices.IndexFunc(rows, func(r impl.Row) bool { return r.Key == row })
		j := slices.IndexFunc(columns, func(c impl.Column) bool { return c.Name == column })
		return rows[i].Values[j]
	}
	for j, c := range columns {
		for i, row := range rows {
			text := row.Values[j]
			if text == "" {
				continue
			}
			if c.Unique && slices.ContainsFunc(rows[:i], func(ahead impl.Row) bool { return ahead.Values[j] == text }) {
				t.Errorf("%s is told twice in the column %s: %s", brief(text), brief(c.Name), brief(rows))
			}
			if c.Link && !slices.ContainsFunc(rows, func(r impl.Row) bool { return r.Key == text }) {
				t.Errorf("%s is told in the column %s and is no row: %s", brief(text), brief(c.Name), brief(rows))
			}
		}
	}
	for i, c := range clashes {
		if value(c.Row, c.Column) != "" {
			t.Errorf("a value is told where there is a clash: %s of %s", brief(c), brief(rows))
		}
		if i > 0 && (clashes[i-1].Row > c.Row || clashes[i-1].Row == c.Row && clashes[i-1].Column >= c.Column) {
			t.Errorf("clashes do not rise: %s", brief(clashes))
		}
	}
}

// checkEveryTable checks what operations make in every order, and with one of them twice.
func checkEveryTable(t *testing.T, what string, columns []impl.Column, ops []impl.RowOp, want []impl.Row, clashes ...impl.Clash) {
	t.Helper()
	everyOrder(ops, func(ops []impl.RowOp) {
		checkTableOf(t, what, columns, ops, want, clashes...)
	})
	for _, op := range ops {
		checkTableOf(t, what+", one twice", columns, append(slices.Clone(ops), op), want, clashes...)
		checkTableOf(t, what+", one twice", columns, append([]impl.RowOp{op}, ops...), want, clashes...)
	}
	checkTable(t, columns, ops)
}

// checkNoTable checks that every call of tables answers this code and nothing else.
func checkNoTable(t *testing.T, columns []impl.Column, ops []impl.RowOp, want int) {
	t.Helper()
	rows, clashes, code := impl.TableOf(columns, ops)
	wantCode(t, "TableOf", code, want)
	zeroWithCode(t, rows, code)
	zeroWithCode(t, clashes, code)
	// What is said of a new operation comes behind the codes of the chapter.
	checkSet(t, columns, ops, setting{row: "a", text: "+"}, impl.RowOp{}, want)
	checkSet(t, columns, ops, setting{actor: 16, column: "none", text: letters(201)}, impl.RowOp{}, want)
}

// A setting is what TableSet is handed beside the columns and the operations.
type setting struct {
	actor             int
	row, column, text string
}

func (s setting) of(columns []impl.Column, ops []impl.RowOp) (impl.RowOp, int) {
	return impl.TableSet(columns, ops, s.actor, s.row, s.column, s.text)
}

func checkSet(t *testing.T, columns []impl.Column, ops []impl.RowOp, s setting, want impl.RowOp, wantCode int) {
	t.Helper()
	if op, code := s.of(columns, ops); op != want || code != wantCode {
		t.Errorf("TableSet %s of %s: %s, code %d, want %s, code %d", brief(s), brief(ops), brief(op), code, brief(want), wantCode)
	}
}

// unlikeRowOps leaves of operations each once.
func unlikeRowOps(ops []impl.RowOp) []impl.RowOp {
	var list []impl.RowOp
	for _, op := range ops {
		if !slices.Contains(list, op) {
			list = append(list, op)
		}
	}
	return list
}

// setOf writes down what the document says of a new operation upon valid ones.
func setOf(columns []impl.Column, ops []impl.RowOp, s setting) (impl.RowOp, int) {
	if s.actor < 0 || s.actor > 15 {
		return impl.RowOp{}, impl.ErrRange
	}
	op := sets(1, s.actor, s.row, s.column, s.text)
	if !validRowOp(columns, op) {
		return impl.RowOp{}, impl.ErrBad
	}
	var ids []impl.Stamp
	for _, other := range unlikeRowOps(ops) {
		ids = append(ids, other.Id)
	}
	id, code := impl.StampNext(ids, s.actor)
	if len(ids) >= 2048 || code != impl.OK {
		return impl.RowOp{}, impl.ErrMany
	}
	op.Id = id
	return op, impl.OK
}

// withSet gives the operations with a new one behind them.
func withSet(t *testing.T, columns []impl.Column, ops []impl.RowOp, s setting) []impl.RowOp {
	t.Helper()
	op, code := s.of(columns, ops)
	if code != impl.OK {
		t.Fatalf("TableSet %s of %s: code %d", brief(s), brief(ops), code)
	}
	return slices.Concat(ops, []impl.RowOp{op})
}

// someKeys are a few rows, and values too, so that many Links find one; beside them what an order could trip over.
func someKeys() []string {
	return []string{"a", "b", "c", "a", "b", "ab", "B", "+", "-", "\x00", "\xff", "\u00e9", "one"}
}

// anySets gives valid operations of a few rows, so that many clash, in any order and some of them twice.
func anySets(random *rand.Rand, columns []impl.Column, keys, size int) []impl.RowOp {
	var ops []impl.RowOp
	for i := range size {
		op := impl.RowOp{Id: stamp(1+i/3, i%3*5), Row: someKeys()[random.Intn(keys)]}
		if random.Intn(3) == 0 {
			op.Text = []string{"+", "+", "-"}[random.Intn(3)]
		} else {
			op.Column = columns[random.Intn(len(columns))].Name
			op.Text = append(someKeys()[:keys], "")[random.Intn(keys+1)]
		}
		ops = append(ops, op)
	}
	return mixed(random, ops)
}
