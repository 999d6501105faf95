package tests

import (
	"math"
	"math/rand"
	"slices"
	"testing"

	"loop.example/g00028/impl"
)

// behindSet is what stands behind an argument's end.
func behindSet() impl.RowOp { return sets(77, 7, "behind", "", "+") }

func behindColumn() impl.Column { return impl.Column{Name: "zz", Unique: true} }

func memorySets() [][]impl.RowOp {
	random := rand.New(rand.NewSource(34))
	turned := threeThere()
	slices.Reverse(turned)
	list := [][]impl.RowOp{nil, {comes(1, 0, "a")}, turned, slices.Concat(turned, threeThere()), {{}}, {goodSet(), setWith(func(op *impl.RowOp) { op.Text = "twin" })}}
	for range 60 {
		list = append(list, anySets(random, fourColumns(), 3+random.Intn(5), random.Intn(40)))
	}
	return list
}

func TestP1TablesAreNotWrittenInto(t *testing.T) {
	for _, list := range memorySets() {
		ops, checkOps := watched(t, list, behindSet())
		columns, checkColumns := watched(t, fourColumns(), behindColumn())
		impl.TableOf(columns, ops)
		for _, column := range []string{"", "both", "none", "zz"} {
			for _, text := range []string{"", "+", "a", letters(201)} {
				impl.TableSet(columns, ops, 3, "a", column, text)
			}
		}
		checkOps()
		checkColumns()
	}
	// Columns that do not rise are left as they are, too.
	ops, checkOps := watched(t, threeThere(), behindSet())
	columns, checkColumns := watched(t, named("b", "a", "a"), behindColumn())
	impl.TableOf(columns, ops)
	impl.TableSet(columns, ops, 3, "a", "b", "")
	checkOps()
	checkColumns()
}

// copyRows copies rows with their values.
func copyRows(rows []impl.Row) []impl.Row {
	var list []impl.Row
	for _, r := range rows {
		list = append(list, shown(r.Key, slices.Clone(r.Values)...))
	}
	return list
}

func TestP1AnsweredTablesAreNew(t *testing.T) {
	told, clashed := 0, 0
	for _, list := range memorySets() {
		ops, check := watched(t, list, behindSet())
		columns := fourColumns()
		first, firstClashes, _ := impl.TableOf(columns, ops)
		again, againClashes, _ := impl.TableOf(columns, ops)
		kept, keptClashes := copyRows(again), slices.Clone(againClashes)
		told, clashed = told+len(kept), clashed+len(keptClashes)
		// The values of one row share nothing with those of the others.
		for i, row := range first {
			scribble(row.Values, "!")
			if !slices.EqualFunc(first[i+1:], kept[i+1:], sameRow) {
				t.Errorf("the lists of one answer share memory: %s, was %s", brief(first), brief(kept))
			}
		}
		scribble(first, shown("!"))
		if !slices.Equal(firstClashes, keptClashes) {
			t.Errorf("the lists of one answer share memory: %s, was %s", brief(firstClashes), brief(keptClashes))
		}
		scribble(firstClashes, twice("!", "!"))
		check()
		scribble(ops, sets(-9, -9, "!", "!", "!"))
		scribble(columns, impl.Column{Name: "!"})
		if !slices.EqualFunc(again, kept, sameRow) || !slices.Equal(againClashes, keptClashes) {
			t.Errorf("an answer shares memory: %s and %s, was %s and %s", brief(again), brief(againClashes), brief(kept), brief(keptClashes))
		}
	}
	if told < 100 || clashed < 20 {
		t.Errorf("only %d rows and %d clashes were told", told, clashed)
	}
}

// Every row that is told has a value for each column, also where there is none.
func TestP1ValuesOfEachColumn(t *testing.T) {
	for n := 1; n <= impl.MaxColumns; n++ {
		rows, _, _ := impl.TableOf(manyColumns(n), threeThere())
		for _, row := range rows {
			if len(row.Values) != n {
				t.Errorf("%d values of %d columns", len(row.Values), n)
			}
		}
	}
}

// anyColumns gives what picks columns, of which most are valid.
func anyColumns(random *rand.Rand) func() []impl.Column {
	lists := append(wrongColumns(), manyColumns(1), manyColumns(16), named("both", "link", "one"))
	return func() []impl.Column {
		if random.Intn(4) > 0 {
			return fourColumns()
		}
		return lists[random.Intn(len(lists))]
	}
}

func anyRowOps(random *rand.Rand) []impl.RowOp {
	numbers := []int{math.MinInt, -1, 0, 1, 1, 2, 3, impl.MaxTime, impl.MaxTime + 1, math.MaxInt}
	texts := []string{"", "a", "b", "+", "-", "one", "plain", letters(200), letters(201)}
	text := func() string { return texts[random.Intn(len(texts))] }
	ops := anySets(random, fourColumns(), 4, random.Intn(8))
	for range random.Intn(3) {
		ops = append(ops, sets(numbers[random.Intn(len(numbers))], random.Intn(18)-1, text(), text(), text()))
	}
	return ops
}

// No panic and an end, and nothing beside a code, for operations and columns of all kinds.
func TestP1AnyTables(t *testing.T) {
	random := rand.New(rand.NewSource(35))
	texts := []string{"", "", "a", "b", "+", "-", "one", "plain", letters(200), letters(201)}
	text := func() string { return texts[random.Intn(len(texts))] }
	pick := anyColumns(random)
	codes := map[int]int{}
	for range 20000 {
		columns, ops := pick(), anyRowOps(random)
		checkTable(t, columns, ops)
		s := setting{actor: random.Intn(19) - 1, row: text(), column: text(), text: text()}
		op, code := s.of(columns, ops)
		codes[code]++
		if code == impl.OK {
			wantCode(t, "with the operation", tableCode(columns, append(slices.Clone(ops), op)), impl.OK)
		} else if op != (impl.RowOp{}) {
			t.Errorf("code %d came with %s", code, brief(op))
		}
		if tableCode(columns, ops) == impl.OK {
			checkSetting(t, columns, ops, s)
		}
	}
	for _, code := range []int{impl.OK, impl.ErrBad, impl.ErrRange, impl.ErrFork, impl.ErrMany} {
		if codes[code] < 5 {
			t.Errorf("code %d came %d times", code, codes[code])
		}
	}
}

// The longest that there is comes to an end soon, whatever its order.
func TestP1LongestTables(t *testing.T) {
	random := rand.New(rand.NewSource(36))
	columns := manyColumns(impl.MaxColumns)
	var ops []impl.RowOp
	for i := range impl.MaxOps {
		row := letters(impl.MaxWord-1) + string(rune('a'+i%26))
		if i < 26 {
			ops = append(ops, comes(i+1, 0, row))
		} else {
			ops = append(ops, sets(i+1, 0, row, columns[random.Intn(len(columns))].Name, letters(impl.MaxWord-1)+"a"))
		}
	}
	random.Shuffle(len(ops), func(i, j int) { ops[i], ops[j] = ops[j], ops[i] })
	rows, clashes, code := impl.TableOf(columns, ops)
	wantCode(t, "TableOf", code, impl.OK)
	if len(rows) != 26 || len(clashes) == 0 {
		t.Errorf("%d rows and %d clashes", len(rows), len(clashes))
	}
	checkHolds(t, columns, ops)
	// Very many columns are not gone through for each operation.
	checkNoTable(t, make([]impl.Column, 1<<22), ops, impl.ErrBad)
}
