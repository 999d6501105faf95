package tests

import (
	"math/rand"
	"slices"
	"testing"

	"loop.example/g00028/impl"
)

func TestP9Rows(t *testing.T) {
	columns := named("x", "y")
	for _, c := range []struct {
		what string
		ops  []impl.RowOp
		want []impl.Row
	}{
		{"there without values", []impl.RowOp{comes(1, 0, "a")}, []impl.Row{shown("a", "", "")}},
		{"there with values", []impl.RowOp{comes(1, 0, "a"), sets(2, 0, "a", "x", "1"), sets(3, 0, "a", "y", "2")}, []impl.Row{shown("a", "1", "2")}},
		{"a value in one column", []impl.RowOp{comes(1, 0, "a"), sets(2, 0, "a", "y", "2")}, []impl.Row{shown("a", "", "2")}},
		{"never told to be there", []impl.RowOp{sets(1, 0, "a", "x", "1"), sets(2, 0, "a", "y", "+")}, nil},
		{"values ahead of its coming", []impl.RowOp{sets(1, 0, "a", "x", "1"), comes(2, 0, "a")}, []impl.Row{shown("a", "1", "")}},
		{"gone without having been", []impl.RowOp{goes(1, 0, "a"), sets(2, 0, "a", "x", "1")}, nil},
		{"gone", []impl.RowOp{comes(1, 0, "a"), sets(2, 0, "a", "x", "1"), goes(3, 0, "a")}, nil},
		{"gone ahead of its coming", []impl.RowOp{goes(1, 0, "a"), comes(2, 0, "a")}, []impl.Row{shown("a", "", "")}},
		{"back with its value", []impl.RowOp{comes(1, 0, "a"), sets(2, 0, "a", "x", "1"), goes(3, 0, "a"), comes(4, 0, "a")}, []impl.Row{shown("a", "1", "")}},
		{"set while gone", []impl.RowOp{comes(1, 0, "a"), sets(2, 0, "a", "x", "1"), goes(3, 0, "a"), sets(4, 0, "a", "x", "2"), comes(5, 0, "a")}, []impl.Row{shown("a", "2", "")}},
		{"set while gone, still gone", []impl.RowOp{comes(1, 0, "a"), goes(3, 0, "a"), sets(4, 0, "a", "x", "2")}, nil},
		{"gone, back and gone", []impl.RowOp{comes(1, 0, "a"), goes(2, 0, "a"), comes(3, 0, "a"), goes(4, 0, "a")}, nil},
		{"gone twice, back once", []impl.RowOp{comes(1, 0, "a"), goes(2, 0, "a"), goes(3, 0, "a"), comes(4, 0, "a")}, []impl.Row{shown("a", "", "")}},
		{"there twice, gone once", []impl.RowOp{comes(1, 0, "a"), comes(2, 0, "a"), goes(3, 0, "a")}, nil},
		{"the actors decide", []impl.RowOp{comes(1, 3, "a"), goes(1, 4, "a"), comes(2, 9, "b"), goes(2, 8, "b")}, []impl.Row{shown("b", "", "")}},
		{"the times go ahead of the actors", []impl.RowOp{comes(2, 0, "a"), goes(1, 15, "a"), sets(3, 15, "a", "x", "1"), sets(4, 0, "a", "x", "2")}, []impl.Row{shown("a", "2", "")}},
		{"set again", []impl.RowOp{comes(1, 0, "a"), sets(2, 0, "a", "x", "1"), sets(3, 0, "a", "x", "2"), sets(4, 0, "a", "y", "3")}, []impl.Row{shown("a", "2", "3")}},
		{"set to nothing", []impl.RowOp{comes(1, 0, "a"), sets(2, 0, "a", "x", "1"), sets(3, 0, "a", "x", "")}, []impl.Row{shown("a", "", "")}},
		{"a value + or - says nothing of the row", []impl.RowOp{comes(1, 0, "a"), sets(2, 0, "a", "x", "-"), sets(3, 0, "b", "x", "+"), goes(4, 0, "b")}, []impl.Row{shown("a", "-", "")}},
		{"a row named as a column", []impl.RowOp{comes(1, 0, "x"), sets(2, 0, "x", "x", "x"), sets(3, 0, "y", "x", "y")}, []impl.Row{shown("x", "x", "")}},
	} {
		checkEveryTable(t, c.what, columns, c.ops, c.want)
	}
}

// A row and a column, or a column and a value, that joined are the same text as others are not the same as these.
func TestP9TextsThatJoinToTheSame(t *testing.T) {
	columns := []impl.Column{{Name: "x", Unique: true}, {Name: "xx", Unique: true}}
	ops := []impl.RowOp{
		comes(1, 0, "a"), comes(2, 0, "ax"), sets(3, 0, "a", "xx", "1"), sets(4, 0, "ax", "x", "2"), sets(5, 0, "a", "x", "xy"), sets(6, 0, "ax", "xx", "y"),
	}
	checkEveryTable(t, "joined", columns, ops, []impl.Row{shown("a", "xy", "1"), shown("ax", "2", "y")})
	// Nor is whether a row is there the value of another one.
	there := []impl.RowOp{comes(1, 0, "a"), goes(2, 0, "ax"), sets(3, 0, "a", "x", "-"), sets(4, 0, "a", "xx", "+")}
	checkEveryTable(t, "joined to a coming", columns, there, []impl.Row{shown("a", "-", "+")})
}

// Rows are told by rising Key, byte by byte.
func TestP9RowsRise(t *testing.T) {
	keys := []string{"\x00", "\x00a", "+", "B", "a", "a\x00", "aa", "ab", "b", "\u00e9", "\xff", "\xff\xff"}
	var ops []impl.RowOp
	var want []impl.Row
	for i, key := range keys {
		ops = append(ops, comes(len(keys)-i, 5, key), sets(100-i, 0, key, "v", key))
		want = append(want, shown(key, key))
	}
	random := rand.New(rand.NewSource(30))
	for range 50 {
		checkTableOf(t, "rising", named("v"), mixed(random, ops), want)
	}
}

// A column that is neither holds whatever is set, twice and of no row.
func TestP9NeitherUniqueNorLink(t *testing.T) {
	ops := []impl.RowOp{comes(1, 0, "a"), comes(2, 0, "b"), sets(3, 0, "a", "plain", "same"), sets(4, 0, "b", "plain", "same"), sets(5, 0, "b", "link", "a")}
	checkEveryTable(t, "plain", fourColumns(), ops, []impl.Row{shown("a", "", "", "", "same"), shown("b", "", "a", "", "same")})
}

// step is what is done at one time, its Id aside.
type step struct {
	row, column, text string
}

// timed gives steps one Time each, in order, so that only that decides.
func timed(steps []step) []impl.RowOp {
	var ops []impl.RowOp
	for i, s := range steps {
		ops = append(ops, sets(1+i, i*7%16, s.row, s.column, s.text))
	}
	return ops
}

// All that two rows can do in a few steps, in a column of each sort.
func TestP9EveryFewSteps(t *testing.T) {
	clashes := map[int]int{}
	for _, column := range fourColumns() {
		pool := []step{{row: "a", text: "+"}, {row: "b", text: "+"}, {row: "a", text: "-"}, {row: "b", text: "-"}}
		for _, row := range []string{"a", "b"} {
			for _, text := range []string{"", "a", "b", "x"} {
				pool = append(pool, step{row: row, column: column.Name, text: text})
			}
		}
		// With both there at first, a few steps reach all sorts of clashes.
		first := []step{{row: "a", text: "+"}, {row: "b", text: "+"}}
		everyList(pool, 3, func(steps []step) {
			checkTable(t, []impl.Column{column}, timed(steps))
			ops := timed(slices.Concat(first, steps))
			checkTable(t, []impl.Column{column}, ops)
			_, list := sheetOf([]impl.Column{column}, ops)
			for _, c := range list {
				clashes[c.Kind]++
			}
		})
	}
	for _, kind := range []int{impl.Twice, impl.Loose} {
		if clashes[kind] < 100 {
			t.Errorf("only %d clashes of Kind %d", clashes[kind], kind)
		}
	}
}

// A few steps of three rows, in every order of their Ids and in every order of coming.
func TestP9EveryOrderOfIds(t *testing.T) {
	steps := []step{{"a", "", "+"}, {"b", "", "+"}, {"a", "both", "b"}, {"b", "both", "b"}, {"b", "", "-"}}
	everyOrder(steps, func(steps []step) {
		ops := timed(steps)
		rows, clashes := sheetOf(fourColumns(), ops)
		checkEveryTable(t, "steps", fourColumns(), ops, rows, clashes...)
	})
}

func TestP9AnyTables(t *testing.T) {
	random := rand.New(rand.NewSource(31))
	clashes := map[int]int{}
	for i := range 6000 {
		columns := fourColumns()
		if i%3 == 0 {
			columns = manyColumns(1 + random.Intn(16))
		}
		ops := anySets(random, columns, 3+random.Intn(11), random.Intn(40))
		checkTable(t, columns, ops)
		_, list := sheetOf(columns, ops)
		for _, c := range list {
			clashes[c.Kind]++
		}
	}
	for _, kind := range []int{impl.Twice, impl.Loose} {
		if clashes[kind] < 500 {
			t.Errorf("only %d clashes of Kind %d", clashes[kind], kind)
		}
	}
}

// Whatever came first, and however often, the table is the same.
func TestP9OrderDoesNotMatter(t *testing.T) {
	random := rand.New(rand.NewSource(32))
	for range 300 {
		ops := anySets(random, fourColumns(), 6, 60)
		rows, clashes, code := impl.TableOf(fourColumns(), ops)
		wantCode(t, "TableOf", code, impl.OK)
		turned := slices.Clone(ops)
		slices.Reverse(turned)
		checkTableOf(t, "turned over", fourColumns(), turned, rows, clashes...)
		checkTableOf(t, "all twice", fourColumns(), slices.Concat(ops, turned), rows, clashes...)
		for range 5 {
			checkTableOf(t, "mixed", fourColumns(), mixed(random, ops), rows, clashes...)
		}
	}
}
