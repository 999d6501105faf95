package tests

import (
	"math/rand"
	"slices"
	"strings"
	"testing"

	"loop.example/g00028/impl"
)

// A watcher makes tables and views out of a few words, so that rows meet, link and look alike.
type watcher struct {
	random  *rand.Rand
	columns []impl.Column
	words   []string
}

func newWatcher(seed int64) watcher {
	words := texts("", "a", "a=b", "b=a", "b", "=", ",", "a,b", "b,", ":", "a:1", ">", "a>b", "\x00", "\xff", "ab", "A")
	return watcher{random: rand.New(rand.NewSource(seed)), columns: named("one", "two"), words: words}
}

func (w watcher) word() string { return w.words[w.random.Intn(len(w.words))] }

func (w watcher) values() []string {
	var values []string
	for range w.columns {
		values = append(values, w.word())
	}
	return values
}

func (w watcher) table() []impl.Row {
	var rows []impl.Row
	for range w.random.Intn(9) {
		if key := w.word(); key != "" {
			rows = append(rows, shown(key, w.values()...))
		}
	}
	for _, row := range rows {
		if ahead, behind, found := strings.Cut(row.Values[0], "="); found && w.random.Intn(2) == 0 {
			rows = append(rows, shown(row.Key+"="+ahead, behind, row.Values[1])) // its line is that of the row
		}
	}
	slices.SortStableFunc(rows, func(a, b impl.Row) int { return inWordOrder(a.Key, b.Key) })
	return slices.CompactFunc(rows, func(a, b impl.Row) bool { return a.Key == b.Key })
}

// after changes some rows of a table, and lets others go and come.
func (w watcher) after(rows []impl.Row) []impl.Row {
	next := copyRows(rows)
	for i := range next {
		switch w.random.Intn(4) {
		case 0:
			next[i].Values[w.random.Intn(len(w.columns))] = w.word()
		case 1:
			next[i].Values = w.values()
		}
	}
	next = slices.DeleteFunc(next, func(impl.Row) bool { return w.random.Intn(5) == 0 })
	for _, row := range w.table() {
		if _, isThere := rowWith(next, row.Key); !isThere && w.random.Intn(3) == 0 {
			next = append(next, row)
		}
	}
	slices.SortFunc(next, func(a, b impl.Row) int { return inWordOrder(a.Key, b.Key) })
	return next
}

func (w watcher) column() string { return texts("", "", "one", "two")[w.random.Intn(4)] }

func (w watcher) view() impl.View {
	v := impl.View{Group: w.column(), Link: w.column()}
	for range w.random.Intn(3) {
		kind := []int{impl.CSame, impl.COther, impl.COther, impl.CBelow, impl.CBegins}[w.random.Intn(5)]
		v.Conds = append(v.Conds, asks(w.column(), kind, w.word()))
	}
	return v
}

func TestP19WorldOfViews(t *testing.T) {
	w := newWatcher(167)
	moved, stayed, doubled := 0, 0, 0
	for range 20000 {
		a := w.table()
		b, v := w.after(a), w.view()
		wantCode(t, "a table", checkView(t, "a table", w.columns, a, v), impl.OK)
		changes, code := impl.RowChanges(w.columns, a, b)
		wantCode(t, "changes", code, impl.OK)
		wantBetween(t, "changes", w.columns, a, b, rowsBetween(a, b)...)
		wantCode(t, "told", checkFlow(t, "told", w.columns, a, changes, v), impl.OK)
		gone, come, _ := impl.ViewChanges(w.columns, a, changes, v)
		back, _ := impl.RowChanges(w.columns, b, a)
		wantFlow(t, "told back", w.columns, b, back, v, come, gone)
		switch lines := slices.Concat(gone, come); {
		case len(lines) == 0 && len(changes) > 0:
			stayed++
		case len(slices.Compact(lines)) < len(gone)+len(come):
			doubled++
		default:
			moved++
		}
	}
	if moved < 5000 || stayed < 2000 || doubled < 50 {
		t.Errorf("%d moved, %d stayed, %d doubled", moved, stayed, doubled)
	}
}

// A story of changes: the lines that are kept by what goes and comes alone are those of the table, all along.
func TestP19WorldOfKeptLines(t *testing.T) {
	w := newWatcher(168)
	for range 400 {
		v := w.view()
		var rows []impl.Row
		var lines []string
		for range 12 {
			next := w.after(rows)
			changes, _ := impl.RowChanges(w.columns, rows, next)
			gone, come, code := impl.ViewChanges(w.columns, rows, changes, v)
			wantCode(t, "a story", code, impl.OK)
			kept := len(lines)
			lines = append(without(lines, gone), come...)
			if len(lines) != kept-len(gone)+len(come) {
				t.Errorf("%s go, that are not all there", brief(gone))
			}
			slices.SortFunc(lines, inWordOrder)
			wantView(t, "a story", w.columns, next, v, lines...)
			rows = next
		}
	}
}

// Every pair of small tables, by each view of some that ask for all that can be asked for.
func TestP19WorldOfEveryPair(t *testing.T) {
	tables := everySmallTable()
	conds := [][]impl.Cond{nil, {asks("team", impl.CSame, "x")}, {asks("", impl.CBelow, "c"), asks("up", impl.COther, "b")}}
	told := map[string][]string{}
	for _, a := range tables {
		for _, b := range tables {
			changes, _ := impl.RowChanges(twoColumns(), a, b)
			for i, some := range conds {
				for j, v := range []impl.View{{}, {Group: "team"}, {Link: "up"}, {Group: "team", Link: "up"}, {Group: "up", Link: "up"}} {
					v.Conds = some
					before, behind := linesKept(told, i*5+j, a, v), linesKept(told, i*5+j, b, v)
					wantFlow(t, "every pair", twoColumns(), a, changes, v, without(before, behind), without(behind, before))
				}
			}
		}
	}
}

// linesKept asks for the lines of a table and a view once.
func linesKept(told map[string][]string, number int, rows []impl.Row, v impl.View) []string {
	name := string(rune('A' + number))
	for _, row := range rows {
		name += row.Key + row.Values[0] + row.Values[1] + ";"
	}
	lines, isTold := told[name]
	if !isTold {
		lines = viewLines(twoColumns(), rows, v)
		told[name] = lines
	}
	return lines
}

// Tables that operations made are watched, with all that was merged.
func TestP19WorldOfTables(t *testing.T) {
	random := rand.New(rand.NewSource(169))
	columns := fourColumns()
	for range 300 {
		ops := anySets(random, columns, 4, 12)
		first, _, code := impl.TableOf(columns, ops[:len(ops)/2])
		wantCode(t, "TableOf", code, impl.OK)
		second, _, _ := impl.TableOf(columns, ops)
		changes, code := impl.RowChanges(columns, first, second)
		wantCode(t, "RowChanges", code, impl.OK)
		for _, v := range []impl.View{{}, {Link: "link"}, {Link: "both", Group: "plain"}, {Group: "one"}, {Conds: []impl.Cond{asks("plain", impl.COther, "")}}} {
			wantCode(t, "watched", checkFlow(t, "watched", columns, first, changes, v), impl.OK)
			wantCode(t, "watched", checkView(t, "watched", columns, second, v), impl.OK)
		}
	}
}

// Many rows that link in chains and to one, with many that change.
func TestP19WorldOfManyRows(t *testing.T) {
	random := rand.New(rand.NewSource(170))
	for _, n := range []int{500, impl.MaxOps} {
		a := manyRows(n)
		b := copyRows(a)
		for i := range b {
			switch random.Intn(6) {
			case 0:
				b[i].Values[1] = a[7].Key
			case 1:
				b[i].Values[0] = "moved"
			case 2:
				b[i].Values[1] = "nobody"
			}
		}
		b = slices.DeleteFunc(b, func(impl.Row) bool { return random.Intn(7) == 0 })
		changes, code := impl.RowChanges(twoColumns(), a, b)
		wantCode(t, "many", code, impl.OK)
		for _, v := range someViews() {
			before, _ := impl.ViewOf(twoColumns(), a, v)
			behind, _ := impl.ViewOf(twoColumns(), b, v)
			gone, come, code := impl.ViewChanges(twoColumns(), a, changes, v)
			wantCode(t, "many", code, impl.OK)
			made := slices.Concat(without(before, gone), come)
			slices.SortFunc(made, inWordOrder)
			if !slices.Equal(made, behind) || len(gone) == 0 || len(come) == 0 {
				t.Errorf("%d rows by %s: %d go, %d come", n, brief(v), len(gone), len(come))
			}
			if n == 500 && !slices.Equal(behind, viewLines(twoColumns(), b, v)) {
				t.Errorf("%d rows by %s: %s", n, brief(v), brief(behind))
			}
		}
	}
}
