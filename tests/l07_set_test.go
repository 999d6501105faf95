package tests

import (
	"math"
	"math/rand"
	"slices"
	"strings"
	"testing"

	"loop.example/g00028/impl"
)

// checkSetting checks a new operation against what the document says, and that it counts behind the others.
func checkSetting(t *testing.T, columns []impl.Column, ops []impl.RowOp, s setting) {
	t.Helper()
	want, wantCode := setOf(columns, ops, s)
	checkSet(t, columns, ops, s, want, wantCode)
	if wantCode != impl.OK || len(ops) >= impl.MaxOps {
		return
	}
	with := append([]impl.RowOp{want}, ops...)
	checkTable(t, columns, with)
	if lastSet(with, s.row, s.column) != want {
		t.Errorf("%s does not count behind %s", brief(want), brief(ops))
	}
}

func TestP9EverySetting(t *testing.T) {
	base := []impl.RowOp{
		comes(1, 0, "a"), sets(2, 3, "a", "one", "x"), comes(3, 0, "b"), sets(4, 0, "b", "one", "x"), goes(5, 9, "a"), sets(6, 2, "b", "link", "a"), sets(7, 7, "c", "both", "c"),
	}
	for size := range len(base) + 1 {
		for _, actor := range []int{-1, 0, 6, 7, 8, 15, 16} {
			for _, row := range []string{"", "a", "b", "c", "+", letters(200), letters(201)} {
				for _, column := range []string{"", "both", "link", "one", "plain", "none", "a", letters(201)} {
					for _, text := range []string{"", "+", "-", "a", "x", letters(200), letters(201)} {
						checkSetting(t, fourColumns(), base[:size], setting{actor: actor, row: row, column: column, text: text})
					}
				}
			}
		}
	}
}

func TestP9AnySettings(t *testing.T) {
	random := rand.New(rand.NewSource(33))
	for range 6000 {
		ops := anySets(random, fourColumns(), 6, random.Intn(20))
		s := setting{actor: random.Intn(16), row: someKeys()[random.Intn(5)], text: someKeys()[random.Intn(len(someKeys()))]}
		if random.Intn(4) > 0 {
			s.column = fourColumns()[random.Intn(4)].Name
		}
		checkSetting(t, fourColumns(), ops, s)
	}
}

// What clashes may be set: it is the telling that takes it out.
func TestP9SettingsThatClash(t *testing.T) {
	columns := fourColumns()
	ops := []impl.RowOp{comes(1, 0, "a"), comes(2, 0, "b"), sets(3, 0, "a", "one", "x")}
	ops = withSet(t, columns, ops, setting{actor: 1, row: "b", column: "one", text: "x"})
	checkTableOf(t, "twice", columns, ops, []impl.Row{shown("a", "", "", "x", ""), shown("b", "", "", "", "")}, twice("b", "one"))
	ops = withSet(t, columns, ops, setting{actor: 2, row: "a", column: "link", text: "z"})
	checkTableOf(t, "loose", columns, ops, []impl.Row{shown("a", "", "", "x", ""), shown("b", "", "", "", "")}, loose("a", "link"), twice("b", "one"))
	ops = withSet(t, columns, ops, setting{actor: 2, row: "z", text: "+"})
	checkTableOf(t, "no more loose", columns, ops, []impl.Row{shown("a", "", "z", "x", ""), shown("b", "", "", "", ""), shown("z", "", "", "", "")}, twice("b", "one"))
	ops = withSet(t, columns, ops, setting{actor: 0, row: "a", text: "-"})
	checkTableOf(t, "no more twice", columns, ops, []impl.Row{shown("b", "", "", "x", ""), shown("z", "", "", "", "")})
	// A row that is there may come, one that is gone may go, and what is not there may be set.
	ops = withSet(t, columns, ops, setting{actor: 0, row: "b", text: "+"})
	ops = withSet(t, columns, ops, setting{actor: 0, row: "a", text: "-"})
	ops = withSet(t, columns, ops, setting{actor: 0, row: "a", column: "plain", text: "p"})
	checkTableOf(t, "as it was", columns, ops, []impl.Row{shown("b", "", "", "x", ""), shown("z", "", "", "", "")})
	ops = withSet(t, columns, ops, setting{actor: 15, row: "a", text: "+"})
	checkTableOf(t, "back", columns, ops, []impl.Row{shown("a", "", "z", "x", "p"), shown("b", "", "", "", ""), shown("z", "", "", "", "")}, twice("b", "one"))
}

// fullSets gives MaxOps operations that are all unlike.
func fullSets() []impl.RowOp {
	ops := []impl.RowOp{comes(1, 5, "a")}
	for i := len(ops); i < impl.MaxOps; i++ {
		ops = append(ops, sets(i+1, 5, "a", "plain", "v"))
	}
	return ops
}

// wrongSettings are such that are not valid, by an actor that is one.
func wrongSettings() []setting {
	good := setting{actor: 1, row: "a", column: "plain", text: "v"}
	with := func(change func(s *setting)) setting {
		s := good
		change(&s)
		return s
	}
	var list []setting
	// The texts have limits of their own, which count alone: also one above MaxBytes is not too long but not valid.
	for _, text := range []string{letters(201), strings.Repeat("\u00e9", 101), letters(impl.MaxBytes), letters(impl.MaxBytes + 1)} {
		list = append(list, with(func(s *setting) { s.row = text }), with(func(s *setting) { s.column = text }), with(func(s *setting) { s.text = text }), with(func(s *setting) { s.column, s.text = "", text }))
	}
	list = append(list, with(func(s *setting) { s.row = "" }), with(func(s *setting) { s.column = "none" }), with(func(s *setting) { s.column = "+" }))
	for _, text := range []string{"", "v", "++", "+-", " +", "\x00"} {
		list = append(list, with(func(s *setting) { s.column, s.text = "", text }))
	}
	return append(list, setting{}, setting{text: "+"}, setting{column: "plain"})
}

func TestP9WrongSettings(t *testing.T) {
	columns := fourColumns()
	few := []impl.RowOp{comes(1, 5, "a"), sets(2, 5, "a", "one", "x")}
	noStampLeft := append(slices.Clone(few), comes(impl.MaxTime, 15, "b"))
	for _, ops := range [][]impl.RowOp{nil, few, fullSets(), noStampLeft} {
		for _, s := range wrongSettings() {
			checkSet(t, columns, ops, s, impl.RowOp{}, impl.ErrBad)
			for _, actor := range []int{-1, 16, math.MinInt, math.MaxInt, 1 << 32} {
				s.actor = actor
				checkSet(t, columns, ops, s, impl.RowOp{}, impl.ErrRange)
			}
		}
		checkSet(t, columns, ops, setting{actor: 16, row: "a", text: "+"}, impl.RowOp{}, impl.ErrRange)
		checkSet(t, columns, ops, setting{actor: -1, row: "a", column: "plain"}, impl.RowOp{}, impl.ErrRange)
	}
	for _, ops := range [][]impl.RowOp{fullSets(), noStampLeft} {
		checkSet(t, columns, ops, setting{actor: 15, row: "a", text: "+"}, impl.RowOp{}, impl.ErrMany)
		checkSet(t, columns, ops, setting{actor: 15, row: "a", column: "plain"}, impl.RowOp{}, impl.ErrMany)
	}
}

func TestP9SettingsAtTheBounds(t *testing.T) {
	columns := append(fourColumns(), named(letters(200))...)
	ops := []impl.RowOp{comes(4, 5, "a")}
	for actor := range impl.Actors {
		want := sets(5, actor, "r", "plain", "")
		if actor > 5 {
			want.Id.Time = 4
		}
		checkSet(t, columns, ops, setting{actor: actor, row: "r", column: "plain"}, want, impl.OK)
	}
	wide := strings.Repeat("\u00e9", 100)
	for _, row := range []string{"r", letters(200), wide} {
		checkSet(t, columns, ops, setting{row: row, text: "+"}, comes(5, 0, row), impl.OK)
		checkSet(t, columns, ops, setting{row: row, text: "-"}, goes(5, 0, row), impl.OK)
		for _, column := range []string{"both", "link", "one", "plain", letters(200)} {
			for _, text := range []string{"", "+", "v", letters(200), wide} {
				checkSet(t, columns, ops, setting{row: row, column: column, text: text}, sets(5, 0, row, column, text), impl.OK)
			}
		}
	}
}

// There is room for MaxOps that are unlike, whatever came twice.
func TestP9SettingsWithManyOps(t *testing.T) {
	columns := fourColumns()
	full := fullSets()
	last := impl.MaxOps
	s := setting{actor: 5, row: "b", text: "+"}
	checkSet(t, columns, full, s, impl.RowOp{}, impl.ErrMany)
	checkSet(t, columns, full[:last-1], s, comes(last, 5, "b"), impl.OK)
	alike := append(slices.Clone(full[:last-1]), full[7])
	checkSet(t, columns, alike, s, comes(last, 5, "b"), impl.OK)
	checkSet(t, columns, slices.Repeat(full[:1], last), s, comes(2, 5, "b"), impl.OK)
	checkSet(t, columns, slices.Concat(full, full[:1]), s, impl.RowOp{}, impl.ErrLong)
}

// The Id is above all, those that do not count too, and the least such.
func TestP9IdsOfSettings(t *testing.T) {
	last := impl.MaxTime
	for _, c := range []struct {
		time, actor, by int
		want            impl.Stamp
	}{
		{4, 4, 5, stamp(4, 5)}, {4, 4, 4, stamp(5, 4)}, {4, 4, 3, stamp(5, 3)}, {4, 15, 0, stamp(5, 0)}, {4, 0, 15, stamp(4, 15)},
		{last - 1, 15, 0, stamp(last, 0)}, {last - 1, 15, 15, stamp(last, 15)}, {last, 3, 4, stamp(last, 4)}, {last, 14, 15, stamp(last, 15)}, {last, 0, 1, stamp(last, 1)},
		{last, 3, 3, start()}, {last, 3, 2, start()}, {last, 15, 15, start()}, {last, 15, 0, start()}, {last, 0, 0, start()},
	} {
		for _, greatest := range []impl.RowOp{comes(c.time, c.actor, "b"), goes(c.time, c.actor, "b"), sets(c.time, c.actor, "z", "one", "")} {
			ops := []impl.RowOp{comes(1, 0, "a"), greatest, sets(2, 15, "a", "plain", "v"), greatest}
			s := setting{actor: c.by, row: "a", column: "plain", text: "w"}
			everyOrder(ops, func(ops []impl.RowOp) {
				if c.want == start() {
					checkSet(t, fourColumns(), ops, s, impl.RowOp{}, impl.ErrMany)
				} else {
					checkSet(t, fourColumns(), ops, s, impl.RowOp{Id: c.want, Row: "a", Column: "plain", Text: "w"}, impl.OK)
				}
			})
			checkSetting(t, fourColumns(), ops, s)
		}
	}
}
