package tests

import (
	"slices"
	"testing"

	"loop.example/g00028/impl"
)

// An answering has, for a value and a Text, the Kinds that hold.
type answering struct {
	value, text string
	kinds       []int
}

func answerings() []answering {
	same, below, above := []int{1, 4}, []int{2, 3}, []int{2}
	begins := []int{2, 4}
	return []answering{
		{"", "", same}, {"a", "a", same}, {"\x00", "\x00", same}, {letters(200), letters(200), same}, {"\u00e9", "\u00e9", same},
		{"a", "", begins}, {"ab", "a", begins}, {"\xff", "", begins}, {"a\x00", "a", begins}, {letters(200), letters(199), begins}, {"\u00e9", "\xc3", begins},
		{"", "a", below}, {"a", "ab", below}, {"a", "a\x00", below}, {letters(199), letters(200), below}, {"", "\x00", below},
		{"a", "b", below}, {"ab", "b", below}, {"A", "a", below}, {"10", "9", below}, {"a\x7f", "a\x80", below}, {"\x7f", "\x80", below}, {"az", "b", below}, {"a", "\xff", below},
		{"b", "a", above}, {"b", "ab", above}, {"a", "A", above}, {"9", "10", above}, {"\x80", "\x7f", above}, {"\xff", "a", above}, {"ba", "ab", above}, {"\xff", "\xfe\xff", above},
		{"xa", "a", above}, {"aab", "ab", below}, {"red", "re", begins}, {"re", "red", below}, {"Red", "red", below}, {"red ", "red", begins}, {" red", "red", below},
	}
}

// Each Kind holds where the document says, of values and of Keys.
func TestP19Kinds(t *testing.T) {
	for _, c := range answerings() {
		for kind := 1; kind <= 4; kind++ {
			var byValue, byKey []string
			if slices.Contains(c.kinds, kind) {
				byValue, byKey = texts("k="+c.value+","), texts(c.value+"=,")
			}
			rows := []impl.Row{shown("k", c.value, "")}
			wantView(t, "a value", twoColumns(), rows, viewAsking(asks("team", kind, c.text)), byValue...)
			checkAllGood(t, "a value", twoColumns(), rows, viewAsking(asks("team", kind, c.text)))
			if c.value != "" {
				rows = []impl.Row{shown(c.value, "", "")}
				wantView(t, "a Key", twoColumns(), rows, viewAsking(asks("", kind, c.text)), byKey...)
				checkAllGood(t, "a Key", twoColumns(), rows, viewAsking(asks("", kind, c.text)))
			}
		}
	}
}

// The column that a Cond names is asked, not another one, also if that has the Text.
func TestP19CondsOfEachColumn(t *testing.T) {
	columns := named("a", "b", "c")
	rows := []impl.Row{shown("k", "1", "2", "3"), shown("l", "3", "1", "2"), shown("m", "2", "3", "1"), shown("n", "n", "k", "l")}
	lines := texts("k=1,2,3", "l=3,1,2", "m=2,3,1", "n=n,k,l")
	for i, column := range []string{"a", "b", "c"} {
		for j, row := range rows {
			wantView(t, "a column", columns, rows, viewAsking(asks(column, impl.CSame, row.Values[i])), lines[j])
			wantView(t, "a column", columns, rows, viewAsking(asks(column, impl.COther, row.Values[i])), without(lines, lines[j:j+1])...)
			wantView(t, "a Key", columns, rows, viewAsking(asks("", impl.CSame, row.Key)), lines[j])
			wantView(t, "a Key", columns, rows, viewAsking(asks("", impl.COther, row.Key)), without(lines, lines[j:j+1])...)
		}
	}
	wantView(t, "a Key of a value", columns, rows, viewAsking(asks("", impl.CSame, "1")))
	wantView(t, "a value of a Key", columns, rows, viewAsking(asks("c", impl.CSame, "n")))
	wantView(t, "below", columns, rows, viewAsking(asks("", impl.CBelow, "m")), lines[:2]...)
}

// All Conds must be met, also several of one column.
func TestP19SeveralConds(t *testing.T) {
	rows := []impl.Row{shown("a", "red", ""), shown("b", "ready", ""), shown("c", "rex", ""), shown("d", "rose", "a"), shown("e", "", "")}
	for _, c := range []struct {
		conds []impl.Cond
		want  []string
	}{
		{[]impl.Cond{asks("team", 4, "re"), asks("team", 3, "red")}, texts("b=ready,")},
		{[]impl.Cond{asks("team", 4, "re"), asks("team", 2, "red")}, texts("b=ready,", "c=rex,")},
		{[]impl.Cond{asks("team", 2, "red"), asks("team", 2, "ready"), asks("team", 2, "rex"), asks("team", 2, "rose")}, texts("e=,")},
		{[]impl.Cond{asks("team", 1, "red"), asks("team", 1, "rex")}, nil},
		{[]impl.Cond{asks("team", 1, "red"), asks("team", 2, "red")}, nil},
		{[]impl.Cond{asks("team", 1, "red"), asks("team", 1, "red")}, texts("a=red,")},
		{[]impl.Cond{asks("team", 2, ""), asks("", 3, "d"), asks("", 2, "b"), asks("", 2, "a")}, texts("c=rex,")},
		{[]impl.Cond{asks("", 4, "a"), asks("team", 4, "r"), asks("up", 4, "")}, texts("a=red,")},
		{[]impl.Cond{asks("up", 2, ""), asks("team", 3, "s"), asks("", 1, "d")}, texts("d=rose,a")},
		{[]impl.Cond{asks("team", 3, "")}, nil}, {[]impl.Cond{asks("", 3, "")}, nil}, {[]impl.Cond{asks("", 4, "")}, texts("a=red,", "b=ready,", "c=rex,", "d=rose,a", "e=,")},
	} {
		everyOrder(c.conds, func(conds []impl.Cond) {
			wantView(t, "several Conds", twoColumns(), rows, viewAsking(conds...), c.want...)
			checkAllGood(t, "several Conds", twoColumns(), rows, viewAsking(conds...))
		})
	}
	// One that is not met is enough, wherever it stands among MaxConds.
	for at := range impl.MaxConds {
		conds := sameConds(impl.MaxConds)
		conds[at] = asks("team", impl.COther, "rex")
		wantView(t, "one of all", twoColumns(), rows, viewAsking(conds...), "a=red,", "b=ready,", "d=rose,a", "e=,")
	}
}

// A row that begins to meet the Conds comes, and one that meets them no more goes, without another row having changed.
func TestP19ChangesAcrossConds(t *testing.T) {
	for _, before := range answerings() {
		for _, after := range answerings() {
			for kind := 1; kind <= 4; kind++ {
				if before.value == after.value {
					continue
				}
				rows := []impl.Row{shown("k", before.value, "k")}
				changes := []impl.Change{alters("k", texts(before.value, "k"), texts(after.value, "k"))}
				for _, v := range []impl.View{{}, {Link: "up"}, {Group: "up"}} {
					v.Conds = []impl.Cond{asks("team", kind, before.text)}
					if code := checkFlow(t, "across", twoColumns(), rows, changes, v); code != impl.OK {
						t.Fatalf("code %d", code)
					}
				}
			}
		}
	}
}
