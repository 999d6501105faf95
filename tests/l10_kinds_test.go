package tests

import (
	"fmt"
	"strings"
	"testing"

	"loop.example/g00028/impl"
)

// Of each Kind every field of the operation that undoes it, with others' operations ahead and behind.
func TestP12EachKind(t *testing.T) {
	others := logOf(diary(0, 3, writes(80, "o", "p"), counts(81, 1)), diary(9, 60, types(82, 'o', start())), diary(15, 7, counts(81, 1)))
	for _, c := range []struct {
		what  string
		deeds []impl.Op
		want  impl.Op
	}{
		{"a setting", []impl.Op{writes(1, "k", "v")}, impl.Op{Kind: impl.OSet, Obj: 1, Key: "k", Undo: 1}},
		{"a setting of an empty Key", []impl.Op{writes(100, "", "v")}, impl.Op{Kind: impl.OSet, Obj: 100, Undo: 1}},
		{"a setting of an empty Text", []impl.Op{writes(7, "k", "")}, impl.Op{Kind: impl.OSet, Obj: 7, Key: "k", Undo: 1}},
		{"a setting of long ones", []impl.Op{writes(7, letters(200), letters(200))}, impl.Op{Kind: impl.OSet, Obj: 7, Key: letters(200), Undo: 1}},
		{"a setting behind another one", []impl.Op{writes(1, "k", "v"), writes(1, "k", "w")}, impl.Op{Kind: impl.OSet, Obj: 1, Key: "k", Undo: 2}},
		{"a setting of another Key", []impl.Op{writes(1, "k", "v"), writes(2, "\xff\x00", "w")}, impl.Op{Kind: impl.OSet, Obj: 2, Key: "\xff\x00", Undo: 2}},
		{"a character", []impl.Op{types(3, 'x', start())}, impl.Op{Kind: impl.ODel, Obj: 3, At: stamp(20, 5), Undo: 1}},
		{"a character behind another one", []impl.Op{types(3, 'x', start()), types(3, 'y', stamp(20, 5))}, impl.Op{Kind: impl.ODel, Obj: 3, At: stamp(21, 5), Undo: 2}},
		{"a character of another list", []impl.Op{types(3, 'x', start()), types(4, 'y', start())}, impl.Op{Kind: impl.ODel, Obj: 4, At: stamp(21, 5), Undo: 2}},
		{"character 0", []impl.Op{types(3, 0, start())}, impl.Op{Kind: impl.ODel, Obj: 3, At: stamp(20, 5), Undo: 1}},
		{"a taking away", []impl.Op{types(3, 'x', start()), takes(3, stamp(20, 5))}, impl.Op{Kind: impl.OIns, Obj: 3, N: 'x', At: stamp(20, 5), Undo: 2}},
		{"a taking away of what stands behind another", []impl.Op{types(3, 'x', start()), types(3, 'y', stamp(20, 5)), takes(3, stamp(21, 5))}, impl.Op{Kind: impl.OIns, Obj: 3, N: 'y', At: stamp(21, 5), Undo: 3}},
		{"a taking away of what stands ahead of another", []impl.Op{types(3, 'x', start()), types(3, 'y', stamp(20, 5)), takes(3, stamp(20, 5))}, impl.Op{Kind: impl.OIns, Obj: 3, N: 'x', At: stamp(20, 5), Undo: 3}},
		{"a taking away of the greatest character", []impl.Op{types(3, 1114111, start()), takes(3, stamp(20, 5))}, impl.Op{Kind: impl.OIns, Obj: 3, N: 1114111, At: stamp(20, 5), Undo: 2}},
		{"a taking away of character 0", []impl.Op{types(3, 0, start()), takes(3, stamp(20, 5))}, impl.Op{Kind: impl.OIns, Obj: 3, At: stamp(20, 5), Undo: 2}},
		{"an adding", []impl.Op{counts(5, 4)}, impl.Op{Kind: impl.OAdd, Obj: 5, N: -4, Undo: 1}},
		{"an adding below 0", []impl.Op{counts(5, 4), counts(5, -7)}, impl.Op{Kind: impl.OAdd, Obj: 5, N: 7, Undo: 2}},
		{"an adding of 0", []impl.Op{counts(5, 0)}, impl.Op{Kind: impl.OAdd, Obj: 5, Undo: 1}},
		{"an adding of the most", []impl.Op{counts(5, impl.MaxTime)}, impl.Op{Kind: impl.OAdd, Obj: 5, N: -1000000000000, Undo: 1}},
		{"an adding of the least", []impl.Op{counts(5, -impl.MaxTime)}, impl.Op{Kind: impl.OAdd, Obj: 5, N: 1000000000000, Undo: 1}},
	} {
		want := c.want
		want.Actor, want.Seq = 5, len(c.deeds)+1
		alone := diary(5, 20, c.deeds...)
		want.Time, want.Deps = 20+len(c.deeds), vectorOf(5, len(c.deeds))
		checkUndo(t, c.what, alone, 5, want)
		checkUndoing(t, c.what, alone, 5)
		// With others the greatest stamp is that of actor 9, and all of them are known.
		with := logOf(alone, others)
		want.Time, want.Deps = 61, vector(2, 0, 0, 0, 0, len(c.deeds), 0, 0, 0, 1, 0, 0, 0, 0, 0, 1)
		checkUndo(t, c.what+", with others", with, 5, want)
		checkUndoing(t, c.what+", with others", with, 5)
	}
}

// The Time is the least above all stamps: a greater actor takes the same one.
func TestP12Stamps(t *testing.T) {
	for actor := range 16 {
		for other := range 16 {
			if other == actor {
				continue
			}
			for _, time := range []int{1, 4, 5, 6, 700, impl.MaxTime - 1} {
				log := logOf(diary(actor, 5, counts(1, 1)), diary(other, time, counts(1, 10)))
				want := 6
				switch {
				case time >= 6 && actor > other:
					want = time
				case time >= 6:
					want = time + 1
				}
				op, code := impl.UndoOf(log, actor)
				if code != impl.OK || op.Time != want || op.Actor != actor || op.N != -1 {
					t.Errorf("actor %d at 5, actor %d at %d: %v, code %d, want Time %d", actor, other, time, op, code, want)
				}
				checkUndoing(t, "two actors", log, actor)
			}
		}
	}
	// What others wrote counts also where the actor did not know of it when it did what is undone.
	log := logOf(diary(2, 5, writes(1, "k", "v")), diary(3, 900, counts(2, 1)), diary(4, 30, counts(2, 1), counts(2, 1)))
	checkUndo(t, "all that is there", log, 2, opWith(undoes(1, writes(1, "k", "")), func(op *impl.Op) {
		op.Actor, op.Seq, op.Time, op.Deps = 2, 2, 901, vector(0, 0, 1, 1, 2)
	}))
	checkUndo(t, "the greatest stamp is its own", log, 3, opWith(undoes(1, counts(2, -1)), func(op *impl.Op) {
		op.Actor, op.Seq, op.Time, op.Deps = 3, 2, 901, vector(0, 0, 1, 1, 2)
	}))
	checkUndo(t, "a greater actor", log, 4, opWith(undoes(2, counts(2, -1)), func(op *impl.Op) {
		op.Actor, op.Seq, op.Time, op.Deps = 4, 3, 900, vector(0, 0, 1, 1, 2)
	}))
}

// With nothing between, the document is as it was, whatever stood there.
func TestP12AsItWas(t *testing.T) {
	deeds := map[string]impl.Op{
		"a Key that is not there": writes(1, "new", "v"), "a Key that is there": writes(1, "a", "v"), "a Key that was undone": writes(1, "c", "v"), "a Key set to nothing": writes(1, "b", ""),
		"the same again": writes(1, "a", "one"), "another map": writes(2, "a", "v"), "at the beginning": types(3, 'y', start()), "behind another one": types(3, 'y', stamp(11, 0)),
		"behind one that is gone": types(3, 'y', stamp(12, 0)), "a new list": types(4, 'y', start()), "a character of its own": takes(3, stamp(22, 7)), "another one's character": takes(3, stamp(11, 0)),
		"one with others behind it": takes(3, stamp(14, 0)), "added": counts(5, 9), "added nothing": counts(5, 0), "the most": counts(5, impl.MaxTime), "the least": counts(5, -impl.MaxTime), "a new counter": counts(6, 3),
	}
	logs := map[string][]impl.Op{
		"one actor, then the other": logOf(
			diary(0, 10, writes(1, "a", "one"), types(3, 'p', start()), types(3, 'q', stamp(11, 0)), takes(3, stamp(12, 0)), types(3, 'r', stamp(12, 0)), types(3, 's', stamp(14, 0)), counts(5, 3)),
			diary(7, 20, writes(1, "b", "two"), writes(1, "c", "three"), types(3, 't', start()), undoes(2, writes(1, "c", "")), counts(5, 4), undoes(5, counts(5, -4))),
		),
	}
	logs["with a third one"] = logOf(logs["one actor, then the other"], diary(12, 1, writes(1, "a", "late"), types(3, 'z', stamp(1, 1))), diary(1, 1, types(3, 'm', start())))
	for what, log := range logs {
		for name, deed := range deeds {
			for _, actor := range []int{7, 0, 3, 15} {
				checkAsItWas(t, fmt.Sprintf("%s, %s, actor %d", what, name, actor), log, actor, deed)
			}
		}
	}
	for name, deed := range deeds {
		if deed.At == start() {
			checkAsItWas(t, "the first of all: "+name, nil, 5, deed)
		}
	}
	// One that was typed on and on, taken away from the middle.
	log := diary(2, 1, typed(3, 2, 1, "a\u00e9\u20ac\U0001f600z")...)
	for i := range 5 {
		checkAsItWas(t, fmt.Sprint("character ", i), log, 8, takes(3, stamp(1+i, 2)))
		checkAsItWas(t, fmt.Sprint("behind character ", i), log, 8, types(3, '-', stamp(1+i, 2)))
	}
}

// A full text is taken away, character by character, and comes back.
func TestP12ManyTakenAway(t *testing.T) {
	text := strings.Repeat("ab\u00e9", 20)
	log := diary(2, 1, typed(3, 2, 1, text)...)
	pages := []string{}
	for i := range 60 {
		page, _ := impl.DocText(log)
		pages = append(pages, page)
		log = withNext(log, 11, takes(3, stamp(1+i*7%60, 2)))
	}
	checkText9(t, "all gone", log, "list 3 \n")
	for i := 59; i >= 0; i-- {
		op, code := impl.UndoOf(log, 11)
		wantCode(t, "UndoOf", code, impl.OK)
		log = mergedLog(t, log, []impl.Op{op})
		checkText9(t, fmt.Sprint("undone down to ", i), log, pages[i])
	}
	checkNotUndone(t, "all is there again", log, 11, impl.ErrMissing)
	blame, _ := impl.Blame(log, 3)
	if len(blame) != 60 || blame[0] != 11 || blame[59] != 11 {
		t.Errorf("put again by %v", blame)
	}
}
