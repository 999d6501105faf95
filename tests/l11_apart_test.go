package tests

import (
	"fmt"
	"slices"
	"testing"

	"loop.example/g00028/impl"
)

func TestP13NothingOnASide(t *testing.T) {
	s := inOrder(story())
	text, _ := impl.DocText(s)
	for _, none := range [][]impl.Op{nil, {}, s[:0]} {
		checkParted(t, "nothing on both", none, nil, parted{base: vector()})
		checkParted(t, "nothing on one", s, none, parted{base: vector(), left: s, merged: s, text: text})
		checkParted(t, "nothing on the other", none, s, parted{base: vector(), right: s, merged: s, text: text})
	}
	full := fullLog(impl.MaxLog)
	checkParted(t, "nothing, and a full log", nil, full, parted{base: vector(), right: full, merged: full})
	for actor := range 16 {
		for name, op := range eachFirst() {
			one := []impl.Op{opWith(op, func(op *impl.Op) { op.Actor = actor })}
			checkParted(t, fmt.Sprint("nothing, and one ", name, " of actor ", actor), nil, one, parted{base: vector(), right: one, merged: one})
		}
	}
}

func TestP13TheSameLog(t *testing.T) {
	for what, log := range edgeLogs() {
		v, code := impl.LogVector(log)
		wantCode(t, what, code, impl.OK)
		checkParted(t, what+", in one memory", log, log, parted{base: v, merged: log})
		checkParted(t, what, log, copyLog(log), parted{base: v, merged: log})
	}
	full := fullLog(impl.MaxLog)
	checkParted(t, "full logs", full, copyLog(full), parted{base: knownIn(full), merged: full})
}

// Each beginning of the story with each longer one.
func TestP13ABeginning(t *testing.T) {
	s := story()
	for j := range len(s) + 1 {
		for i := range j + 1 {
			short, long := inOrder(s[:i]), inOrder(s[:j])
			want := parted{base: knownIn(short), right: inOrder(s[i:j]), merged: long}
			want.text, _ = impl.DocText(long)
			checkParted(t, fmt.Sprint("the first ", i, " and the first ", j), short, long, want)
		}
	}
	full := fullLog(impl.MaxLog)
	for _, size := range []int{1, 15, 16, 500, impl.MaxLog - 1} {
		short := fullLog(size)
		checkWritten(t, fmt.Sprint(size, " of a full log"), short, full, parted{base: knownIn(short), right: aheadOf(full, short), merged: full})
	}
}

// Two devices that went on from the story: at several actors each, at one of them both did the same.
func TestP13AtSeveralActors(t *testing.T) {
	s := inOrder(story())
	toldToBoth := opAdd(by(9, 1, 6, 3, 2), 5, 100)
	left, right := logOf(s, []impl.Op{toldToBoth}), logOf(s, copyLog([]impl.Op{toldToBoth}))
	l1, l2 := opSet(by(0, 4, 8, 0, 2), 1, "a", "left"), opIns(by(4, 1, 9, 4), 3, 'L', stamp(3, 1))
	l3 := opAdd(by(0, 5, 10, 0, 2, 0, 0, 1), 5, 1)
	r1, r2 := opIns(by(1, 3, 8, 3), 3, 'R', stamp(3, 1)), opSet(by(15, 3, 9, 3, 3), 1, "a", "right")
	r3 := opWith(opAdd(by(1, 4, 11, 3), 5, -4), func(op *impl.Op) { op.Undo = 2 })
	left, right = logOf(left, []impl.Op{l1, l2, l3}), logOf(right, []impl.Op{r1, r2, r3})
	checkParted(t, "from the story", left, right, parted{
		base: vector(3, 2, 0, 0, 0, 0, 0, 0, 0, 1, 0, 0, 0, 0, 0, 2),
		left: []impl.Op{l1, l3, l2}, right: []impl.Op{r1, r3, r2},
		merged: []impl.Op{s[0], s[1], s[2], l1, l3, s[3], s[4], r1, r3, l2, toldToBoth, s[5], s[6], r2},
		text:   "map 1 a=right b=two\nlist 3 yLR\ncount 5 101\n",
	})
	// Without what both had: nothing of one is known to the other.
	one, two := diary(3, 1, writes(1, "k", "one"), counts(5, 1)), logOf(diary(2, 1, writes(1, "k", "two")), diary(14, 1, counts(5, 2)))
	checkParted(t, "nothing in common", one, two, parted{base: vector(), left: one, right: two, merged: logOf(one, two), text: "map 1 k=one\ncount 5 3\n"})
}

// Of each actor, the one device has its operations further, of another actor the other device.
func TestP13TwoActorsFurther(t *testing.T) {
	var all [][]impl.Op
	for actor := range 16 {
		all = append(all, diary(actor, 1, counts(5, 1), writes(1, "k", fmt.Sprint(actor)), counts(5, 10)))
	}
	shortened := func(cut map[int]int) []impl.Op {
		return slices.DeleteFunc(logOf(all...), func(op impl.Op) bool {
			n, ok := cut[op.Actor]
			return ok && op.Seq > n
		})
	}
	for one := range 16 {
		for other := range 16 {
			if one == other {
				continue
			}
			a, b := shortened(map[int]int{one: 1}), shortened(map[int]int{other: 2})
			base := fullVector(3)
			base.Counts[one], base.Counts[other] = 1, 2
			checkParted(t, fmt.Sprint("actor ", one, " and actor ", other), a, b, parted{
				base: base, left: all[other][2:], right: all[one][1:], merged: logOf(all...), text: "map 1 k=15\ncount 5 176\n",
			})
			c, d := shortened(map[int]int{one: 0}), shortened(map[int]int{other: 0})
			base.Counts[one], base.Counts[other] = 0, 0
			checkParted(t, fmt.Sprint("actor ", one, " and actor ", other, " alone"), c, d, parted{
				base: base, left: all[other], right: all[one], merged: logOf(all...), text: "map 1 k=15\ncount 5 176\n",
			})
		}
	}
}

// A count of each actor: all that both have, and no more.
func TestP13BaseOfEachActor(t *testing.T) {
	a, b := []impl.Op{}, []impl.Op{}
	base := vector()
	for actor := range 16 {
		own := diary(actor, 100*actor+1, slices.Repeat([]impl.Op{counts(5, 1)}, 20)...)
		n, m := (actor*7+3)%20, (actor*3+5)%20
		a, b = slices.Concat(a, own[:n]), slices.Concat(b, own[:m])
		base.Counts[actor] = min(n, m)
	}
	var left, right []impl.Op
	for _, op := range a {
		if op.Seq > base.Counts[op.Actor] {
			left = append(left, op)
		}
	}
	for _, op := range b {
		if op.Seq > base.Counts[op.Actor] {
			right = append(right, op)
		}
	}
	checkParted(t, "each actor", a, b, parted{base: base, left: left, right: right, merged: inOrder(slices.Concat(a, right)), text: fmt.Sprintf("count 5 %d\n", len(a)+len(right))})
}

// All logs that a part of the story is, each with each.
func TestP13EveryPart(t *testing.T) {
	logs := logsAmong(story())
	if len(logs) < 8 {
		t.Fatalf("only %d logs", len(logs))
	}
	for _, a := range logs {
		for _, b := range logs {
			wantCode(t, "parts of the story", checkBranches(t, "parts of the story", a, b), impl.OK)
		}
	}
}

// What is known need not be what was known to what is known: only an operation's own counts are asked for.
func TestP13CountsOfTheirOwn(t *testing.T) {
	first := opAdd(by(0, 1, 1), 5, 1)
	second := opAdd(by(1, 1, 2, 1), 5, 10)
	third := opWith(opAdd(by(2, 1, 3), 5, 100), func(op *impl.Op) { op.Deps.Counts[1] = 1 })
	a, b := []impl.Op{first, second}, []impl.Op{first, second, third}
	checkParted(t, "one that counts one of two", a, b, parted{base: vector(1, 1), right: b[2:], merged: b, text: "count 5 111\n"})
	// Stamps that do not rise with what is known to nobody.
	late := diary(3, 1, counts(5, 1000))
	checkParted(t, "a low stamp", b, late, parted{base: vector(), left: b, right: late, merged: logOf(b, late), text: "count 5 1111\n"})
}
