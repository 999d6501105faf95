package tests

import (
	"fmt"
	"slices"
	"testing"

	"loop.example/g00028/impl"
)

// knowing gives what an actor did from a Time on, who knew a log.
func knowing(log []impl.Op, actor, time int, deeds ...impl.Op) []impl.Op {
	own := diary(actor, time, deeds...)
	known := knownIn(log)
	for i := range own {
		for other, n := range known.Counts {
			if other != actor {
				own[i].Deps.Counts[other] = n
			}
		}
	}
	return logOf(log, own)
}

// Three that went apart: whichever is merged first, the log is the same.
func TestP13ThreeInEveryOrder(t *testing.T) {
	base := diary(0, 1, writes(1, "k", "base"), types(3, 'm', start()), counts(5, 1))
	one := knowing(base, 1, 10, writes(1, "k", "one"), types(3, 'a', stamp(2, 0)), counts(5, 10), undoes(1, writes(1, "k", "")))
	two := knowing(base, 2, 10, writes(1, "k", "two"), takes(3, stamp(2, 0)), counts(5, 100), writes(1, "l", "two"))
	three := knowing(logOf(base, diary(14, 1, counts(5, 0))), 13, 10, writes(1, "l", ""), types(3, 'b', stamp(2, 0)), counts(9, 1000), types(3, 'c', start()))
	all := logOf(one, two[3:], three[3:])
	merge := func(a, b []impl.Op) []impl.Op {
		got, code := impl.BranchMerge(a, b)
		wantCode(t, "three of them", code, impl.OK)
		return got
	}
	everyOrder([][]impl.Op{one, two, three}, func(logs [][]impl.Op) {
		x, y, z := logs[0], logs[1], logs[2]
		for what, got := range map[string][]impl.Op{
			"one behind the other": merge(merge(x, y), z), "two together first": merge(x, merge(y, z)), "the third ahead": merge(z, merge(x, y)),
			"one twice": merge(merge(x, y), merge(z, x)), "all twice": merge(merge(merge(x, y), z), merge(z, merge(y, x))),
		} {
			if !sameLog(got, all) {
				t.Errorf("%s: %s, want %s", what, brief(got), brief(all))
			}
			checkText9(t, what, got, "map 1 k=two l=two\nlist 3 cba\ncount 5 111\ncount 9 1000\n")
		}
		checkBranches(t, "two of three", x, y)
		checkBranches(t, "two and the third", merge(x, y), z)
	})
}

// A third log that stands against one of the others does so whichever is merged first.
func TestP13AThirdThatStandsAgainst(t *testing.T) {
	base := diary(0, 1, writes(1, "k", "base"))
	one, two := knowing(base, 1, 10, counts(5, 1)), knowing(base, 2, 10, counts(5, 2))
	merge := func(a, b []impl.Op, code int) ([]impl.Op, int) {
		if code != impl.OK {
			return nil, code
		}
		return impl.BranchMerge(a, b)
	}
	for want, third := range map[int][]impl.Op{
		impl.OK:      knowing(base, 3, 10, counts(5, 4)),
		impl.ErrFork: knowing(base, 1, 10, counts(5, 3)),
		impl.ErrKind: knowing(base, 3, 10, writes(5, "k", "v")),
		impl.ErrMany: knowing(base, 3, 10, slices.Repeat([]impl.Op{counts(6, 1)}, impl.MaxLog-2)...),
		impl.ErrBad:  knowing(base, 3, 10, counts(1, 1)),
	} {
		everyOrder([][]impl.Op{one, two, third}, func(logs [][]impl.Op) {
			got, code := merge(logs[0], logs[1], impl.OK)
			got, code = merge(got, logs[2], code)
			wantCode(t, "one behind the other", code, want)
			zeroWithCode(t, got, code)
			got, code = merge(logs[1], logs[2], impl.OK)
			got, code = merge(logs[0], got, code)
			wantCode(t, "two together first", code, want)
			zeroWithCode(t, got, code)
		})
	}
}

// An object that is one thing on the one side, and another on the other side.
func TestP13UnlikeThings(t *testing.T) {
	base := inOrder(story())
	for _, obj := range []int{2, 4, 50, 99, 100} {
		for i, x := range kindsOf(7, obj) {
			for j, y := range kindsOf(8, obj) {
				what := fmt.Sprint("kinds ", x.Kind, y.Kind, " of ", obj)
				alike := i == j || i+j == 3 && i*j == 2
				for _, c := range [][2][]impl.Op{
					{{x}, {y}}, {logOf(base, []impl.Op{x}), logOf(base, []impl.Op{y})}, {logOf(base, []impl.Op{x}), {y}},
					{logOf(base, []impl.Op{x}, diary(2, 60, counts(98, 1))), logOf(base, []impl.Op{y}, diary(12, 60, counts(98, 1)))},
				} {
					a, b := c[0], c[1]
					if !alike {
						checkNotMerged(t, what, a, b, impl.ErrKind)
						wantCode(t, what, checkBranches(t, what, a, b), impl.ErrKind)
						continue
					}
					wantCode(t, what, checkBranches(t, what, a, b), impl.OK)
				}
				// Of another object nothing stands against it.
				other := opWith(y, func(op *impl.Op) { op.Obj-- })
				if obj != 2 && obj != 4 {
					wantCode(t, what, checkBranches(t, what, logOf(base, []impl.Op{x}), logOf(base, []impl.Op{other})), impl.OK)
				}
			}
		}
	}
}

// Where only the one side has the object, ahead or not, it can be any thing.
func TestP13ThingsOfOneSide(t *testing.T) {
	base := diary(0, 1, writes(1, "k", "v"), types(3, 'x', start()), counts(5, 1))
	for _, x := range kindsOf(7, 50) {
		with := logOf(base, []impl.Op{x})
		more := knowing(base, 8, 60, writes(1, "l", "w"), takes(3, stamp(2, 0)), counts(5, 1), counts(51, 1))
		what := fmt.Sprint("kind ", x.Kind)
		checkParted(t, what+", the other side nothing", with, base, parted{base: vector(3), left: []impl.Op{x}, merged: with})
		checkParted(t, what+", the other side other objects", with, more, parted{base: vector(3), left: []impl.Op{x}, right: more[3:], merged: logOf(with, more[3:])})
		// Both had it, and both went on with it.
		for _, y := range kindsOf(8, 50) {
			if y.Kind == x.Kind {
				checkParted(t, what+", both", logOf(with, diary(9, 70, y)), logOf(with, []impl.Op{y}), parted{
					base: logVectorOf(with), left: diary(9, 70, y), right: []impl.Op{y}, merged: logOf(with, []impl.Op{y}, diary(9, 70, y)),
				})
			}
		}
	}
	// Each of two has an object that the other has not, or one that is the same thing in both.
	a, b := logOf(base, diary(7, 9, counts(50, 1), writes(52, "a", "a"))), logOf(base, diary(8, 9, writes(51, "k", "v"), writes(52, "b", "b")))
	checkParted(t, "objects of their own", a, b, parted{
		base: vector(3), left: a[3:], right: b[3:], merged: logOf(a, b[3:]), text: "map 1 k=v\nlist 3 x\ncount 5 1\ncount 50 1\nmap 51 k=v\nmap 52 a=a b=b\n",
	})
}

func logVectorOf(log []impl.Op) impl.Vector {
	v, _ := impl.LogVector(log)
	return v
}

// ones are so many addings of 1.
func ones(n int) []impl.Op { return slices.Repeat([]impl.Op{counts(100, 1)}, n) }

// apart gives two logs with operations of the actors 0 to 13 that both have, and what only the actors 15 and 14 did.
func apart(both, left, right int) ([]impl.Op, []impl.Op, []impl.Op) {
	var base []impl.Op
	for actor := range 14 {
		base = append(base, diary(actor, 1, ones((both+actor)/14)...)...)
	}
	return base, diary(15, 2000, ones(left)...), diary(14, 3000, ones(right)...)
}

// A merge of MaxLog operations and of one more, however many of them both have.
func TestP13FullMerges(t *testing.T) {
	for _, c := range []struct{ both, left int }{{0, 0}, {0, 1}, {0, 512}, {0, 1023}, {1, 1}, {1, 1022}, {13, 500}, {600, 200}, {1000, 12}, {1022, 1}, {1023, 0}} {
		for more := -1; more <= 2; more++ {
			right := impl.MaxLog - c.both - c.left + more
			base, a, b := apart(c.both, c.left, right)
			what := fmt.Sprintf("%d of both, %d and %d of their own", c.both, c.left, right)
			if len(base) != c.both {
				t.Fatalf("%s: the test is at odds with itself", what)
			}
			if c.both+right > impl.MaxLog {
				checkNotParted(t, what, logOf(base, a), logOf(base, b), impl.ErrBad)
				continue
			}
			want := parted{base: knownIn(base), left: a, right: b, merged: slices.Concat(base, b, a), text: fmt.Sprintf("count 100 %d\n", c.both+c.left+right)}
			if more <= 0 {
				checkWritten(t, what, logOf(base, a), logOf(base, b), want)
				continue
			}
			checkNotMerged(t, what, logOf(base, a), logOf(base, b), impl.ErrMany)
			checkAheadOnly(t, what, logOf(base, a), logOf(base, b), want)
		}
	}
}

func TestP13FullLogsThatMeet(t *testing.T) {
	full, others := fullLog(impl.MaxLog), diary(15, 1, ones(impl.MaxLog)...)
	part := fullLog(700)
	checkNotMerged(t, "two full logs", full, others, impl.ErrMany)
	checkAheadOnly(t, "two full logs", full, others, parted{base: vector(), left: full, right: others})
	checkWritten(t, "a full log and a part of it", full, part, parted{base: knownIn(part), left: aheadOf(full, part), merged: full})
	checkWritten(t, "a full log and itself", full, full, parted{base: knownIn(full), merged: full})
	checkNotMerged(t, "a full log and one more", full, others[:1], impl.ErrMany)
	checkNotMerged(t, "a full log and one more of a new object", full, diary(15, 1, counts(77, 1)), impl.ErrMany)
	checkNotMerged(t, "a full log, and a part of it with one more", full, logOf(part, others[:1]), impl.ErrMany)
	checkWritten(t, "one less than full, and one more", fullLog(impl.MaxLog-1), others[:1], parted{
		base: vector(), left: fullLog(impl.MaxLog - 1), right: others[:1], merged: logOf(fullLog(impl.MaxLog-1), others[:1]),
	})
}

// Where a wrong kind and too many meet: the kind goes ahead, wherever it stands.
func TestP13WrongKindsInFullMerges(t *testing.T) {
	full := fullLog(impl.MaxLog)
	for _, wrong := range []impl.Op{writes(100, "k", "v"), counts(40, 1), types(1, 'x', start()), takes(3, stamp(1, 1)), types(100, 'x', start())} {
		for _, ahead := range []int{0, 1, 500, 1023} {
			deeds := append(slices.Repeat([]impl.Op{counts(77, 1)}, ahead), wrong)
			checkNotMerged(t, "a wrong kind behind too many", full, diary(15, 3000, deeds...), impl.ErrKind)
			checkNotMerged(t, "a wrong kind behind some", fullLog(12), diary(15, 3000, deeds...), impl.ErrKind)
			deeds = slices.Insert(slices.Repeat([]impl.Op{counts(77, 1)}, ahead), 0, wrong)
			checkNotMerged(t, "a wrong kind ahead of too many", full, diary(15, 3000, deeds...), impl.ErrKind)
		}
	}
	// The first of all in the order of a log, and all others of another kind.
	checkNotMerged(t, "the first of all", diary(0, 1, writes(100, "k", "v")), diary(15, 1, ones(impl.MaxLog)...), impl.ErrKind)
	checkNotMerged(t, "the first of all, of the right kind", diary(0, 1, counts(100, 1)), diary(15, 1, ones(impl.MaxLog)...), impl.ErrMany)
	checkNotMerged(t, "the first and the last", diary(0, 1, writes(77, "k", "v")), diary(15, 1, append(ones(impl.MaxLog-1), counts(77, 1))...), impl.ErrKind)
	checkNotMerged(t, "the first and the last, of one kind", diary(0, 1, counts(77, 1)), diary(15, 1, append(ones(impl.MaxLog-1), counts(77, 1))...), impl.ErrMany)
}
