package tests

import (
	"slices"
	"testing"

	"loop.example/g00028/impl"
)

func TestP18ThiefWithNothing(t *testing.T) {
	ops := []impl.GroupOp{says(0, "a"), enters(1), says(1, "b"), leaves(1), says(0, "c"), heals(0), says(0, "d")}
	checkSpied(t, "nothing stolen", ops)
	for actor := 2; actor < 16; actor++ {
		checkSpied(t, "stolen of one that was never a member", append(slices.Clone(ops), robs(actor)))
	}
	checkSpied(t, "stolen of one ahead of its coming", append([]impl.GroupOp{robs(1)}, ops...))
	for actor := 2; actor < 16; actor++ {
		checkEnd(t, "stolen of one that was never a member", impl.GroupObs{}, robs(actor))
	}
}

// What is stolen of a member at each time: the keys of its epochs up to then, and what GAdd makes of them.
func TestP18ThiefAtEachTime(t *testing.T) {
	ops := []impl.GroupOp{
		says(0, "1"), enters(1), says(0, "2"), enters(2), says(0, "3"), heals(2), says(0, "4"), enters(3), enters(4), says(0, "5"), leaves(1), says(0, "6"), enters(5), says(0, "7"), heals(0), says(0, "8"), enters(1), says(0, "9"),
	}
	for _, c := range []struct {
		actor, at int
		want      []int
	}{
		{0, 0, []int{1, 2, 3}}, {0, 1, []int{1, 2, 3}}, {0, 2, []int{1, 2, 3}}, {0, 5, []int{1, 2, 3}}, {0, 6, []int{1, 2, 3, 4, 5}}, {0, 10, []int{1, 2, 3, 4, 5}}, {0, 11, []int{1, 2, 3, 4, 5, 6, 7}},
		{0, 14, []int{1, 2, 3, 4, 5, 6, 7}}, {0, 15, []int{1, 2, 3, 4, 5, 6, 7, 8, 9}}, {0, 18, []int{1, 2, 3, 4, 5, 6, 7, 8, 9}},
		{1, 1, nil}, {1, 2, []int{2, 3}}, {1, 5, []int{2, 3}}, {1, 6, []int{2, 3, 4, 5}}, {1, 10, []int{2, 3, 4, 5}}, {1, 11, []int{2, 3, 4, 5}}, {1, 16, []int{2, 3, 4, 5}}, {1, 17, []int{2, 3, 4, 5, 9}},
		{2, 3, nil}, {2, 4, []int{3}}, {2, 6, []int{3, 4, 5}}, {2, 11, []int{3, 4, 5, 6, 7}}, {2, 15, []int{3, 4, 5, 6, 7, 8, 9}},
		{3, 7, nil}, {3, 8, []int{5}}, {3, 11, []int{5, 6, 7}}, {4, 8, nil}, {4, 9, []int{5}}, {5, 12, nil}, {5, 13, []int{7}}, {5, 15, []int{7, 8, 9}}, {6, 18, nil},
	} {
		checkSpied(t, brief(c), slices.Insert(slices.Clone(ops), c.at, robs(c.actor)), c.want...)
		checkSpied(t, "twice "+brief(c), slices.Insert(slices.Clone(ops), c.at, robs(c.actor), robs(c.actor)), c.want...)
	}
}

// A thief has nothing of epochs that were ahead of its keys: no key is made of a later one.
func TestP18ThiefLooksNotBack(t *testing.T) {
	ops := []impl.GroupOp{says(0, "1"), enters(1), says(0, "2"), enters(2), says(0, "3"), enters(3), says(0, "4"), robs(3)}
	checkSpied(t, "ahead", ops, 4)
	checkSpied(t, "of two", append(slices.Clone(ops), robs(2)), 3, 4)
	checkSpied(t, "of three", append(slices.Clone(ops), robs(2), robs(1)), 2, 3, 4)
	checkSpied(t, "of all", append(slices.Clone(ops), robs(0)), 1, 2, 3, 4)
}

// One, two and more epochs that GAdd made of one another are open to who has the first of them.
func TestP18ThiefFollowsAdding(t *testing.T) {
	ops := []impl.GroupOp{says(0, "0"), robs(0)}
	want := []int{1}
	for actor := 1; actor < 16; actor++ {
		ops = append(ops, enters(actor), says(actor, letters(actor)))
		want = append(want, actor+1)
		checkSpied(t, "by adding alone", ops, want...)
	}
	ops = append(ops, leaves(3), says(0, "closed"), enters(3), says(3, "still closed"))
	checkSpied(t, "behind a removing", ops, want...)
	// An epoch in which nothing was sent is gone through as well.
	checkSpied(t, "empty ones between", []impl.GroupOp{robs(0), enters(1), enters(2), enters(3), says(3, "x")}, 1)
	checkSpied(t, "refused ones between", []impl.GroupOp{robs(0), enters(1), enters(1), leaves(9), heals(9), enters(2), says(9, ""), says(2, "x")}, 1)
}

func TestP18ThiefBehindHealing(t *testing.T) {
	for what, heal := range map[string][]impl.GroupOp{
		"GHeal":                    {heals(0)},
		"GHeal of another":         {heals(1)},
		"GRemove":                  {leaves(1)},
		"GRemove of another":       {leaves(2)},
		"GHeal twice":              {heals(0), heals(1)},
		"GRemove and GHeal":        {leaves(1), heals(0)},
		"GHeal, GAdd":              {heals(0), enters(3)},
		"GHeal, GAdd twice":        {heals(0), enters(3), enters(4)},
		"GRemove, GAdd":            {leaves(1), enters(1)},
		"GAdd, GHeal":              {enters(3), heals(2)},
		"GAdd, GHeal, GAdd":        {enters(3), heals(2), enters(4)},
		"GRemove, GAdd of another": {leaves(2), enters(3)},
	} {
		ops := []impl.GroupOp{enters(1), enters(2), says(0, "known"), robs(1)}
		ops = append(ops, heal...)
		ops = append(ops, says(0, "closed"))
		checkSpied(t, what, ops, 1)
		checkSpied(t, what+", GAdd", append(slices.Clone(ops), enters(9), says(9, "closed"), enters(10), says(10, "closed")), 1)
		// Stolen again it is open again, until it is healed again.
		ops = append(ops, robs(0), says(0, "open"))
		checkSpied(t, what+", stolen again", ops, 1, 2, 3)
		ops = append(ops, enters(9), says(9, "open"), heals(9), says(0, "closed"), enters(10), says(10, "closed"))
		checkSpied(t, what+", stolen and healed again", ops, 1, 2, 3, 4)
		checkSpied(t, what+", stolen a third time", append(slices.Clone(ops), robs(10)), 1, 2, 3, 4, 6)
		checkSpied(t, what+", stolen of one that stayed", append(slices.Clone(ops), robs(9)), 1, 2, 3, 4, 5, 6)
	}
	// A healing that was refused heals nothing.
	ops := []impl.GroupOp{enters(1), robs(1), heals(5), leaves(5), heals(16), says(0, "open")}
	checkSpied(t, "healing refused", ops, 1)
	ops = []impl.GroupOp{robs(0), leaves(0), says(0, "open"), heals(0), says(0, "closed")}
	checkSpied(t, "the only one", ops, 1)
}

// What one that was removed still has is worth as much to a thief as to itself, and no more.
func TestP18ThiefOfOneThatWasRemoved(t *testing.T) {
	ops := []impl.GroupOp{enters(1), says(1, "1"), enters(2), says(1, "2"), leaves(1), says(0, "3"), enters(3), says(0, "4"), robs(1)}
	checkSpied(t, "removed", ops, 1, 2)
	ops = append(ops, enters(1), says(1, "5"))
	checkSpied(t, "back, and not stolen again", ops, 1, 2)
	checkSpied(t, "back, and stolen again", append(slices.Clone(ops), robs(1)), 1, 2, 5)
	checkSpied(t, "back, stolen again, one more", append(slices.Clone(ops), robs(1), enters(4), says(4, "6"), heals(4), says(4, "7")), 1, 2, 5, 6)
}

// The thief's keys are no member's: what it has lets nobody read, nor write.
func TestP18ThiefIsNoMember(t *testing.T) {
	ops := []impl.GroupOp{says(0, "1"), robs(0), enters(1), says(0, "2")}
	for actor := 2; actor < 16; actor++ {
		checkReads(t, "stolen", ops, actor)
		checkEnd(t, "stolen", impl.GroupObs{Code: impl.ErrMissing, Epoch: 1}, behind(ops, says(actor, "x"))...)
		checkEnd(t, "spied", impl.GroupObs{Code: impl.ErrDenied, Epoch: 1}, behind(ops, spies(2), reads(actor, 2))...)
	}
	checkReads(t, "stolen", ops, 1, 2)
	checkSpied(t, "stolen", ops, 1, 2)
}

// Fresh secrets are counted whoever made them, and not by what was refused: each one closes all that was open.
func TestP18FreshSecretsAreCounted(t *testing.T) {
	for _, fresh := range [][]impl.GroupOp{
		slices.Repeat([]impl.GroupOp{heals(0)}, 20), slices.Repeat([]impl.GroupOp{leaves(1), enters(1)}, 20), slices.Repeat([]impl.GroupOp{leaves(1), heals(0), enters(1), heals(1)}, 12),
		slices.Repeat([]impl.GroupOp{heals(5), leaves(5), heals(0), leaves(16), heals(-1), leaves(1), leaves(1), leaves(0), heals(1), enters(1), heals(1)}, 6),
	} {
		ops := []impl.GroupOp{enters(1), robs(0)}
		var open []int
		sent, closed := 0, false
		for i, step := range fresh {
			ops = append(ops, step)
			told := checkGroup(t, "counted", ops...)
			if told[len(told)-1].Code == impl.OK && step.Kind != impl.GAdd {
				closed = true
			}
			ops = append(ops, says(0, "x"))
			sent++
			if !closed {
				open = append(open, sent)
			}
			if len(ops) < 198 && i%7 == 6 {
				ops = append(ops, robs(0))
				for n := 1; n <= sent; n++ {
					if !slices.Contains(open, n) {
						open = append(open, n)
					}
				}
				slices.Sort(open)
				closed = false
			}
		}
		checkSpied(t, "counted", ops[:min(len(ops), 199)], open...)
	}
}
