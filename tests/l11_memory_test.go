package tests

import (
	"math"
	"math/rand"
	"slices"
	"testing"

	"loop.example/g00028/impl"
)

// branchLogs are logs and lists of operations, good ones and others, many of which went apart from the story.
func branchLogs() [][]impl.Op {
	random := rand.New(rand.NewSource(112))
	s := inOrder(story())
	list := memoryLogs()
	list = append(list, shelf(), logOf(s, diary(7, 9, counts(5, 1))), logOf(s, diary(8, 9, writes(50, "k", "v"))), logOf(s, diary(9, 9, counts(50, 1))), diary(15, impl.MaxTime, counts(5, 1)))
	for range 10 {
		list = append(list, anyCut(random, s), anyStory(random, 12))
	}
	return list
}

// branchCalls makes all calls with two logs, and picks what the first one has and has not.
func branchCalls(a, b []impl.Op) {
	impl.BranchBase(a, b)
	impl.BranchAhead(a, b)
	impl.BranchMerge(a, b)
	for _, actor := range []int{-1, 0, 1, 3, 6, 15, 16} {
		for seq := range 5 {
			impl.BranchPick(a, actor, seq, b, 1)
			impl.BranchPick(a, actor, seq, b, 15)
		}
	}
}

func TestP1BranchesWriteIntoNothing(t *testing.T) {
	for _, one := range branchLogs() {
		for _, other := range branchLogs() {
			a, checkA := watchedLog(t, one)
			b, checkB := watchedLog(t, other)
			branchCalls(a, b)
			checkA()
			checkB()
		}
	}
}

// One and the same log as both arguments, and logs that share memory with each other.
func TestP1BranchesOfOneMemory(t *testing.T) {
	s := inOrder(story())
	both, check := watchedLog(t, s)
	branchCalls(both, both)
	checkParted(t, "both alike", both, both, parted{base: vector(3, 2, 0, 0, 0, 0, 0, 0, 0, 0, 0, 0, 0, 0, 0, 2), merged: s})
	for size := range len(both) + 1 {
		branchCalls(both[:size], both)
		branchCalls(both, both[:size])
		checkBranches(t, "a part of its memory", both[:size], both)
	}
	checkParted(t, "the first two", both[:2], both, parted{base: vector(2), right: s[2:], merged: s})
	for _, op := range s {
		checkPicking(t, "onto itself", both, both, picking{op.Actor, op.Seq, 4})
		checkPicking(t, "onto a part of it", both, both[:2], picking{op.Actor, op.Seq, 4})
	}
	check()
	// All Deps are one memory.
	counts := vector()
	shared := []impl.Op{opAdd(by(0, 1, 1), 5, 1), opAdd(by(1, 1, 1), 5, 1), opAdd(by(2, 1, 1), 5, 1)}
	for i := range shared {
		shared[i].Deps = counts
	}
	got, code := impl.BranchMerge(shared[:2], shared[:1])
	wantCode(t, "one memory", code, impl.OK)
	checkNoSharing(t, got)
	got, code = impl.BranchAhead(shared, shared[:1])
	wantCode(t, "one memory", code, impl.OK)
	checkNoSharing(t, got)
	if !sameVector(counts, vector()) {
		t.Errorf("written into: %v", counts)
	}
}

// What is answered shares no memory with an argument, nor with another answer; written over, it is answered again.
func TestP1AnsweredBranchesAreNew(t *testing.T) {
	told := 0
	for _, one := range branchLogs() {
		for _, other := range branchLogs() {
			a, checkA := watchedLog(t, one)
			b, checkB := watchedLog(t, other)
			base, _ := impl.BranchBase(a, b)
			ahead, _ := impl.BranchAhead(a, b)
			all, code := impl.BranchMerge(a, b)
			keptBase, keptAhead, keptAll := slices.Clone(base.Counts), copyLog(ahead), copyLog(all)
			checkNoSharing(t, ahead)
			checkNoSharing(t, all)
			scribble(base.Counts, -9)
			checkA()
			checkB()
			base, _ = impl.BranchBase(a, b)
			ahead, _ = impl.BranchAhead(a, b)
			all, again := impl.BranchMerge(a, b)
			scribbleLog(a)
			scribbleLog(b)
			if again != code || !slices.Equal(base.Counts, keptBase) || !sameLog(ahead, keptAhead) || !sameLog(all, keptAll) {
				t.Errorf("an answer shares memory: %v, %s and %s, was %v, %s and %s", base, brief(ahead), brief(all), keptBase, brief(keptAhead), brief(keptAll))
			}
			told += len(keptAhead) + len(keptAll)
		}
	}
	if told < 3000 {
		t.Errorf("only %d operations were told", told)
	}
}

func TestP1PickedAreNew(t *testing.T) {
	told := 0
	for _, one := range branchLogs() {
		for _, other := range [][]impl.Op{one, nil, inOrder(story()), shelf()} {
			for i, op := range one[:min(len(one), 12)] {
				a, checkA := watchedLog(t, one)
				b, checkB := watchedLog(t, other)
				first, code := impl.BranchPick(a, op.Actor, op.Seq, b, i)
				again, _ := impl.BranchPick(a, op.Actor, op.Seq, b, i)
				kept := copyLog([]impl.Op{again})
				scribble(first.Deps.Counts, -9)
				checkA()
				checkB()
				scribbleLog(a)
				scribbleLog(b)
				if code != impl.OK {
					continue
				}
				told++
				if !sameLog([]impl.Op{again}, kept) {
					t.Errorf("an answer shares memory: %v, was %v", again, kept[0])
				}
			}
		}
	}
	if told < 300 {
		t.Errorf("only %d were picked", told)
	}
}

// Nothing is kept from call to call: others that are asked for between leave nothing behind.
func TestP1BranchesKeepNothing(t *testing.T) {
	s := inOrder(story())
	a, b := logOf(s, diary(7, 9, counts(5, 1))), logOf(s, diary(8, 9, writes(1, "k", "v")))
	for _, one := range branchLogs() {
		branchCalls(one, s)
		branchCalls(s, one)
		wantCode(t, "behind others", checkBranches(t, "behind others", a, b), impl.OK)
		wantCode(t, "behind others", checkPicking(t, "behind others", a, b, picking{7, 1, 7}), impl.OK)
	}
}

// No panic and an end, and nothing beside a code, for logs and numbers of all kinds.
func TestP1AnyBranches(t *testing.T) {
	random := rand.New(rand.NewSource(113))
	numbers := []int{math.MinInt, -1, 0, 0, 0, 1, 1, 1, 2, 2, 3, 15, 15, 16, 1 << 32, math.MaxInt}
	number := func() int { return numbers[random.Intn(len(numbers))] }
	codes, picks := map[int]int{}, map[int]int{}
	for range 12000 {
		a, b := someDeeds(random), someDeeds(random)
		codes[checkOneWay(t, "any", a, b)]++
		for range 3 {
			picks[checkPicking(t, "any", a, b, picking{number(), number(), number()})]++
		}
	}
	for _, code := range []int{impl.OK, impl.ErrBad, impl.ErrFork} {
		if codes[code] < 20 {
			t.Errorf("merges: code %d came %d times", code, codes[code])
		}
	}
	for _, code := range []int{impl.OK, impl.ErrBad, impl.ErrRange, impl.ErrMissing, impl.ErrCause} {
		if picks[code] < 20 {
			t.Errorf("picks: code %d came %d times", code, picks[code])
		}
	}
}

// The longest that there are come to an end soon.
func TestP1LongestBranches(t *testing.T) {
	long := func(actor int) []impl.Op {
		return diary(actor, 1, slices.Repeat([]impl.Op{writes(1, letters(200), letters(200))}, impl.MaxLog)...)
	}
	a, b := long(0), long(15)
	for range 20 {
		checkNotMerged(t, "two long ones", a, b, impl.ErrMany)
		checkWritten(t, "one twice", a, a, parted{base: vector(impl.MaxLog), merged: a})
		checkNotPicked(t, "onto a long one", a, b, picking{0, impl.MaxLog, 3}, impl.ErrMany)
	}
	// Characters that stand upon the last of a long line.
	line := diary(4, 1, typed(3, 4, 1, letters(impl.MaxLog-1))...)
	onto := line[:impl.MaxLog-2]
	checkPickedOnce(t, "a long line", line, onto, picking{4, impl.MaxLog - 1, 4}, line[impl.MaxLog-2])
	many := make([]impl.Op, 1<<22)
	checkNotParted(t, "very many", many, a, impl.ErrBad)
	checkNotParted(t, "very many twice", many, many, impl.ErrBad)
	checkNotPicked(t, "very many", many, a, picking{0, 1, 0}, impl.ErrBad)
	checkNotPicked(t, "onto very many", a, many, picking{0, 1, 0}, impl.ErrBad)
}
