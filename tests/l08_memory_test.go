package tests

import (
	"math"
	"math/rand"
	"slices"
	"testing"

	"loop.example/g00028/impl"
)

// behindDeed is what stands behind an argument's end.
func behindDeed() impl.Op { return opSet(by(9, 1, 99), 99, "behind", "!") }

// watchedLog copies operations into memory that goes on behind their end, and behind the end of each Deps. The check
// tells whether all of it is as it was.
func watchedLog(t *testing.T, log []impl.Op) ([]impl.Op, func()) {
	t.Helper()
	whole := copyLog(log)
	for range spare {
		whole = append(whole, behindDeed())
	}
	var counts [][]int
	for i := range whole {
		all := slices.Concat(whole[i].Deps.Counts, slices.Repeat([]int{77}, spare))
		whole[i].Deps.Counts = all[:len(whole[i].Deps.Counts)]
		counts = append(counts, all)
	}
	before := copyLog(whole)
	check := func() {
		t.Helper()
		if !sameLog(whole, before) {
			t.Errorf("a log was written into, or behind its end: %s", brief(log))
		}
		for i, all := range counts {
			if !slices.Equal(all[:len(before[i].Deps.Counts)], before[i].Deps.Counts) || slices.ContainsFunc(all[len(before[i].Deps.Counts):], func(n int) bool { return n != 77 }) {
				t.Errorf("Deps were written into, or behind their end: %v", all)
			}
		}
	}
	return whole[:len(log)], check
}

// memoryLogs are logs and lists of operations, good ones and others.
func memoryLogs() [][]impl.Op {
	random := rand.New(rand.NewSource(85))
	s := story()
	turned := slices.Clone(s)
	slices.Reverse(turned)
	list := [][]impl.Op{
		nil, s[:1], s, inOrder(s), turned, slices.Concat(turned, s), s[2:], {{}}, {s[0], opWith(s[0], func(op *impl.Op) { op.Text = "twin" })}, {opAdd(by(3, 1, 9), 1, 1)}, fullLog(60),
	}
	for _, log := range edgeLogs() {
		list = append(list, log)
	}
	for range 10 {
		list = append(list, mixed(random, s), fullLog(random.Intn(30)))
	}
	return list
}

func TestP1LogsAreNotWrittenInto(t *testing.T) {
	for _, list := range memoryLogs() {
		log, checkLog := watchedLog(t, list)
		counts, checkCounts := watched(t, vector(1, 1).Counts, 55)
		v := impl.Vector{Counts: counts}
		impl.LogOK(log)
		impl.LogVector(log)
		impl.LogSince(log, v)
		impl.LogBytes(log)
		for _, other := range memoryLogs() {
			more, checkMore := watchedLog(t, other)
			impl.LogAdd(log, more)
			checkMore()
		}
		checkLog()
		checkCounts()
		b, checkBytes := watched(t, logBytes(inOrder(list)), 1)
		impl.ReadLog(b)
		checkBytes()
	}
	// One list as both arguments, and one with room for what is added.
	both, check := watchedLog(t, inOrder(story()))
	checkAdded(t, "both alike", both, both, inOrder(story()), nil)
	checkAdded(t, "two parts of one list", both[:2], both[2:], inOrder(story()), nil)
	check()
}

// scribbleLog writes over operations, their Deps and all that their capacities reach.
func scribbleLog(log []impl.Op) {
	for _, op := range log {
		scribble(op.Deps.Counts, -9)
	}
	scribble(log, impl.Op{Key: "!"})
}

// checkNoSharing writes over each Deps of some lists in turn, and asks for all others.
func checkNoSharing(t *testing.T, answers ...[]impl.Op) {
	t.Helper()
	all := slices.Concat(answers...)
	kept := copyLog(all)
	for i := range all {
		scribble(all[i].Deps.Counts, -9)
		if !sameLog(all[i+1:], kept[i+1:]) {
			t.Errorf("the lists of one answer share memory: %s, was %s", brief(all[i+1:]), brief(kept[i+1:]))
		}
	}
	for i, answer := range answers {
		scribbleLog(answer)
		for _, other := range answers[i+1:] {
			if slices.ContainsFunc(other, func(op impl.Op) bool { return op.Key == "!" }) {
				t.Errorf("the lists of one answer share memory: %s", brief(other))
			}
		}
	}
}

func TestP1AnsweredLogsAreNew(t *testing.T) {
	told := 0
	for _, list := range memoryLogs() {
		for _, upon := range [][]impl.Op{nil, inOrder(story()[:2]), inOrder(story())} {
			log, checkLog := watchedLog(t, upon)
			more, checkMore := watchedLog(t, list)
			first, firstWaits, _ := impl.LogAdd(log, more)
			again, againWaits, _ := impl.LogAdd(log, more)
			since, _ := impl.LogSince(log, vector(1))
			kept, keptWaits, keptSince := copyLog(again), copyLog(againWaits), copyLog(since)
			told += len(kept) + len(keptWaits) + len(keptSince)
			checkNoSharing(t, first, firstWaits)
			checkLog()
			checkMore()
			scribbleLog(log)
			scribbleLog(more)
			if !sameLog(again, kept) || !sameLog(againWaits, keptWaits) || !sameLog(since, keptSince) {
				t.Errorf("an answer shares memory: %s, %s and %s, was %s, %s and %s",
					brief(again), brief(againWaits), brief(since), brief(kept), brief(keptWaits), brief(keptSince))
			}
			checkNoSharing(t, since)
		}
	}
	if told < 500 {
		t.Errorf("only %d operations were told", told)
	}
}

func TestP1ReadLogsAreNew(t *testing.T) {
	for _, log := range edgeLogs() {
		b, code := impl.LogBytes(log)
		wantCode(t, "LogBytes", code, impl.OK)
		other, _ := impl.LogBytes(log)
		got, _ := impl.ReadLog(b)
		again, _ := impl.ReadLog(b)
		scribble(b, 7)
		if !sameLog(got, log) || !slices.Equal(other, logBytes(log)) {
			t.Errorf("an answer shares memory: %s, was %s", brief(got), brief(log))
		}
		checkNoSharing(t, got)
		if !sameLog(again, log) {
			t.Errorf("two answers share memory: %s, was %s", brief(again), brief(log))
		}
		v, _ := impl.LogVector(log)
		scribble(v.Counts, -9)
		w, _ := impl.LogVector(log)
		if !impl.VecOK(w) {
			t.Errorf("two answers share memory: %v", w)
		}
	}
}

// anyDeed gives an operation of which anything can be wrong.
func anyDeed(random *rand.Rand) impl.Op {
	numbers := []int{math.MinInt, -1, 0, 0, 1, 1, 2, 3, 4, 'x', impl.MaxTime, impl.MaxTime + 1, math.MaxInt}
	number := func() int { return numbers[random.Intn(len(numbers))] }
	texts := []string{"", "", "a", "b", letters(200), letters(201)}
	op := impl.Op{Actor: random.Intn(18) - 1, Seq: number(), Time: number(), Kind: random.Intn(6), Obj: number(), N: number(), Undo: number(), At: stamp(number(), random.Intn(18)-1)}
	op.Key, op.Text = texts[random.Intn(len(texts))], texts[random.Intn(len(texts))]
	op.Deps.Counts = make([]int, []int{16, 16, 16, 16, 0, 1, 15, 17, 40}[random.Intn(9)])
	for i := range op.Deps.Counts {
		if random.Intn(8) == 0 {
			op.Deps.Counts[i] = number()
		}
	}
	return op
}

// someDeeds gives a part of the story with one field of some operations changed to anything.
func someDeeds(random *rand.Rand) []impl.Op {
	ops := mixed(random, story()[:random.Intn(8)])
	if random.Intn(2) == 0 {
		ops = inOrder(story()[:random.Intn(8)])
	}
	for i := range ops {
		wrong := anyDeed(random)
		change := []func(op *impl.Op){
			func(op *impl.Op) { op.Actor = wrong.Actor }, func(op *impl.Op) { op.Seq = wrong.Seq }, func(op *impl.Op) { op.Time = wrong.Time },
			func(op *impl.Op) { op.Deps = wrong.Deps }, func(op *impl.Op) { op.Kind = wrong.Kind }, func(op *impl.Op) { op.Obj = wrong.Obj },
			func(op *impl.Op) { op.N = wrong.N }, func(op *impl.Op) { op.Undo = wrong.Undo }, func(op *impl.Op) { op.At = wrong.At },
			func(op *impl.Op) { op.Key = wrong.Key }, func(op *impl.Op) { op.Text = wrong.Text }, func(op *impl.Op) { *op = wrong },
		}[random.Intn(12)]
		if random.Intn(12) == 0 {
			ops[i] = opWith(ops[i], change)
		}
	}
	return ops
}

// No panic and an end, and nothing beside a code, for operations, vectors and bytes of all kinds.
func TestP1AnyLogs(t *testing.T) {
	random := rand.New(rand.NewSource(86))
	vectors := append(wrongVectors(), someVectors()...)
	codes := map[int]int{}
	valid := 0
	for range 12000 {
		log, more := someDeeds(random), someDeeds(random)
		if validLog(log) {
			valid++
		}
		checkLog(t, "any", log, validLog(log))
		_, _, code := checkAdd(t, log, more)
		codes[code]++
		v := vectors[random.Intn(len(vectors))]
		list, code := impl.LogSince(log, v)
		zeroWithCode(t, list, code)
		if (code == impl.OK) != (validLog(log) && impl.VecOK(v)) {
			t.Errorf("LogSince(%s, %v): code %d", brief(log), v, code)
		}
	}
	for _, code := range []int{impl.OK, impl.ErrBad, impl.ErrFork} {
		if codes[code] < 50 {
			t.Errorf("code %d came %d times", code, codes[code])
		}
	}
	if valid < 1000 {
		t.Errorf("only %d logs were valid", valid)
	}
	for _, b := range manyBytes() {
		_, code := impl.ReadLog(b)
		if want := impl.ErrSum; len(b) <= impl.MaxBytes {
			wantCode(t, "any bytes", code, want)
			checkAnyBytes(t, summed(b[:max(0, len(b)-4)]))
		}
	}
}

// The longest that there are come to an end soon, whatever their order: all wait until the last one comes.
func TestP1LongestLogs(t *testing.T) {
	var ops []impl.Op
	for i := range impl.MaxLog {
		ops = append(ops, opSet(by(i/64, i%64+1, 1+i, slices.Repeat([]int{64}, i/64)...), 1, letters(200), letters(200)))
	}
	checkLog(t, "longest", ops, true)
	turned := slices.Clone(ops)
	slices.Reverse(turned)
	checkAdded(t, "turned over", nil, turned, ops, nil)
	checkAdded(t, "all wait", nil, turned[:impl.MaxLog-1], nil, turned[:impl.MaxLog-1])
	checkAdded(t, "all that wait, and the last", ops[:1], turned[:impl.MaxLog-1], ops, nil)
	checkBytes(t, "longest", ops)
	// Very long lists are not gone through.
	checkLog(t, "very long", make([]impl.Op, 1<<22), false)
	checkOp(t, "very many counts", opWith(ops[0], func(op *impl.Op) { op.Deps.Counts = make([]int, 1<<22) }), false)
	checkOp(t, "a very long Key", opWith(ops[0], func(op *impl.Op) { op.Key = letters(1 << 22) }), false)
}
