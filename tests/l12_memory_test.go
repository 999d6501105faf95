package tests

import (
	"bytes"
	"math"
	"math/rand"
	"runtime"
	"slices"
	"sync"
	"testing"
	"time"

	"loop.example/g00028/impl"
)

// syncLogs are logs and lists of operations, good ones and others, many of which went apart from the story.
func syncLogs() [][]impl.Op {
	return append(branchLogs(), zeroWords(), firstLeaf(), secondLeaf(), diary(4, 1, ones(70)...))
}

// syncCalls makes all calls with two logs.
func syncCalls(a, b []impl.Op) {
	for mode := range 5 {
		impl.SyncRun(a, b, mode)
	}
	for actor := -1; actor <= 16; actor += 4 {
		impl.TreeSum(a, actor, 0, 0)
		impl.TreeSum(a, actor, 8, 0)
	}
	x, _ := impl.SketchOf(a)
	y, _ := impl.SketchOf(b)
	impl.SketchDiff(x, y)
	for _, op := range a[:min(len(a), 5)] {
		impl.OpBytes(op)
	}
}

func TestP1TellingWritesIntoNothing(t *testing.T) {
	for _, one := range syncLogs() {
		for _, other := range syncLogs() {
			a, checkA := watchedLog(t, one)
			b, checkB := watchedLog(t, other)
			syncCalls(a, b)
			checkA()
			checkB()
		}
	}
}

// memorySketches are sketches, good ones and others.
func memorySketches() []impl.Sketch {
	return append(wrongSketches()[:9], blank(), sketchOf(16), sketchOf(16, 17, 32, 33), sketchOf(48, 80), sketchOf(deedNumbers(fullLog(60))...), withCell(blank(), 15, impl.Cell{Count: 1, Id: 16, Sum: 705505826}))
}

// watchedSketch copies a sketch into memory that goes on behind its end.
func watchedSketch(t *testing.T, s impl.Sketch) (impl.Sketch, func()) {
	t.Helper()
	cells, check := watched(t, s.Cells, impl.Cell{Count: 77, Id: 77, Sum: 77})
	return impl.Sketch{Cells: cells}, check
}

func TestP1SketchesAreNotWrittenInto(t *testing.T) {
	for _, one := range memorySketches() {
		for _, other := range memorySketches() {
			a, checkA := watchedSketch(t, one)
			b, checkB := watchedSketch(t, other)
			impl.SketchDiff(a, b)
			checkA()
			checkB()
		}
		both, check := watchedSketch(t, one)
		checkDiff(t, "one and the same", both, both)
		check()
	}
	// Two that lie in one memory, one upon the other.
	long := slices.Concat(sketchOf(16, 17).Cells, sketchOf(32, 33).Cells)
	before := slices.Clone(long)
	for from := range 64 {
		checkDiff(t, "in one memory", impl.Sketch{Cells: long[:64]}, impl.Sketch{Cells: long[from : from+64]})
	}
	if !slices.Equal(long, before) {
		t.Error("written into")
	}
}

// One and the same log as both arguments, and logs that share memory with each other.
func TestP1TellingOfOneMemory(t *testing.T) {
	s := inOrder(story())
	both, check := watchedLog(t, s)
	syncCalls(both, both)
	checkSync(t, "both alike", both, both)
	for size := range len(both) + 1 {
		syncCalls(both[:size], both)
		checkSync(t, "a part of its memory", both[:size], both)
	}
	check()
	// All Deps are one memory.
	counts := vector()
	shared := []impl.Op{opAdd(by(0, 1, 1), 5, 1), opAdd(by(1, 1, 1), 5, 1), opAdd(by(2, 1, 1), 5, 1)}
	for i := range shared {
		shared[i].Deps = counts
	}
	for mode := 1; mode <= 3; mode++ {
		got, code := impl.SyncRun(shared[:2], shared[:1], mode)
		wantCode(t, "one memory", code, impl.OK)
		checkNoSharing(t, got.Log)
	}
	if !sameVector(counts, vector()) {
		t.Errorf("written into: %v", counts)
	}
}

// What is answered shares no memory with an argument, nor with another answer; written over, it is answered again.
func TestP1AnsweredLogsOfBothAreNew(t *testing.T) {
	told := 0
	logs := syncLogs()
	for i, one := range logs {
		for j, other := range logs {
			mode := 1 + (i+j)%3
			a, checkA := watchedLog(t, one)
			b, checkB := watchedLog(t, other)
			first, code := impl.SyncRun(a, b, mode)
			kept := first
			kept.Log = copyLog(first.Log)
			checkNoSharing(t, first.Log)
			checkA()
			checkB()
			again, againCode := impl.SyncRun(a, b, mode)
			scribbleLog(a)
			scribbleLog(b)
			if again.Log = slices.Clip(again.Log); againCode != code || !sameOut(again, kept) {
				t.Errorf("an answer shares memory: %s, was %s", toldOut(again), toldOut(kept))
			}
			told += len(kept.Log)
		}
	}
	if told < 3000 {
		t.Errorf("only %d operations were told", told)
	}
}

func TestP1AnsweredBytesAndSketchesAreNew(t *testing.T) {
	for _, log := range edgeLogs() {
		own, check := watchedLog(t, log)
		for i, op := range own {
			b, _ := impl.OpBytes(op)
			other, _ := impl.OpBytes(op)
			scribble(b, 7)
			if !bytes.Equal(other, deedBytes(log[i])) {
				t.Errorf("two answers share memory: %v", other)
			}
		}
		s, _ := impl.SketchOf(own)
		again, _ := impl.SketchOf(own)
		scribble(s.Cells, impl.Cell{Count: 9})
		check()
		scribbleLog(own)
		if !sameSketch(again, sketchOf(deedNumbers(log)...)) {
			t.Errorf("an answer shares memory: %v", again)
		}
	}
	a, b := sketchOf(16, 17, 32), sketchOf(33, 48)
	left, right, code := impl.SketchDiff(a, b)
	wantCode(t, "SketchDiff", code, impl.OK)
	scribble(left, -9)
	if !slices.Equal(right, []int{33, 48}) {
		t.Errorf("the lists of one answer share memory: %v", right)
	}
	scribble(right, -9)
	checkDiffers(t, "written over", a, b, []int{16, 17, 32}, []int{33, 48}, impl.OK)
	left, right, _ = impl.SketchDiff(a, b)
	scribble(a.Cells, impl.Cell{Count: 9})
	scribble(b.Cells, impl.Cell{Count: 9})
	if !slices.Equal(left, []int{16, 17, 32}) || !slices.Equal(right, []int{33, 48}) {
		t.Errorf("an answer shares memory: %v and %v", left, right)
	}
}

// Nothing is kept from call to call: others that are asked for between leave nothing behind.
func TestP1TellingKeepsNothing(t *testing.T) {
	s := inOrder(story())
	a, b := logOf(s, diary(7, 9, counts(5, 1))), logOf(s, diary(8, 9, writes(1, "k", "v")))
	root, _ := impl.TreeSum(a, 0, 8, 0)
	for _, one := range syncLogs() {
		syncCalls(one, s)
		syncCalls(s, one)
		wantCode(t, "behind others", checkSync(t, "behind others", a, b), impl.OK)
		if again, _ := impl.TreeSum(a, 0, 8, 0); again != root {
			t.Errorf("behind others: %d, was %d", again, root)
		}
	}
}

// However the devices run, the answer is the same, also where many tell each other at once; and none of them is left
// behind.
func TestP1TellingAtOnce(t *testing.T) {
	before := runtime.NumGoroutine()
	a, b := logOf(fullLog(60), diary(15, 500, ones(9)...)), fullLog(50)
	want := map[int]impl.SyncOut{}
	for mode := 1; mode <= 3; mode++ {
		want[mode], _ = syncOf(a, b, mode)
	}
	var all sync.WaitGroup
	for i := range 300 {
		all.Add(1)
		go func() {
			defer all.Done()
			mode := 1 + i%3
			if got, code := impl.SyncRun(a, b, mode); code != impl.OK || !sameOut(got, want[mode]) {
				t.Errorf("mode %d: %s, code %d, want %s", mode, toldOut(got), code, toldOut(want[mode]))
			}
		}()
	}
	all.Wait()
	for range 200 {
		if runtime.NumGoroutine() <= before {
			return
		}
		time.Sleep(5 * time.Millisecond)
	}
	t.Errorf("%d goroutines, there were %d", runtime.NumGoroutine(), before)
}

// No panic and an end, and nothing beside a code, for logs and numbers of all kinds.
func TestP1AnyTelling(t *testing.T) {
	random := rand.New(rand.NewSource(124))
	numbers := []int{math.MinInt, -1, 0, 0, 1, 2, 3, 3, 4, 8, 9, 15, 16, 255, 256, 1 << 32, math.MaxInt}
	number := func() int { return numbers[random.Intn(len(numbers))] }
	codes, sums := map[int]int{}, map[int]int{}
	for range 8000 {
		a, b := someDeeds(random), someDeeds(random)
		codes[checkMode(t, "any", a, b, number())]++
		actor, level, place := number(), number(), number()
		sum, code := impl.TreeSum(a, actor, level, place)
		sums[code]++
		if code != impl.OK && sum != 0 {
			t.Errorf("code %d came with %d", code, sum)
		}
		if code == impl.OK {
			checkTreeSum(t, "any", a, actor, level, place)
		}
		if _, code := impl.SketchOf(a); (code == impl.OK) != validLog(a) {
			t.Errorf("SketchOf: code %d", code)
		}
		if op := anyDeed(random); validDeed(op) {
			checkDeedBytes(t, "any", op)
		} else {
			checkNoDeedBytes(t, "any", op)
		}
	}
	for _, code := range []int{impl.OK, impl.ErrBad, impl.ErrFork, impl.ErrRange} {
		if codes[code] < 20 {
			t.Errorf("code %d came %d times", code, codes[code])
		}
	}
	if sums[impl.OK] < 20 || sums[impl.ErrBad] < 20 || sums[impl.ErrRange] < 20 {
		t.Errorf("codes of TreeSum %v", sums)
	}
	// Cells of all numbers.
	for range 4000 {
		a, b := sketchOf(16, 17), sketchOf(17, 32)
		for range random.Intn(4) {
			a.Cells[random.Intn(64)] = impl.Cell{Count: number(), Id: number(), Sum: number()}
		}
		checkDiff(t, "any", a, b)
	}
}

// The longest that there are come to an end soon.
func TestP1LongestTelling(t *testing.T) {
	long := func(actor int) []impl.Op {
		return diary(actor, 1, slices.Repeat([]impl.Op{writes(1, letters(200), letters(199)+"y")}, impl.MaxLog)...)
	}
	a, b := long(0), long(15)
	for mode := range 5 {
		checkNotSent(t, "two long ones", a, b, mode, impl.ErrMany)
	}
	size := sizeOf(a)
	checkSent(t, "a long one and nothing", a, nil, 1, impl.MaxLog, 2+size, 2)
	checkSent(t, "a long one and nothing", a, nil, 2, impl.MaxLog, 511*8+size, 10)
	checkSent(t, "a long one and nothing", a, nil, 3, impl.MaxLog, 2048+2+size, 4)
	many := make([]impl.Op, 1<<22)
	for mode := range 5 {
		checkNotSent(t, "very many", many, a, mode, impl.ErrBad)
		checkNotSent(t, "very many twice", many, many, mode, impl.ErrBad)
	}
	checkNoTreeSum(t, "very many", many, 0, 0, 0, impl.ErrBad)
	if _, code := impl.SketchOf(many); code != impl.ErrBad {
		t.Errorf("very many: code %d", code)
	}
	checkDiffers(t, "very many cells", impl.Sketch{Cells: make([]impl.Cell, 1<<22)}, blank(), nil, nil, impl.ErrBad)
}
