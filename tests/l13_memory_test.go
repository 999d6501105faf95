package tests

import (
	"bytes"
	"fmt"
	"math"
	"math/rand"
	"slices"
	"sync"
	"testing"

	"loop.example/g00028/impl"
)

// watchedRun copies a run into memory that goes on behind its end, and behind the end of each Deps. The check tells
// whether all of it is as it was.
func watchedRun(t *testing.T, run []impl.StoreOp) ([]impl.StoreOp, func()) {
	t.Helper()
	var ops []impl.Op
	for _, op := range run {
		ops = append(ops, op.Op)
	}
	own, checkOps := watchedLog(t, ops)
	whole := make([]impl.StoreOp, len(run)+spare)
	for i := range whole {
		whole[i] = impl.StoreOp{Kind: 77, N: 77}
		if i < len(run) {
			whole[i] = impl.StoreOp{Kind: run[i].Kind, N: run[i].N, Op: own[i]}
		}
	}
	before := slices.Clone(whole)
	check := func() {
		t.Helper()
		checkOps()
		for i := range whole {
			if whole[i].Kind != before[i].Kind || whole[i].N != before[i].N || !sameDeed(whole[i].Op, before[i].Op) {
				t.Errorf("a run was written into, or behind its end, at %d: %s", i, brief(whole[i]))
			}
		}
	}
	return whole[:len(run)], check
}

// memoryRuns are runs of all kinds, good ones and others.
func memoryRuns() [][]impl.StoreOp {
	random := rand.New(rand.NewSource(134))
	s := story()
	list := [][]impl.StoreOp{
		nil, runOf(s, synced(), asked()), runOf(s, crashed(50), started(), s, asked()), runOf(s[0], s[0], s[1], s[0], s[1]), {{}, {Kind: 9}, {Kind: 1}},
		runOf(s[:2], synced(), s[2:], crashed(40), asked(), started(), s[2:], synced(), crashed(0), started(), asked()), slices.Repeat(runOf(s[0]), impl.MaxStore+1),
	}
	for _, log := range memoryLogs() {
		list = append(list, runOf(log, asked(), crashed(random.Intn(99)), started(), log, asked()))
	}
	for range 20 {
		list = append(list, anyRun(random, s, 30))
	}
	return list
}

func TestP1RunsAreNotWrittenInto(t *testing.T) {
	for _, list := range memoryRuns() {
		run, check := watchedRun(t, list)
		want, wantCode := impl.StoreRun(list)
		checkObs(t, "watched", run, want, wantCode)
		for _, op := range run {
			impl.RecordBytes(op.Op)
		}
		check()
	}
	// All operations of a run have one memory as their Deps, and stand there twice.
	deps := vector()
	shared := []impl.Op{opAdd(by(0, 1, 1), 5, 1), opAdd(by(1, 1, 1), 5, 2), opAdd(by(2, 1, 1), 5, 4)}
	for i := range shared {
		shared[i].Deps = deps
	}
	size := sizeOfRecords(shared...)
	checkLast(t, "one memory", impl.StoreObs{Ops: 3, Bytes: size, Synced: size, Text: "count 5 7\n"}, shared, shared, synced(), shared, crashed(0), started(), shared, asked())
	if !sameVector(deps, vector()) {
		t.Errorf("written into: %v", deps)
	}
}

func TestP1BytesOfRecordsAreNotWrittenInto(t *testing.T) {
	lists := append(manyBytes(), recordsOf(story()...), recordsOf(longDeeds()...)[:300], recordsOf(story()[0], story()[0]), boxed([]byte{0}))
	for _, list := range lists {
		// What lies behind the end would go on with a record.
		for _, behind := range []byte{0, 1, 255} {
			b, check := watched(t, list, behind)
			checkReading(t, "watched", b)
			check()
		}
	}
}

// A record whose end lies behind the end of the bytes is torn, though the memory has it.
func TestP1RecordsBehindTheEnd(t *testing.T) {
	s := story()
	whole := recordsOf(s...)
	kept := slices.Clone(whole)
	for end := range whole {
		ops, used, code := impl.ReadRecords(whole[:end])
		count := wholeWithin(s, end)
		if code != impl.OK || !sameLog(ops, s[:count]) || used != sizeOfRecords(s[:count]...) {
			t.Errorf("to %d: %d operations in %d bytes, code %d, want %d", end, len(ops), used, code, count)
		}
	}
	if !bytes.Equal(whole, kept) {
		t.Error("written into")
	}
}

// What is answered shares no memory with an argument, nor with another answer; written over, it is answered again.
func TestP1AnsweredRecordsAreNew(t *testing.T) {
	for name, log := range edgeLogs() {
		own, check := watchedLog(t, log)
		for i, op := range own {
			b, _ := impl.RecordBytes(op)
			other, _ := impl.RecordBytes(op)
			scribble(b, 7)
			again, _ := impl.RecordBytes(op)
			if !bytes.Equal(other, recordOf(log[i])) || !bytes.Equal(again, recordOf(log[i])) {
				t.Errorf("%s: two answers share memory: %v and %v", name, other, again)
			}
		}
		check()
		b := recordsOf(slices.Concat(log, log)...)
		first, _, _ := impl.ReadRecords(b)
		again, _, _ := impl.ReadRecords(b)
		scribble(b, 7)
		if !sameLog(first, slices.Concat(log, log)) {
			t.Errorf("%s: an answer shares memory with the bytes: %s", name, brief(first))
		}
		checkNoSharing(t, first)
		if !sameLog(again, slices.Concat(log, log)) {
			t.Errorf("%s: two answers share memory: %s", name, brief(again))
		}
		checkRead(t, name+", written over", recordsOf(log...), log, sizeOfRecords(log...), impl.OK)
	}
}

func TestP1AnsweredRunsAreNew(t *testing.T) {
	for _, list := range memoryRuns() {
		run, check := watchedRun(t, list)
		first, code := impl.StoreRun(run)
		kept := slices.Clone(first)
		other, _ := impl.StoreRun(run)
		scribble(first, impl.StoreObs{Code: -9, Text: "!"})
		check()
		checkObs(t, "written over", run, kept, code)
		for i := range run {
			scribble(run[i].Op.Deps.Counts, -9)
		}
		scribble(run, impl.StoreOp{Kind: 1})
		if !slices.Equal(other, kept) {
			t.Errorf("an answer shares memory: %v, was %v", other, kept)
		}
	}
}

// Nothing is kept from call to call: each run begins on an empty disk, also many at once.
func TestP1RunsKeepNothing(t *testing.T) {
	s := story()
	run := runOf(s[:3], synced(), s[3:], crashed(40), started(), asked())
	want, _ := shopRun(run)
	for _, other := range memoryRuns() {
		impl.StoreRun(other)
		impl.ReadRecords(recordsOf(s...)[:100])
		checkObs(t, "behind others", run, want, impl.OK)
		checkLast(t, "behind others", impl.StoreObs{}, asked())
		checkLast(t, "behind others", impl.StoreObs{}, crashed(99), started())
	}
	var all sync.WaitGroup
	for range 10 {
		for _, other := range memoryRuns() {
			want, code := shopRun(other)
			all.Add(1)
			go func() {
				defer all.Done()
				checkObs(t, "at once", other, want, code)
				checkRead(t, "at once", recordsOf(s...), s, sizeOfRecords(s...), impl.OK)
			}()
		}
	}
	all.Wait()
}

// No panic and an end, and nothing beside a code, for operations, numbers and bytes of all kinds.
func TestP1AnyRunsAndRecords(t *testing.T) {
	random := rand.New(rand.NewSource(135))
	numbers := []int{math.MinInt, -1, 0, 1, 2, 24, 30, 54, 1 << 32, math.MaxInt}
	codes := map[int]int{}
	for range 3000 {
		var run []impl.StoreOp
		for _, op := range slices.Concat(someDeeds(random), someDeeds(random), []impl.Op{anyDeed(random)}) {
			run = append(run, impl.StoreOp{Kind: []int{1, 1, 1, 1, 1, 1, 2, 3, 4, 5, 5, random.Intn(9) - 1}[random.Intn(12)], N: numbers[random.Intn(len(numbers))], Op: op})
			if b, code := impl.RecordBytes(op); (code == impl.OK) != validDeed(op) || (code == impl.OK) != (len(b) > 0) || code != impl.OK && code != impl.ErrBad {
				t.Errorf("RecordBytes of %s: %v, code %d", brief(op), b, code)
			}
		}
		for _, obs := range checkRun(t, "any", run) {
			codes[obs.Code]++
		}
	}
	for code, least := range map[int]int{impl.OK: 1000, impl.ErrBad: 1000, impl.ErrFork: 10, impl.ErrCause: 1000, impl.ErrDown: 1000} {
		if codes[code] < least {
			t.Errorf("code %d came %d times", code, codes[code])
		}
	}
	for _, b := range manyBytes() {
		checkReading(t, "any bytes", b)
		checkReading(t, "any bytes in a record", boxed(b))
		checkReading(t, "any bytes behind a record", slices.Concat(recordOf(story()[0]), boxed(b)))
	}
	for range 20000 {
		b := make([]byte, random.Intn(60))
		for i := range b {
			b[i] = byte(random.Intn(4) * random.Intn(3) * random.Intn(40))
		}
		checkReading(t, "any bytes", boxed(b))
	}
}

// The longest that there are come to an end soon: few bytes that ask for very much, and runs of the greatest operations.
func TestP1LongestRunsAndRecords(t *testing.T) {
	for _, b := range [][]byte{
		boxed(countBytes(4096), []byte{0}, countBytes(4096), []byte{0, 2, 0, 0, 0, 0}),
		boxed(runBytes(deedRow(story()[0])), countBytes(4096), bytes.Repeat([]byte{0}, 8192)),
		boxed(runBytes(deedRow(story()[0])), []byte{2, 0}, countBytes(900000), bytes.Repeat([]byte{'x'}, 900000), countBytes(900000), []byte{0}),
		boxed(runBytes(deedRow(story()[0])), []byte{2, 0}, countBytes(1<<62-1)),
		boxed(countBytes(1<<62-1), []byte{0}, countBytes(1<<62-1), []byte{0}),
		boxed(countBytes(25), []byte{0}, countBytes(1<<62-1), []byte{0}),
		slices.Repeat(boxed(nil), 200000),
	} {
		checkRead(t, "asks for much", b, nil, 0, impl.OK)
	}
	// As many records as can be.
	small := opAdd(by(2, 2, 2), 2, 1)
	count := impl.MaxBytes / sizeOfRecords(small)
	checkRead(t, "small ones", slices.Repeat(recordOf(small), count), slices.Repeat([]impl.Op{small}, count), count*sizeOfRecords(small), impl.OK)
	var run []impl.StoreOp
	for i := range impl.MaxStore {
		run = append(run, written(opSet(by(i%16, i/16+1, i+1), 1+i%100, letters(200), fmt.Sprint(i, letters(190)))))
	}
	told, code := impl.StoreRun(run)
	if last := told[len(told)-1]; code != impl.OK || last.Ops != impl.MaxStore || last.Bytes > impl.MaxBytes {
		t.Errorf("%+v, code %d", last, code)
	}
	run = slices.Concat(run[:100], slices.Repeat(runOf(asked(), crashed(1<<40), started()), 33))
	told, code = impl.StoreRun(run)
	if last := told[len(told)-1]; code != impl.OK || last.Ops != 100 || last.Synced != last.Bytes {
		t.Errorf("%+v, code %d", last, code)
	}
}
