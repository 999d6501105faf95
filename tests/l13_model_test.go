package tests

import (
	"bytes"
	"encoding/binary"
	"fmt"
	"slices"
	"testing"

	"loop.example/g00028/impl"
)

// boxed puts bytes, whatever they are, into a record whose sum fits.
func boxed(pieces ...[]byte) []byte {
	b := slices.Concat(pieces...)
	return slices.Concat(binary.AppendUvarint(nil, uint64(len(b))), summed(b))
}

// recordOf writes a record as the document says, by another program than the project's.
func recordOf(op impl.Op) []byte { return boxed(deedBytes(op)) }

func recordsOf(ops ...impl.Op) []byte {
	var b []byte
	for _, op := range ops {
		b = append(b, recordOf(op)...)
	}
	return b
}

// deedRow is the numbers of an operation in their order, of any number of counts.
func deedRow(op impl.Op) []int {
	n := op.N<<1 ^ op.N>>63
	return append([]int{op.Actor, op.Seq, op.Time, op.Kind, op.Obj, n, op.Undo, op.At.Time, op.At.Actor}, op.Deps.Counts...)
}

// deedOfBytes reads what it can, and asks deedBytes whether these were the bytes.
func deedOfBytes(b []byte) (impl.Op, bool) {
	r := &columnReader{b: b}
	numbers, texts := r.runs(), r.texts()
	n := func(i int) int { return valueAt(numbers, i) }
	op := impl.Op{Actor: n(0), Seq: n(1), Time: n(2), Kind: n(3), Obj: n(4), N: n(5)>>1 ^ -(n(5) & 1), Undo: n(6), At: stamp(n(7), n(8)), Deps: vector()}
	for actor := range 16 {
		op.Deps.Counts[actor] = n(9 + actor)
	}
	op.Key, op.Text = valueAt(texts, 0), valueAt(texts, 1)
	return op, validDeed(op) && bytes.Equal(deedBytes(op), b)
}

// readOf says by the document's words what ReadRecords answers: as long as bytes begin with what is written of some
// operation.
func readOf(b []byte) ([]impl.Op, int, int) {
	if len(b) > 1048576 {
		return nil, 0, impl.ErrLong
	}
	var ops []impl.Op
	at := 0
	for {
		size, head := binary.Uvarint(b[at:])
		if head <= 0 || size > uint64(len(b)-at-head) {
			return ops, at, impl.OK
		}
		op, ok := deedOfBytes(b[at+head : at+head+int(size)])
		if !ok || !bytes.HasPrefix(b[at:], recordOf(op)) {
			return ops, at, impl.OK
		}
		ops, at = append(ops, op), at+len(recordOf(op))
	}
}

// checkRead asks for an answer of ReadRecords that is written down.
func checkRead(t *testing.T, what string, b []byte, want []impl.Op, size, wantCode int) {
	t.Helper()
	ops, used, code := impl.ReadRecords(b)
	if code != wantCode || used != size || !sameLog(ops, want) {
		t.Errorf("%s: ReadRecords of %d bytes %s: %d operations %s in %d bytes, code %d, want %d %s in %d, code %d",
			what, len(b), brief(b[:min(len(b), 60)]), len(ops), brief(ops), used, code, len(want), brief(want), size, wantCode)
	}
}

// checkReading holds ReadRecords against the other program, and gives how many operations there are.
func checkReading(t *testing.T, what string, b []byte) int {
	t.Helper()
	ops, size, code := readOf(b)
	checkRead(t, what, b, ops, size, code)
	return len(ops)
}

// What a device can be told.
func written(op impl.Op) impl.StoreOp { return impl.StoreOp{Kind: impl.SWrite, Op: op} }

func synced() impl.StoreOp { return impl.StoreOp{Kind: impl.SSync} }

func asked() impl.StoreOp { return impl.StoreOp{Kind: impl.SText} }

func crashed(n int) impl.StoreOp { return impl.StoreOp{Kind: impl.SCrash, N: n} }

func started() impl.StoreOp { return impl.StoreOp{Kind: impl.SStart} }

// allWritten writes operations one behind the other.
func allWritten(ops []impl.Op) []impl.StoreOp {
	var run []impl.StoreOp
	for _, op := range ops {
		run = append(run, written(op))
	}
	return run
}

// runOf lays pieces of a run one behind the other.
func runOf(pieces ...any) []impl.StoreOp {
	var run []impl.StoreOp
	for _, piece := range pieces {
		switch p := piece.(type) {
		case impl.StoreOp:
			run = append(run, p)
		case []impl.StoreOp:
			run = append(run, p...)
		case impl.Op:
			run = append(run, written(p))
		case []impl.Op:
			run = append(run, allWritten(p)...)
		default:
			panic(fmt.Sprintf("no piece of a run: %T", piece))
		}
	}
	return run
}

// A shop is a device by another program than the project's. It has no bytes: it knows which operations were written,
// one behind the other, how many of them are synced, and how long the record of each is.
type shop struct {
	off    bool
	stand  []impl.Op
	synced int
}

func (s *shop) writes(op impl.Op) int {
	log, waits, code := addOf(inOrder(s.stand), []impl.Op{op})
	if code == impl.OK && len(waits) > 0 {
		return impl.ErrCause
	}
	if len(log) > len(s.stand) {
		s.stand = append(slices.Clip(s.stand), op)
	}
	return code
}

// burns leaves what is synced, and of the rest the records of which all bytes are among the first n.
func (s *shop) burns(n int) {
	stay := s.synced
	for _, op := range s.stand[s.synced:] {
		if len(recordOf(op)) > n {
			break
		}
		n -= len(recordOf(op))
		stay++
	}
	s.off, s.stand, s.synced = true, s.stand[:stay], stay
}

func (s *shop) does(op impl.StoreOp) (string, int) {
	switch {
	case s.off && op.Kind == 5:
		s.off = false
	case s.off:
		return "", impl.ErrDown
	case op.Kind == 1:
		return "", s.writes(op.Op)
	case op.Kind == 2:
		s.synced = len(s.stand)
	case op.Kind == 3:
		lines, code := linesOf(inOrder(s.stand))
		return pageOf(lines), code
	case op.Kind == 4:
		s.burns(op.N)
	default:
		return "", impl.ErrBad
	}
	return "", impl.OK
}

func (s *shop) seen(text string, code int) impl.StoreObs {
	if s.off {
		return impl.StoreObs{Code: code, Text: text}
	}
	return impl.StoreObs{Code: code, Ops: len(s.stand), Bytes: len(recordsOf(s.stand...)), Synced: len(recordsOf(s.stand[:s.synced]...)), Text: text}
}

// shopRun says by the document's words what StoreRun answers.
func shopRun(run []impl.StoreOp) ([]impl.StoreObs, int) {
	if len(run) > 200 {
		return nil, impl.ErrMany
	}
	s := &shop{}
	var list []impl.StoreObs
	for _, op := range run {
		list = append(list, s.seen(s.does(op)))
	}
	return list, impl.OK
}

// checkObs asks for an answer of StoreRun that is written down.
func checkObs(t *testing.T, what string, run []impl.StoreOp, want []impl.StoreObs, wantCode int) {
	t.Helper()
	got, code := impl.StoreRun(run)
	if code != wantCode || len(got) != len(want) {
		t.Errorf("%s: %d told, code %d, want %d, code %d", what, len(got), code, len(want), wantCode)
		return
	}
	for i := range want {
		if got[i] != want[i] {
			t.Errorf("%s: behind operation %d of Kind %d and N %d: %+v, want %+v", what, i, run[i].Kind, run[i].N, got[i], want[i])
			return
		}
	}
}

// checkRun holds StoreRun against the other program, and gives what it told.
func checkRun(t *testing.T, what string, pieces ...any) []impl.StoreObs {
	t.Helper()
	run := runOf(pieces...)
	want, code := shopRun(run)
	checkObs(t, what, run, want, code)
	return want
}

// checkLast asks for what is told behind the last operation of a run, written down and by the other program.
func checkLast(t *testing.T, what string, want impl.StoreObs, pieces ...any) {
	t.Helper()
	told := checkRun(t, what, pieces...)
	got, _ := impl.StoreRun(runOf(pieces...))
	if len(told) == 0 || told[len(told)-1] != want || got[len(got)-1] != want {
		t.Errorf("%s: %+v, want %+v at the end", what, got, want)
	}
}
