package tests

import (
	"cmp"
	"encoding/binary"
	"reflect"
	"slices"
	"testing"

	"loop.example/g00028/impl"
)

// by is an operation that says nothing yet; knew are the counts of what its actor knew, its own aside.
func by(actor, seq, time int, knew ...int) impl.Op {
	deps := vector(knew...)
	if goodActor(actor) {
		deps.Counts[actor] = seq - 1
	}
	return impl.Op{Actor: actor, Seq: seq, Time: time, Deps: deps}
}

func opSet(op impl.Op, obj int, key, text string) impl.Op {
	op.Kind, op.Obj, op.Key, op.Text = impl.OSet, obj, key, text
	return op
}

func opIns(op impl.Op, obj, char int, at impl.Stamp) impl.Op {
	op.Kind, op.Obj, op.N, op.At = impl.OIns, obj, char, at
	return op
}

func opDel(op impl.Op, obj int, at impl.Stamp) impl.Op {
	op.Kind, op.Obj, op.At = impl.ODel, obj, at
	return op
}

func opAdd(op impl.Op, obj, n int) impl.Op {
	op.Kind, op.Obj, op.N = impl.OAdd, obj, n
	return op
}

// opWith is a copy of an operation, changed.
func opWith(op impl.Op, change func(op *impl.Op)) impl.Op {
	op.Deps.Counts = slices.Clone(op.Deps.Counts)
	change(&op)
	return op
}

// copyLog copies operations with their Deps.
func copyLog(log []impl.Op) []impl.Op {
	var list []impl.Op
	for _, op := range log {
		list = append(list, opWith(op, func(*impl.Op) {}))
	}
	return list
}

// logWith is a log in new memory, one operation of which is changed.
func logWith(log []impl.Op, i int, change func(op *impl.Op)) []impl.Op {
	list := copyLog(log)
	change(&list[i])
	return list
}

func sameDeed(a, b impl.Op) bool { return reflect.DeepEqual(a, b) }

func sameLog(a, b []impl.Op) bool { return slices.EqualFunc(a, b, sameDeed) }

// hasDeed asks for the name first, because holding all against all takes long.
func hasDeed(log []impl.Op, op impl.Op) bool {
	return slices.ContainsFunc(log, func(other impl.Op) bool { return other.Actor == op.Actor && other.Seq == op.Seq && sameDeed(other, op) })
}

// story is a log of three actors in which every kind is done, by the order in which it was done.
//
// Actor 0 sets a and types x; actor 1, who knows both, types y behind it and adds 4; actor 15, who knows only what
// stood ahead of the 4, takes x away, and sets b when all is known to it; actor 0 undoes the setting.
func story() []impl.Op {
	return []impl.Op{
		opSet(by(0, 1, 1), 1, "a", "one"),
		opIns(by(0, 2, 2), 3, 'x', start()),
		opIns(by(1, 1, 3, 2), 3, 'y', stamp(2, 0)),
		opAdd(by(1, 2, 4, 2), 5, 4),
		opDel(by(15, 1, 4, 2, 1), 3, stamp(2, 0)),
		opSet(by(15, 2, 5, 2, 2), 1, "b", "two"),
		opWith(opSet(by(0, 3, 5, 0, 2), 1, "a", ""), func(op *impl.Op) { op.Undo = 1 }),
	}
}

// inOrder gives operations as they stand in a log.
func inOrder(ops []impl.Op) []impl.Op {
	return slices.SortedStableFunc(slices.Values(ops), func(a, b impl.Op) int {
		return cmp.Or(cmp.Compare(a.Actor, b.Actor), cmp.Compare(a.Seq, b.Seq))
	})
}

func told8(op impl.Op) impl.Stamp { return stamp(op.Time, op.Actor) }

// validDeed says again what an operation must be.
func validDeed(op impl.Op) bool {
	if !goodTime(op.Time) || !goodActor(op.Actor) || op.Seq <= 0 || op.Seq > 1000000000000 || op.Undo < 0 || op.Undo >= op.Seq {
		return false
	}
	if !impl.VecOK(op.Deps) || op.Deps.Counts[op.Actor]+1 != op.Seq || op.Obj <= 0 || op.Obj > 100 {
		return false
	}
	says := impl.Op{Actor: op.Actor, Seq: op.Seq, Time: op.Time, Deps: op.Deps, Kind: op.Kind, Obj: op.Obj, Undo: op.Undo}
	switch op.Kind {
	case 1:
		says.Key, says.Text = op.Key, op.Text
		return sameDeed(op, says) && len(op.Key) <= 200 && len(op.Text) <= 200
	case 2:
		says.N, says.At = op.N, op.At
		return sameDeed(op, says) && validOp(impl.LOp{Kind: impl.LIns, Char: op.N, Id: told8(op), At: op.At})
	case 3:
		says.At = op.At
		return sameDeed(op, says) && validOp(impl.LOp{Kind: impl.LDel, Id: told8(op), At: op.At})
	case 4:
		says.N = op.N
		return sameDeed(op, says) && op.N >= -1000000000000 && op.N <= 1000000000000
	}
	return false
}

// causesThere asks of each operation what it counts, by holding all against all.
func causesThere(log []impl.Op) bool {
	for _, op := range log {
		for actor, n := range op.Deps.Counts {
			found := 0
			for _, other := range log {
				if other.Actor != actor {
					continue
				}
				if found++; other.Seq <= n && !impl.StampLess(told8(other), told8(op)) {
					return false
				}
			}
			if found < n {
				return false
			}
		}
	}
	return true
}

// risesByOne tells whether operations stand as a log's do.
func risesByOne(log []impl.Op) bool {
	actor, seq := -1, 0
	for _, op := range log {
		if op.Actor != actor {
			if op.Actor < actor {
				return false
			}
			actor, seq = op.Actor, 0
		}
		if seq++; op.Seq != seq {
			return false
		}
	}
	return true
}

// unlikeThings tells whether one object is two things.
func unlikeThings(log []impl.Op) bool {
	things := []string{"", "map", "list", "list", "count"}
	for _, op := range log {
		for _, other := range log {
			if op.Obj == other.Obj && things[op.Kind] != things[other.Kind] {
				return true
			}
		}
	}
	return false
}

func deedsValid(ops []impl.Op) bool {
	return !slices.ContainsFunc(ops, func(op impl.Op) bool { return !validDeed(op) })
}

func validLog(log []impl.Op) bool {
	return len(log) <= 1024 && deedsValid(log) && risesByOne(log) && causesThere(log) && !unlikeThings(log)
}

// forkIn tells whether two of all these have one Actor and Seq and are unlike.
func forkIn(ops []impl.Op) bool {
	for i, op := range ops {
		for _, other := range ops[:i] {
			if other.Actor == op.Actor && other.Seq == op.Seq && !sameDeed(other, op) {
				return true
			}
		}
	}
	return false
}

// addOf does what LogAdd is asked to do, by its words: each time the first of what is left, upon a log made anew.
func addOf(log, more []impl.Op) ([]impl.Op, []impl.Op, int) {
	switch {
	case len(more) > 1024:
		return nil, nil, impl.ErrLong
	case !validLog(log) || !deedsValid(more):
		return nil, nil, impl.ErrBad
	case forkIn(slices.Concat(log, more)):
		return nil, nil, impl.ErrFork
	}
again:
	for i, op := range more {
		with := inOrder(slices.Concat(log, []impl.Op{op}))
		left := slices.Concat(more[:i], more[i+1:])
		switch {
		case hasDeed(log, op):
			more = left
			goto again
		case !risesByOne(with) || !causesThere(with):
			continue
		case unlikeThings(with):
			return nil, nil, impl.ErrKind
		case len(with) > 1024:
			return nil, nil, impl.ErrMany
		}
		log, more = with, left
		goto again
	}
	var waits []impl.Op
	for _, op := range more {
		if !hasDeed(waits, op) {
			waits = append(waits, op)
		}
	}
	return log, waits, impl.OK
}

// checkAdd holds LogAdd against addOf, and gives what it answered.
func checkAdd(t *testing.T, log, more []impl.Op) ([]impl.Op, []impl.Op, int) {
	t.Helper()
	want, wantWaits, wantCode := addOf(log, more)
	got, waits, code := impl.LogAdd(log, more)
	if code != wantCode || !sameLog(got, want) || !sameLog(waits, wantWaits) {
		t.Errorf("LogAdd(%s, %s):\n%s waits %s code %d, want\n%s waits %s code %d",
			brief(log), brief(more), brief(got), brief(waits), code, brief(want), brief(wantWaits), wantCode)
	}
	return got, waits, code
}

// checkAdded asks for one answer of LogAdd that is written down.
func checkAdded(t *testing.T, what string, log, more, want, wantWaits []impl.Op) {
	t.Helper()
	got, waits, code := impl.LogAdd(log, more)
	if code != impl.OK || !sameLog(got, want) || !sameLog(waits, wantWaits) {
		t.Errorf("%s: %d operations %s, %d wait %s, code %d, want %d %s and %d %s",
			what, len(got), brief(got), len(waits), brief(waits), code, len(want), brief(want), len(wantWaits), brief(wantWaits))
	}
}

func checkNotAdded(t *testing.T, what string, log, more []impl.Op, want int) {
	t.Helper()
	got, waits, code := impl.LogAdd(log, more)
	if code != want || len(got) != 0 || len(waits) != 0 {
		t.Errorf("%s: %s, %s wait, code %d, want code %d", what, brief(got), brief(waits), code, want)
	}
}

// numberColumns are the columns of a log that are numbers, in their order.
func numberColumns(log []impl.Op) [][]int {
	columns := make([][]int, 25)
	for _, op := range log {
		n := 2 * op.N
		if op.N < 0 {
			n = -2*op.N - 1
		}
		row := append([]int{op.Actor, op.Seq, op.Time, op.Kind, op.Obj, n, op.Undo, op.At.Time, op.At.Actor}, op.Deps.Counts...)
		for i, v := range row {
			columns[i] = append(columns[i], v)
		}
	}
	return columns
}

// logColumns writes each column of a log as the document says, by another program than the project's.
func logColumns(log []impl.Op) [][]byte {
	var columns [][]byte
	for _, list := range numberColumns(log) {
		columns = append(columns, runBytes(list))
	}
	var keys, texts []string
	for _, op := range log {
		keys, texts = append(keys, op.Key), append(texts, op.Text)
	}
	return append(columns, textBytes(keys), textBytes(texts))
}

// summed gives bytes with the sum that fits.
func summed(pieces ...[]byte) []byte {
	b := slices.Concat(pieces...)
	return binary.BigEndian.AppendUint32(b, sumOf(b))
}

func logBytes(log []impl.Op) []byte { return summed(logColumns(log)...) }
