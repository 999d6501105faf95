package tests

import (
	"encoding/binary"
	"fmt"
	"reflect"
	"slices"
	"testing"

	"loop.example/g00028/impl"
)

// deedBytes writes an operation as the document says, by another program than the project's.
func deedBytes(op impl.Op) []byte {
	var numbers []int
	for _, column := range numberColumns([]impl.Op{op}) {
		numbers = append(numbers, column...)
	}
	return slices.Concat(runBytes(numbers), textBytes([]string{op.Key, op.Text}))
}

// sizeOf is how many bytes operations have together.
func sizeOf(ops []impl.Op) int {
	size := 0
	for _, op := range ops {
		size += len(deedBytes(op))
	}
	return size
}

func fourBytes(sums ...uint32) []byte {
	var b []byte
	for _, sum := range sums {
		b = binary.BigEndian.AppendUint32(b, sum)
	}
	return b
}

// A sumTree has the sums of an actor's operations: the root in place 1, the two below place i in 2 i and 2 i + 1.
type sumTree [512]uint32

func sumTreeOf(log []impl.Op, actor int) *sumTree {
	var leaves [256][]uint32
	for _, op := range log {
		if op.Actor == actor {
			leaf := (op.Seq - 1) / 4
			leaves[leaf] = append(leaves[leaf], sumOf(deedBytes(op)))
		}
	}
	tree := &sumTree{}
	for i := 511; i > 0; i-- {
		switch {
		case i >= 256 && len(leaves[i-256]) > 0:
			tree[i] = sumOf(fourBytes(leaves[i-256]...))
		case i < 256 && (tree[2*i] != 0 || tree[2*i+1] != 0):
			tree[i] = sumOf(fourBytes(tree[2*i], tree[2*i+1]))
		}
	}
	return tree
}

func (tree *sumTree) at(level, place int) int {
	return int(tree[1<<(8-level)+place])
}

// checkTreeSum holds one answer of TreeSum against the other program.
func checkTreeSum(t *testing.T, what string, log []impl.Op, actor, level, place int) {
	t.Helper()
	want := sumTreeOf(log, actor).at(level, place)
	if got, code := impl.TreeSum(log, actor, level, place); got != want || code != impl.OK {
		t.Errorf("%s: TreeSum of actor %d at level %d, place %d: %d, code %d, want %d", what, actor, level, place, got, code, want)
	}
}

func checkNoTreeSum(t *testing.T, what string, log []impl.Op, actor, level, place, want int) {
	t.Helper()
	if got, code := impl.TreeSum(log, actor, level, place); got != 0 || code != want {
		t.Errorf("%s: TreeSum of actor %d at level %d, place %d: %d, code %d, want code %d", what, actor, level, place, got, code, want)
	}
}

func numberSum(number int, j byte) int {
	return int(sumOf(append(binary.BigEndian.AppendUint64(nil, uint64(number)), j)))
}

func checkSum(number int) int { return numberSum(number, 3) }

// cellPlaces are the places of a number's cells, each once, in the order of j.
func cellPlaces(number int) []int {
	var places []int
	for j := range byte(3) {
		if place := numberSum(number, j) % 64; !slices.Contains(places, place) {
			places = append(places, place)
		}
	}
	return places
}

// blank is a sketch of nothing.
func blank() impl.Sketch { return impl.Sketch{Cells: make([]impl.Cell, 64)} }

// sketchOf is a sketch of numbers.
func sketchOf(numbers ...int) impl.Sketch {
	s := blank()
	for _, number := range numbers {
		for _, place := range cellPlaces(number) {
			s.Cells[place].Count++
			s.Cells[place].Id ^= number
			s.Cells[place].Sum ^= checkSum(number)
		}
	}
	return s
}

func deedNumbers(log []impl.Op) []int {
	var numbers []int
	for _, op := range log {
		numbers = append(numbers, op.Seq<<4+op.Actor)
	}
	return numbers
}

func sameSketch(a, b impl.Sketch) bool { return slices.Equal(a.Cells, b.Cells) }

// withCell is a sketch in new memory with another cell in a place.
func withCell(s impl.Sketch, place int, cell impl.Cell) impl.Sketch {
	cells := slices.Clone(s.Cells)
	cells[place] = cell
	return impl.Sketch{Cells: cells}
}

func validSketch(s impl.Sketch) bool {
	if len(s.Cells) != 64 {
		return false
	}
	for _, c := range s.Cells {
		if max(c.Count, -c.Count) > 1024 || c.Count < -1024 || min(c.Id, c.Sum) < 0 || max(c.Id, c.Sum) > 4611686018427387903 {
			return false
		}
	}
	return true
}

// diffOf does by its words what SketchDiff is asked to do; beside the lists and the code it tells how many were told.
func diffOf(a, b impl.Sketch) ([]int, []int, int, int) {
	if !validSketch(a) || !validSketch(b) {
		return nil, nil, impl.ErrBad, 0
	}
	cells := map[int]impl.Cell{}
	for i := range 64 {
		cells[i] = impl.Cell{Count: a.Cells[i].Count - b.Cells[i].Count, Id: a.Cells[i].Id ^ b.Cells[i].Id, Sum: a.Cells[i].Sum ^ b.Cells[i].Sum}
	}
	told := map[int][]int{}
again:
	for i := range 64 {
		c := cells[i]
		if c.Count*c.Count != 1 || c.Sum != checkSum(c.Id) || !slices.Contains(cellPlaces(c.Id), i) {
			continue
		}
		told[c.Count] = append(told[c.Count], c.Id)
		if len(told[1])+len(told[-1]) > 2048 {
			return nil, nil, impl.ErrSketch, 2049
		}
		for _, place := range cellPlaces(c.Id) {
			other := cells[place]
			cells[place] = impl.Cell{Count: other.Count - c.Count, Id: other.Id ^ c.Id, Sum: other.Sum ^ c.Sum}
		}
		goto again
	}
	size := len(told[1]) + len(told[-1])
	for _, c := range cells {
		if c.Count != 0 || c.Id != 0 || c.Sum != 0 {
			return nil, nil, impl.ErrSketch, size
		}
	}
	return slices.Sorted(slices.Values(told[1])), slices.Sorted(slices.Values(told[-1])), impl.OK, size
}

// checkDiff holds SketchDiff against the other program, both ways round, and gives the code and how many were told.
func checkDiff(t *testing.T, what string, a, b impl.Sketch) (int, int) {
	t.Helper()
	left, right, want, told := diffOf(a, b)
	checkDiffers(t, what, a, b, left, right, want)
	return want, told
}

// checkDiffers asks for an answer of SketchDiff that is written down, both ways round.
func checkDiffers(t *testing.T, what string, a, b impl.Sketch, left, right []int, want int) {
	t.Helper()
	x, y, code := impl.SketchDiff(a, b)
	if !slices.Equal(x, left) || !slices.Equal(y, right) || code != want {
		t.Errorf("%s: SketchDiff %v and %v, code %d, want %v and %v, code %d", what, x, y, code, left, right, want)
	}
	x, y, code = impl.SketchDiff(b, a)
	if !slices.Equal(x, right) || !slices.Equal(y, left) || code != want {
		t.Errorf("%s, the other way round: SketchDiff %v and %v, code %d, want %v and %v, code %d", what, x, y, code, right, left, want)
	}
}

// by1 says what the first mode sends.
func by1(a, b []impl.Op) impl.SyncOut {
	out := impl.SyncOut{Bytes: len(vecBytes(knownIn(a))) + len(vecBytes(knownIn(b))), Rounds: 2}
	for _, op := range slices.Concat(aheadOf(a, b), aheadOf(b, a)) {
		out.Ops++
		out.Bytes += len(deedBytes(op))
	}
	return out
}

// by2 says what the second mode sends, going down each actor's tree in turn.
func by2(a, b []impl.Op) impl.SyncOut {
	out := impl.SyncOut{}
	deepest := 0
	for actor := range 16 {
		if seqsOf(a, actor)+seqsOf(b, actor) == 0 {
			continue
		}
		x, y := sumTreeOf(a, actor), sumTreeOf(b, actor)
		var down func(i, depth int)
		down = func(i, depth int) {
			out.Bytes += 8
			deepest = max(deepest, depth)
			if x[i] == y[i] {
				return
			}
			if i < 256 {
				down(2*i, depth+1)
				down(2*i+1, depth+1)
				return
			}
			for _, op := range slices.Concat(a, b) {
				if op.Actor == actor && (op.Seq-1)/4 == i-256 {
					out.Ops++
					out.Bytes += len(deedBytes(op))
				}
			}
		}
		down(1, 1)
	}
	out.Rounds = deepest + 1
	return out
}

// by3 says what the third mode sends.
func by3(a, b []impl.Op) impl.SyncOut {
	left, right, code, _ := diffOf(sketchOf(deedNumbers(a)...), sketchOf(deedNumbers(b)...))
	if code != impl.OK {
		out := by1(a, b)
		out.Bytes += 2048
		out.Rounds = 4
		return out
	}
	out := impl.SyncOut{Bytes: 2048, Rounds: 2}
	for _, side := range []struct {
		log     []impl.Op
		numbers []int
	}{{a, left}, {b, right}} {
		for _, op := range side.log {
			if slices.Contains(side.numbers, op.Seq<<4+op.Actor) {
				out.Ops++
				out.Bytes += len(deedBytes(op))
			}
		}
	}
	return out
}

// syncOf says by the document's words what SyncRun answers, by another program than the project's.
func syncOf(a, b []impl.Op, mode int) (impl.SyncOut, int) {
	all, code := mergeOf(a, b)
	if code != impl.OK {
		return impl.SyncOut{}, code
	}
	if mode < 1 || mode > 3 {
		return impl.SyncOut{}, impl.ErrRange
	}
	out := []func(a, b []impl.Op) impl.SyncOut{by1, by2, by3}[mode-1](a, b)
	out.Log = all
	return out, impl.OK
}

func sameOut(a, b impl.SyncOut) bool {
	return sameLog(a.Log, b.Log) && a.Ops == b.Ops && a.Bytes == b.Bytes && a.Rounds == b.Rounds
}

func toldOut(out impl.SyncOut) string {
	return fmt.Sprintf("%d operations in %d bytes and %d rounds, a log of %d", out.Ops, out.Bytes, out.Rounds, len(out.Log))
}

// checkSync holds SyncRun against the other program, in each mode and both ways round, and gives the code.
func checkSync(t *testing.T, what string, a, b []impl.Op) int {
	t.Helper()
	_, code := mergeOf(a, b)
	for mode := 1; mode <= 3; mode++ {
		if checkMode(t, what, a, b, mode) != code {
			t.Errorf("%s, mode %d: not the code of the merge, %d", what, mode, code)
		}
	}
	return code
}

// checkMode holds SyncRun against the other program in one mode, both ways round, and gives the code.
func checkMode(t *testing.T, what string, a, b []impl.Op, mode int) int {
	t.Helper()
	want, wantCode := syncOf(a, b, mode)
	for _, c := range [][2][]impl.Op{{a, b}, {b, a}} {
		got, code := impl.SyncRun(c[0], c[1], mode)
		if code != wantCode || !sameOut(got, want) {
			t.Errorf("%s, mode %d: %s, code %d, want %s, code %d", what, mode, toldOut(got), code, toldOut(want), wantCode)
		}
		if code == impl.OK {
			checkToldEachOther(t, what, c[0], c[1], mode, got)
		}
	}
	return wantCode
}

// checkToldEachOther asks of an answer that both devices have the merge of both now, and the same document.
func checkToldEachOther(t *testing.T, what string, a, b []impl.Op, mode int, out impl.SyncOut) {
	t.Helper()
	all, code := impl.BranchMerge(a, b)
	if code != impl.OK || !sameLog(out.Log, all) {
		t.Errorf("%s, mode %d: not what BranchMerge tells", what, mode)
	}
	if more := 2*len(all) - len(a) - len(b); mode == 1 && out.Ops != more {
		t.Errorf("%s: %d operations are sent, the other one has not %d", what, out.Ops, more)
	}
	text, code := impl.DocText(out.Log)
	if want, wantCode := impl.DocText(all); text != want || code != wantCode {
		t.Errorf("%s, mode %d: the document %s, code %d, want %s, code %d", what, mode, brief(text), code, brief(want), wantCode)
	}
	again, code := impl.SyncRun(out.Log, all, mode)
	if code != impl.OK || again.Ops != 0 || !sameLog(again.Log, all) {
		t.Errorf("%s, mode %d, once more: %s, code %d", what, mode, toldOut(again), code)
	}
}

// checkSent asks for what is sent in a mode, written down, both ways round.
func checkSent(t *testing.T, what string, a, b []impl.Op, mode, ops, bytes, rounds int) {
	t.Helper()
	all := inOrder(slices.Concat(a, aheadOf(b, a)))
	for _, c := range [][2][]impl.Op{{a, b}, {b, a}} {
		got, code := impl.SyncRun(c[0], c[1], mode)
		if code != impl.OK || got.Ops != ops || got.Bytes != bytes || got.Rounds != rounds {
			t.Errorf("%s, mode %d: %s, code %d, want %d operations in %d bytes and %d rounds", what, mode, toldOut(got), code, ops, bytes, rounds)
		}
		if !sameLog(got.Log, all) {
			t.Errorf("%s, mode %d: %s, want %s", what, mode, brief(got.Log), brief(all))
		}
	}
}

// checkNotSent asks for a code of SyncRun, both ways round, and nothing beside it.
func checkNotSent(t *testing.T, what string, a, b []impl.Op, mode, want int) {
	t.Helper()
	for _, c := range [][2][]impl.Op{{a, b}, {b, a}} {
		if got, code := impl.SyncRun(c[0], c[1], mode); code != want || !reflect.DeepEqual(got, impl.SyncOut{}) {
			t.Errorf("%s, mode %d: %s, code %d, want code %d", what, mode, toldOut(got), code, want)
		}
	}
}
