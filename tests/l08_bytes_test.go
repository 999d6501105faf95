package tests

import (
	"bytes"
	"encoding/binary"
	"fmt"
	"math/rand"
	"slices"
	"strings"
	"testing"

	"loop.example/g00028/impl"
)

// checkBytes asks for the bytes of a valid log, and that it comes back from them.
func checkBytes(t *testing.T, what string, log []impl.Op) {
	t.Helper()
	b, code := impl.LogBytes(log)
	if code != impl.OK || !bytes.Equal(b, logBytes(log)) {
		t.Fatalf("%s: LogBytes: %s, code %d, want %s", what, brief(b), code, brief(logBytes(log)))
	}
	got, code := impl.ReadLog(b)
	if code != impl.OK || !sameLog(got, log) {
		t.Fatalf("%s: %s came back as %s, code %d", what, brief(log), brief(got), code)
	}
}

func checkNotRead(t *testing.T, what string, b []byte, want int) {
	t.Helper()
	if log, code := impl.ReadLog(b); code != want || len(log) != 0 {
		t.Errorf("%s: ReadLog of %d bytes %.200v: %s, code %d, want code %d", what, len(b), b, brief(log), code, want)
	}
}

// A columnReader reads what it can; what it makes of other bytes does not matter.
type columnReader struct {
	b []byte
}

func (r *columnReader) number() int {
	v, size := binary.Uvarint(r.b)
	if size <= 0 || v > 1<<62 {
		r.b = nil
		return 0
	}
	r.b = r.b[size:]
	return int(v)
}

func (r *columnReader) runs() []int {
	var list []int
	for count := min(r.number(), 1025); len(list) < count; {
		first, size, step := r.number(), r.number(), 0
		if size > 1 {
			step = r.number()
			step = step>>1 ^ -(step & 1)
		}
		for i := range max(1, min(size, count-len(list))) {
			list = append(list, first+i*step)
		}
	}
	return list
}

func (r *columnReader) texts() []string {
	var list []string
	ahead := ""
	for count := min(r.number(), 1025); len(list) < count; {
		ahead = ahead[:min(r.number(), len(ahead))]
		size := min(r.number(), len(r.b))
		ahead += string(r.b[:size])
		r.b = r.b[size:]
		if len(ahead) > 1000 {
			ahead = ""
		}
		list = append(list, ahead)
	}
	return list
}

// valueAt gives what a column has for an operation, nothing if it is too short.
func valueAt[T any](list []T, i int) T {
	var nothing T
	if i < len(list) {
		return list[i]
	}
	return nothing
}

// logOfBytes reads what it can and asks logBytes whether these were the bytes.
func logOfBytes(b []byte) ([]impl.Op, bool) {
	r := &columnReader{b: b[:max(0, len(b)-4)]}
	var columns [25][]int
	for i := range columns {
		columns[i] = r.runs()
	}
	keys, texts := r.texts(), r.texts()
	var log []impl.Op
	for i := range columns[0] {
		n := func(column int) int { return valueAt(columns[column], i) }
		op := impl.Op{Actor: n(0), Seq: n(1), Time: n(2), Kind: n(3), Obj: n(4), N: n(5)>>1 ^ -(n(5) & 1), Undo: n(6), At: stamp(n(7), n(8)), Deps: vector()}
		for actor := range 16 {
			op.Deps.Counts[actor] = n(9 + actor)
		}
		op.Key, op.Text = valueAt(keys, i), valueAt(texts, i)
		log = append(log, op)
	}
	return log, validLog(log) && bytes.Equal(logBytes(log), b)
}

// checkAnyBytes asks of bytes with a sum that fits: they are taken just if some log gives them.
func checkAnyBytes(t *testing.T, b []byte) bool {
	t.Helper()
	want, ok := logOfBytes(b)
	if !ok {
		checkNotRead(t, "not of a log", b, impl.ErrForm)
		return false
	}
	if log, code := impl.ReadLog(b); code != impl.OK || !sameLog(log, want) {
		t.Errorf("%s: %s, code %d, want %s", brief(b), brief(log), code, brief(want))
	}
	return true
}

// edgeLogs are valid logs with what stands at the edges.
func edgeLogs() map[string][]impl.Op {
	far := opAdd(by(15, 1, impl.MaxTime), 100, -impl.MaxTime)
	words := []impl.Op{}
	for i, word := range []string{"", "a", "ab", "abc", "ab", "abd", "", "abd", "b", "\x00", "\x00\xff", "é", letters(200), letters(199) + "y", letters(200)} {
		words = append(words, opSet(by(3, i+1, i+1), 9, word, strings.Repeat(word, 1+i%2)[:min(200, len(word)*(1+i%2))]))
	}
	var amounts []impl.Op
	for i, n := range []int{0, 1, -1, 2, -2, 63, 64, -64, -65, 8191, 8192, -8192, -8193, 1 << 30, -1 << 30, impl.MaxTime, -impl.MaxTime, impl.MaxTime - 1, 1 - impl.MaxTime} {
		amounts = append(amounts, opAdd(by(0, i+1, 1+i*i), 1, n))
	}
	var chars []impl.Op
	for i, char := range []int{0, 10, 'x', 127, 128, 55295, 57344, 65535, 65536, 1114111} {
		chars = append(chars, opIns(by(8, i+1, 10+i), 2, char, stamp(1+i, i)))
	}
	undoing := []impl.Op{opAdd(by(1, 1, 1), 1, 5), opAdd(by(1, 2, 2), 1, 5)}
	for i := 3; i < 9; i++ {
		undoing = append(undoing, opWith(opAdd(by(1, i, i), 1, -5), func(op *impl.Op) { op.Undo = i - 1 - i%2 }))
	}
	return map[string][]impl.Op{
		"none": nil, "story": inOrder(story()), "one": story()[:1], "far": {far}, "words": words, "amounts": amounts, "chars": chars, "undoing": undoing, "some": fullLog(40),
		"taken away at the edges": {opDel(by(0, 1, impl.MaxTime), 1, stamp(impl.MaxTime-1, 15)), opDel(by(1, 1, 1), 1, stamp(1, 0))},
	}
}

func TestP2LogsComeBack(t *testing.T) {
	for name, log := range edgeLogs() {
		checkLog(t, name, log, true)
		checkBytes(t, name, log)
	}
	for name, op := range eachFirst() {
		checkBytes(t, name, []impl.Op{op})
	}
	for _, size := range []int{2, 3, 100, impl.MaxLog - 1, impl.MaxLog} {
		checkBytes(t, fmt.Sprint(size, " operations"), fullLog(size))
	}
	for set := range 1 << 7 {
		var part []impl.Op
		for i, op := range story() {
			if set&(1<<i) != 0 {
				part = append(part, op)
			}
		}
		if part = inOrder(part); validLog(part) {
			checkBytes(t, "a part of the story", part)
		}
	}
}

// Bytes that are written down here, and a log of which nothing is there.
func TestP2LogsInBytes(t *testing.T) {
	empty, code := impl.LogBytes(nil)
	if code != impl.OK || !bytes.Equal(empty, summed(noughts(27))) {
		t.Errorf("none: %v, code %d", empty, code)
	}
	one := opSet(by(2, 1, 300), 7, "ab", "c")
	want := []byte{
		1, 2, 1, 1, 1, 1, 1, 172, 2, 1, 1, 1, 1, 1, 7, 1, 1, 0, 1, 1, 0, 1, 1, 0, 1, 1, 0, 1,
	}
	want = append(want, bytes.Repeat([]byte{1, 0, 1}, 16)...)
	want = append(want, 1, 0, 2, 'a', 'b', 1, 0, 1, 'c')
	if b, code := impl.LogBytes([]impl.Op{one}); code != impl.OK || !bytes.Equal(b, summed(want)) {
		t.Errorf("one: %v, code %d, want %v", b, code, summed(want))
	}
	// N is folded: 3 stands as 6, -3 as 5, and the amount between is -1, which stands as 1.
	two := []impl.Op{opAdd(by(0, 1, 1), 1, 3), opAdd(by(0, 2, 2), 1, -3)}
	if b, _ := impl.LogBytes(two); !bytes.Contains(b, []byte{2, 1, 2, 0, 2, 6, 2, 1, 2, 0, 2, 0}) {
		t.Errorf("two: %v", b)
	}
	// The sum has its highest byte first.
	size := len(empty) - 4
	if binary.BigEndian.Uint32(empty[size:]) != uint32(impl.Sum32(empty[:size])) {
		t.Errorf("the sum of %v", empty)
	}
}

func TestP2LogSums(t *testing.T) {
	for size := range 5 {
		checkNotRead(t, "too short for a sum", noughts(size), impl.ErrSum)
		checkNotRead(t, "too short for a sum", bytes.Repeat([]byte{255}, size), impl.ErrSum)
	}
	// The sum of nothing stands in four bytes: it fits, and nothing is no log.
	checkNotRead(t, "nothing with its sum", summed(), impl.ErrForm)
	for name, log := range edgeLogs() {
		b := logBytes(log)
		for i := range b {
			for _, by := range []byte{1, 2, 64, 128, 255} {
				changed := slices.Clone(b)
				changed[i] ^= by
				checkNotRead(t, name+" changed", changed, impl.ErrSum)
			}
		}
		for i := range b {
			if left := b[:i]; i < 4 || binary.BigEndian.Uint32(left[i-4:]) != sumOf(left[:i-4]) {
				checkNotRead(t, name+" cut", left, impl.ErrSum)
			}
		}
		checkNotRead(t, name+" with one more", append(slices.Clone(b), 0), impl.ErrSum)
		checkNotRead(t, name+" with one more ahead", append([]byte{7}, b...), impl.ErrSum)
		low := binary.LittleEndian.AppendUint32(slices.Clone(b[:len(b)-4]), sumOf(b[:len(b)-4]))
		checkNotRead(t, name+", the lowest byte of the sum first", low, impl.ErrSum)
	}
}

// One byte less, one more, one changed, with a sum that fits.
func TestP2LogBytesChanged(t *testing.T) {
	taken := 0
	count := func(b []byte) {
		if checkAnyBytes(t, summed(b)) {
			taken++
		}
	}
	for name, log := range edgeLogs() {
		if len(log) > 20 {
			continue
		}
		b := logBytes(log)
		b = b[:len(b)-4]
		for i := range b {
			for _, with := range []byte{b[i] + 1, b[i] - 1, b[i] ^ 128, 0, 1, 2, 127, 128, 255} {
				changed := slices.Clone(b)
				changed[i] = with
				count(changed)
			}
			for _, with := range []byte{0, 1, 2, 128} {
				count(slices.Insert(slices.Clone(b), i, with))
			}
			count(slices.Delete(slices.Clone(b), i, i+1))
			checkNotRead(t, name+" cut", summed(b[:i]), impl.ErrForm)
		}
		for _, more := range [][]byte{{0}, {1}, {0, 0}, {1, 0, 1}, {1, 0, 0}, b} {
			checkNotRead(t, name+" with more", summed(b, more), impl.ErrForm)
		}
	}
	if taken < 100 {
		t.Errorf("only %d changes were taken", taken)
	}
}

// Two or three bytes changed at once, at random.
func TestP2LogBytesAtRandom(t *testing.T) {
	random := rand.New(rand.NewSource(82))
	taken := 0
	for _, log := range edgeLogs() {
		if len(log) > 20 {
			continue
		}
		b := logBytes(log)
		b = b[:len(b)-4]
		for range 3000 {
			changed := slices.Clone(b)
			for range 1 + random.Intn(3) {
				i := random.Intn(len(changed))
				changed[i] = byte(int(changed[i]) + random.Intn(5) - 2)
			}
			if checkAnyBytes(t, summed(changed)) {
				taken++
			}
		}
	}
	if taken < 100 {
		t.Errorf("only %d changes were taken", taken)
	}
}

// withColumn gives a log's bytes with one column exchanged.
func withColumn(log []impl.Op, column int, with []byte) []byte {
	columns := logColumns(log)
	columns[column] = with
	return summed(columns...)
}

func TestP2ColumnsOfUnlikeLength(t *testing.T) {
	for name, log := range edgeLogs() {
		numbers := numberColumns(log)
		for column, list := range numbers {
			for _, other := range [][]int{append(slices.Clone(list), 0), append(slices.Clone(list), valueAt(list, 0)), append(slices.Clone(list), 1, 2), slices.Repeat(list, 2)} {
				if len(other) != len(list) {
					checkNotRead(t, fmt.Sprint(name, ": column ", column, " longer"), withColumn(log, column, runBytes(other)), impl.ErrForm)
				}
			}
			for size := range list {
				checkNotRead(t, fmt.Sprint(name, ": column ", column, " shorter"), withColumn(log, column, runBytes(list[:size])), impl.ErrForm)
			}
		}
		for column := 25; column < 27; column++ {
			for size := range len(log) + 3 {
				if size != len(log) {
					checkNotRead(t, fmt.Sprint(name, ": texts of ", size), withColumn(log, column, textBytes(make([]string, size))), impl.ErrForm)
				}
			}
		}
	}
	// All columns but one of the same other length.
	longer, shorter := fullLog(9), fullLog(8)
	for column := range 27 {
		checkNotRead(t, "all but one longer", withColumn(longer, column, logColumns(shorter)[column]), impl.ErrForm)
		checkNotRead(t, "all but one shorter", withColumn(shorter, column, logColumns(longer)[column]), impl.ErrForm)
	}
}

func TestP2ColumnsTooManyOrFew(t *testing.T) {
	for name, log := range edgeLogs() {
		columns := logColumns(log)
		for i := range columns {
			checkNotRead(t, fmt.Sprint(name, " without column ", i), summed(slices.Delete(slices.Clone(columns), i, i+1)...), impl.ErrForm)
			checkNotRead(t, fmt.Sprint(name, " with column ", i, " twice"), summed(slices.Insert(slices.Clone(columns), i, columns[i])...), impl.ErrForm)
			checkNotRead(t, fmt.Sprint(name, " to column ", i), summed(columns[:i]...), impl.ErrForm)
		}
		for i := range columns {
			swapped := slices.Clone(columns)
			j := (i + 1) % len(columns)
			swapped[i], swapped[j] = swapped[j], swapped[i]
			checkAnyBytes(t, summed(swapped...))
		}
		checkNotRead(t, name+" twice", summed(slices.Concat(columns, columns)...), impl.ErrForm)
		checkNotRead(t, name+" with its sum twice", summed(logBytes(log)), impl.ErrForm)
	}
}

// Runs and texts that mean the right values and are not as they are written.
func TestP2ColumnsNotInForm(t *testing.T) {
	log := []impl.Op{opSet(by(0, 1, 1), 1, "ab", "t"), opSet(by(0, 2, 2), 1, "ac", "t"), opSet(by(0, 3, 3), 1, "a", "")}
	if !validLog(log) {
		t.Fatal("no log")
	}
	for name, c := range map[string]struct {
		column int
		bytes  []byte
	}{
		"a run in two":              {1, []byte{3, 1, 2, 2, 3, 1}},
		"a run in three":            {1, []byte{3, 1, 1, 2, 1, 3, 1}},
		"a run cut at its end":      {2, []byte{3, 1, 1, 2, 2, 2}},
		"a number with a nought":    {0, []byte{3, 128, 0, 3, 0}},
		"a count with a nought":     {0, []byte{131, 0, 0, 3, 0}},
		"a run of none":             {0, []byte{3, 5, 0, 0, 3, 0}},
		"an amount of one":          {8, []byte{3, 0, 1, 0, 0, 2, 0}},
		"a run too long":            {0, []byte{3, 0, 4, 0}},
		"less shared than can be":   {25, []byte{3, 0, 2, 'a', 'b', 0, 2, 'a', 'c', 1, 0}},
		"nothing shared at the end": {25, []byte{3, 0, 2, 'a', 'b', 1, 1, 'c', 0, 1, 'a'}},
		"more shared than there is": {25, []byte{3, 0, 2, 'a', 'b', 1, 1, 'c', 3, 0}},
		"the first shares":          {25, []byte{3, 1, 1, 'b', 1, 1, 'c', 1, 0}},
		"a length with a nought":    {26, []byte{3, 0, 129, 0, 't', 1, 0, 0, 0}},
	} {
		if bytes.Equal(c.bytes, logColumns(log)[c.column]) {
			t.Errorf("%s: that is how it is written", name)
		}
		checkNotRead(t, name, withColumn(log, c.column, c.bytes), impl.ErrForm)
	}
	for column, want := range map[int][]byte{0: {3, 0, 3, 0}, 1: {3, 1, 3, 2}, 25: {3, 0, 2, 'a', 'b', 1, 1, 'c', 1, 0}, 26: {3, 0, 1, 't', 1, 0, 0, 0}} {
		if !bytes.Equal(logColumns(log)[column], want) {
			t.Errorf("column %d: %v", column, logColumns(log)[column])
		}
	}
}

// Well formed, and no log.
func TestP2LogsNotValid(t *testing.T) {
	log := inOrder(story())
	for name, wrong := range map[string][]impl.Op{
		"without the first": log[1:], "turned over": {log[3], log[0]}, "one twice": {log[0], log[0]}, "nothing": {{Deps: vector()}},
		"a Seq of 0":         logWith(log, 0, func(op *impl.Op) { op.Seq = 0 }),
		"a Time of 0":        logWith(log, 0, func(op *impl.Op) { op.Time = 0 }),
		"a far Time":         logWith(log, 6, func(op *impl.Op) { op.Time = impl.MaxTime + 1 }),
		"actor 16":           {opAdd(by(16, 1, 1), 1, 1)},
		"no Kind":            logWith(log, 0, func(op *impl.Op) { op.Kind = 0 }),
		"no such Kind":       logWith(log, 0, func(op *impl.Op) { op.Kind = 5 }),
		"unlike things":      logWith(log, 3, func(op *impl.Op) { op.Obj = 1 }),
		"Obj 0":              logWith(log, 0, func(op *impl.Op) { op.Obj = 0 }),
		"Obj 101":            logWith(log, 0, func(op *impl.Op) { op.Obj = 101 }),
		"an N with an OSet":  logWith(log, 0, func(op *impl.Op) { op.N = 1 }),
		"no character":       logWith(log, 1, func(op *impl.Op) { op.N = 55296 }),
		"below a character":  logWith(log, 1, func(op *impl.Op) { op.N = -1 }),
		"N above":            {opAdd(by(0, 1, 1), 1, impl.MaxTime+1)},
		"N below":            {opAdd(by(0, 1, 1), 1, -impl.MaxTime-1)},
		"Undo of itself":     logWith(log, 0, func(op *impl.Op) { op.Undo = 1 }),
		"an At with an OSet": logWith(log, 0, func(op *impl.Op) { op.At = stamp(1, 0) }),
		"an At of no time":   logWith(log, 3, func(op *impl.Op) { op.At = stamp(0, 1) }),
		"an At of no actor":  logWith(log, 3, func(op *impl.Op) { op.At = stamp(1, 16) }),
		"an At above":        logWith(log, 3, func(op *impl.Op) { op.At = stamp(9, 1) }),
		"no At with an ODel": logWith(log, 5, func(op *impl.Op) { op.At = start() }),
		"a Key with an OAdd": logWith(log, 4, func(op *impl.Op) { op.Key = "k" }),
		"a Text, too":        logWith(log, 4, func(op *impl.Op) { op.Text = "t" }),
		"a long Key":         logWith(log, 0, func(op *impl.Op) { op.Key = letters(201) }),
		"a long Text":        logWith(log, 0, func(op *impl.Op) { op.Text = letters(201) }),
		"a count too many":   logWith(log, 6, func(op *impl.Op) { op.Deps.Counts[0] = 4 }),
		"a count of others":  logWith(log, 6, func(op *impl.Op) { op.Deps.Counts[9] = 1 }),
		"a count of its own": logWith(log, 6, func(op *impl.Op) { op.Deps.Counts[15] = 2 }),
		"not above":          logWith(log, 6, func(op *impl.Op) { op.Time = 4 }),
		"one too many":       fullLog(impl.MaxLog + 1),
		"many too many":      fullLog(impl.MaxList),
		"many more":          fullLog(impl.MaxList + 1),
	} {
		if validLog(wrong) {
			t.Errorf("%s: that is a log", name)
		}
		b, code := impl.LogBytes(wrong)
		wantCode(t, name+": LogBytes", code, impl.ErrBad)
		zeroWithCode(t, b, code)
		checkNotRead(t, name, logBytes(wrong), impl.ErrForm)
	}
	// Numbers that are none, or that a run cannot have.
	for column := range 25 {
		for _, far := range []int{maxInRun, maxInRun + 1, impl.MaxNum, 1 << 62} {
			checkNotRead(t, fmt.Sprint("far in column ", column), withColumn(log[:1], column, binary.AppendUvarint(binary.AppendUvarint([]byte{1}, uint64(far)), 1)), impl.ErrForm)
		}
		checkNotRead(t, "very many", withColumn(log[:1], column, binary.AppendUvarint(nil, impl.MaxNum)), impl.ErrForm)
	}
}

// greatLog has as many operations as there can be, each with the longest texts, which share no beginning with their neighbours.
func greatLog() []impl.Op {
	random := rand.New(rand.NewSource(83))
	var log []impl.Op
	for i := range impl.MaxLog {
		text := fmt.Sprintf("%c%s", 'a'+i%26, letters(199))
		log = append(log, opSet(by(i/64, i%64+1, impl.MaxTime-4096+4*(i%64)+random.Intn(3)), 1+random.Intn(100), text, text))
	}
	return log
}

// No log has as many bytes as there can be; ReadLog takes them no less, and finds that there is none.
func TestP2LogsAndTheLimit(t *testing.T) {
	log := greatLog()
	checkBytes(t, "great", log)
	if size := len(logBytes(log)); size < 400000 || size > impl.MaxBytes {
		t.Errorf("the great log has %d bytes", size)
	}
	for _, size := range []int{impl.MaxBytes - 1, impl.MaxBytes} {
		b := withColumn(log[:1], 25, textBytes([]string{letters(size)}))
		b = withColumn(log[:1], 25, textBytes([]string{letters(2*size - len(b))}))
		if len(b) != size {
			t.Fatalf("%d bytes, want %d", len(b), size)
		}
		checkNotRead(t, "a long Key", b, impl.ErrForm)
		checkNotRead(t, "noughts", summed(noughts(size-4)), impl.ErrForm)
		b[size-1]++
		checkNotRead(t, "a long Key with a wrong sum", b, impl.ErrSum)
	}
	for _, more := range []int{1, 2, 4, impl.MaxBytes} {
		checkNotRead(t, "too long", noughts(impl.MaxBytes+more), impl.ErrLong)
		checkNotRead(t, "too long, with its sum", summed(noughts(impl.MaxBytes+more-4)), impl.ErrLong)
	}
	checkNotRead(t, "a log and very much", append(logBytes(log), noughts(impl.MaxBytes)...), impl.ErrLong)
}
