package tests

import (
	"bytes"
	"encoding/binary"
	"fmt"
	"math/rand"
	"slices"
	"testing"

	"loop.example/g00028/impl"
)

// checkRecord asks for an operation's record as the other program writes it, and that it comes back from it.
func checkRecord(t *testing.T, what string, op impl.Op) {
	t.Helper()
	b, code := impl.RecordBytes(op)
	if code != impl.OK || !bytes.Equal(b, recordOf(op)) {
		t.Errorf("%s: RecordBytes %v, code %d, want %v", what, b, code, recordOf(op))
	}
	checkRead(t, what, b, []impl.Op{op}, len(b), impl.OK)
}

// Of each kind one whose record was written by hand, with a sum that another program told.
func TestP2RecordsWrittenDown(t *testing.T) {
	var all []byte
	var ops []impl.Op
	for _, c := range []struct {
		op   impl.Op
		want []byte
	}{
		{opSet(by(0, 1, 1), 1, "a", "one"), []byte{19, 25, 0, 2, 2, 1, 3, 0, 0, 20, 0, 2, 0, 1, 'a', 0, 3, 'o', 'n', 'e', 186, 97, 72, 119}},
		{opIns(by(1, 1, 3, 2), 3, 'y', stamp(2, 0)), []byte{25, 25, 1, 2, 0, 3, 2, 1, 3, 2, 222, 3, 0, 2, 4, 0, 2, 4, 0, 15, 0, 2, 0, 0, 0, 0, 193, 83, 77, 98}},
		{opDel(by(15, 1, 4, 2, 1), 3, stamp(2, 0)), []byte{27, 25, 15, 2, 27, 4, 2, 1, 3, 2, 5, 0, 2, 4, 0, 2, 4, 1, 2, 1, 0, 13, 0, 2, 0, 0, 0, 0, 139, 38, 142, 228}},
		{undoes(2, opAdd(by(0, 3, 9, 0, 0, 0, 0, 0, 0, 0, 0, 0, 0, 0, 0, 0, 0, 0, 7), 100, -3)), []byte{27, 25, 0, 2, 6, 9, 2, 9, 100, 2, 189, 1, 2, 2, 3, 0, 2, 4, 0, 14, 0, 7, 1, 2, 0, 0, 0, 0, 131, 215, 127, 243}},
	} {
		if got, code := impl.RecordBytes(c.op); code != impl.OK || !bytes.Equal(got, c.want) {
			t.Errorf("RecordBytes %v, code %d, want %v", got, code, c.want)
		}
		checkRead(t, "written down", c.want, []impl.Op{c.op}, len(c.want), impl.OK)
		all, ops = append(all, c.want...), append(ops, c.op)
		checkRead(t, "one behind the other", all, ops, len(all), impl.OK)
	}
}

func TestP2RecordsComeBack(t *testing.T) {
	for kind, op := range eachKind() {
		checkRecord(t, kind, op)
		for what, other := range variants(op) {
			checkRecord(t, kind+", "+what, other)
			checkRead(t, kind+", with "+what, recordsOf(op, other), []impl.Op{op, other}, len(recordsOf(op, other)), impl.OK)
		}
	}
	for name, log := range edgeLogs() {
		for _, op := range log {
			checkRecord(t, name, op)
		}
		// What stands behind one another need not be a log, and need not be in any order.
		turned := slices.Clone(log)
		slices.Reverse(turned)
		for _, ops := range [][]impl.Op{log, turned, slices.Concat(log, log), slices.Concat(log, turned)} {
			checkRead(t, name, recordsOf(ops...), ops, len(recordsOf(ops...)), impl.OK)
		}
	}
	checkRecord(t, "the longest", opSet(by(15, impl.MaxTime, impl.MaxTime, impl.MaxTime, 1, impl.MaxTime, 1, impl.MaxTime), 100, letters(200), "y"+letters(199)))
}

// How many bytes there are is told in one byte up to 127 of them, and then in two.
func TestP2RecordSizes(t *testing.T) {
	met := map[int]int{}
	for size := range 201 {
		for _, op := range []impl.Op{opSet(by(0, 1, 1), 1, letters(size), ""), opSet(by(3, 1, 1), 1, "y", letters(size)), opSet(by(3, 1, 1), 1, letters(200), "y"+letters(max(0, size-1)))} {
			checkRecord(t, fmt.Sprint("a text of ", size), op)
			b, _ := impl.RecordBytes(op)
			ahead := len(b) - 4 - len(deedBytes(op))
			met[len(deedBytes(op))] = ahead
			if want := binary.AppendUvarint(nil, uint64(len(deedBytes(op)))); !bytes.Equal(b[:ahead], want) {
				t.Errorf("%d bytes are told as %v, want %v", len(deedBytes(op)), b[:ahead], want)
			}
		}
	}
	for size, want := range map[int]int{126: 1, 127: 1, 128: 2, 129: 2, 255: 2, 256: 2, 400: 2} {
		if met[size] != want {
			t.Errorf("%d bytes are told in %d, want %d", size, met[size], want)
		}
	}
}

// The sum stands behind, its highest byte first.
func TestP2RecordSums(t *testing.T) {
	unlike := 0
	for _, op := range append(story(), fullLog(40)...) {
		b, _ := impl.RecordBytes(op)
		sum := impl.Sum32(deedBytes(op))
		last := b[len(b)-4:]
		want := []byte{byte(sum >> 24), byte(sum >> 16), byte(sum >> 8), byte(sum)}
		if !bytes.Equal(last, want) {
			t.Errorf("the sum of %v ends with %v, want %v", b, last, want)
		}
		if len(slices.Compact(slices.Sorted(slices.Values(want)))) == 4 {
			unlike++
		}
		for i := range 4 {
			for by := 1; by < 256; by++ {
				wrong := slices.Clone(b)
				wrong[len(b)-4+i] ^= byte(by)
				checkRead(t, fmt.Sprint("byte ", i, " of the sum"), wrong, nil, 0, impl.OK)
			}
		}
	}
	if unlike < 20 {
		t.Errorf("only %d sums have four unlike bytes", unlike)
	}
}

func TestP2NoRecordOfWrongOperations(t *testing.T) {
	for what, op := range wrongDeeds() {
		if b, code := impl.RecordBytes(op); code != impl.ErrBad || len(b) != 0 {
			t.Errorf("%s: RecordBytes %v, code %d, want code %d", what, b, code, impl.ErrBad)
		}
	}
	// It need not be one of a log.
	checkRecord(t, "causes that are nowhere", opAdd(by(15, impl.MaxTime, impl.MaxTime, impl.MaxTime), 100, impl.MaxTime))
	checkRecord(t, "an At that nobody put", opDel(by(15, 1, impl.MaxTime), 100, stamp(impl.MaxTime, 14)))
}

// longDeeds are operations with records of all lengths, some of which tell their length in two bytes.
func longDeeds() []impl.Op {
	s := story()
	return []impl.Op{s[0], opSet(by(3, 1, 1), 1, letters(200), "y"), s[2], opSet(by(3, 2, 2), 1, "k", letters(113)), s[4], opSet(by(3, 3, 3), 1, "k", letters(100)), s[6]}
}

// Every beginning of some records has those that are whole, and how many bytes these have.
func TestP2EveryBeginningOfRecords(t *testing.T) {
	for _, ops := range [][]impl.Op{nil, story()[:1], story(), longDeeds(), {story()[0], story()[0], story()[0]}} {
		b := recordsOf(ops...)
		whole := 0
		for end := range len(b) + 1 {
			if whole < len(ops) && end == len(recordsOf(ops[:whole+1]...)) {
				whole++
			}
			want := len(recordsOf(ops[:whole]...))
			checkRead(t, fmt.Sprint("the first ", end), b[:end], ops[:whole], want, impl.OK)
			checkRead(t, fmt.Sprint("the first ", end, " in memory of their own"), slices.Clip(slices.Clone(b[:end])), ops[:whole], want, impl.OK)
		}
		if whole != len(ops) {
			t.Errorf("%d of %d are whole at the end", whole, len(ops))
		}
	}
	checkRead(t, "nothing", nil, nil, 0, impl.OK)
	checkRead(t, "nothing", []byte{}, nil, 0, impl.OK)
}

// Behind whole records there may be anything: it is not read, unless it is a record.
func TestP2RecordsAndMore(t *testing.T) {
	s := story()
	b := recordsOf(s[:3]...)
	for _, more := range [][]byte{
		{0}, {1}, {1, 2}, {128}, {255}, noughts(4), noughts(5), noughts(100), bytes.Repeat([]byte{255}, 100), boxed(), boxed([]byte{0}), summed(), {0, 0, 0, 0, 0}, logBytes(inOrder(s)), deedBytes(s[0]), summed(deedBytes(s[0])),
	} {
		for _, behind := range [][]byte{nil, recordOf(s[3]), b} {
			checkRead(t, "behind records", slices.Concat(b, more, behind), s[:3], len(b), impl.OK)
			checkRead(t, "alone", slices.Concat(more, behind), nil, 0, impl.OK)
		}
	}
}

// One byte changed at each place, in each way: what stands ahead of the record with it comes back, and no more.
func TestP2OneByteOfRecordsChanged(t *testing.T) {
	for _, ops := range [][]impl.Op{story()[:3], longDeeds()[:3]} {
		b := recordsOf(ops...)
		for i := range b {
			ahead := 0
			for len(recordsOf(ops[:ahead+1]...)) <= i {
				ahead++
			}
			size := len(recordsOf(ops[:ahead]...))
			for by := 1; by < 256; by++ {
				changed := slices.Clone(b)
				changed[i] ^= byte(by)
				checkRead(t, fmt.Sprint("changed at ", i), changed, ops[:ahead], size, impl.OK)
			}
			checkRead(t, fmt.Sprint("without ", i), slices.Delete(slices.Clone(b), i, i+1), ops[:ahead], size, impl.OK)
			for _, with := range []byte{0, 1, 25, 128, 255} {
				// Just ahead of a record it spoils that one.
				checkRead(t, fmt.Sprint("one more at ", i), slices.Insert(slices.Clone(b), i, with), ops[:ahead], size, impl.OK)
			}
		}
	}
}

// How many bytes there are, told in other ways, or another number.
func TestP2NumbersOfBytesThatAreWrong(t *testing.T) {
	first := story()[0]
	for what, op := range map[string]impl.Op{"short": story()[1], "long": opSet(by(3, 1, 1), 1, letters(200), "y")} {
		b := deedBytes(op)
		size := len(b)
		head := binary.AppendUvarint(nil, uint64(size))
		longer := slices.Clone(head)
		longer[len(longer)-1] |= 128
		for _, told := range [][]byte{
			append(slices.Clone(longer), 0), append(slices.Clone(longer), 128, 0), append(slices.Clone(longer), 128, 128, 128, 128, 128, 128, 128, 0), longer, {}, {0}, {0, 0},
			countBytes(size - 1), countBytes(size + 1), countBytes(size + 4), countBytes(size + 5), countBytes(size + 128), countBytes(1 << 20), countBytes(1 << 31), countBytes(1 << 32), countBytes(1<<32 + size), countBytes(1<<62 - 1), countBytes(1 << 62),
			binary.AppendUvarint(nil, 1<<63), binary.AppendUvarint(nil, 1<<63+uint64(size)), binary.AppendUvarint(nil, 1<<64-1), bytes.Repeat([]byte{255}, 20), bytes.Repeat([]byte{128}, 20),
			// In nine bytes and ten, with bits that a number of 64 bits would lose.
			append(bytes.Repeat([]byte{128}, 9), 2), append([]byte{byte(size) | 128}, append(bytes.Repeat([]byte{128}, 8), 2)...),
		} {
			for _, behind := range [][]byte{nil, noughts(300), recordOf(first)} {
				record := slices.Concat(told, summed(b), behind)
				checkRead(t, fmt.Sprint(what, ", told as ", told), record, nil, 0, impl.OK)
				checkRead(t, fmt.Sprint(what, ", told as ", told, ", behind another"), slices.Concat(recordOf(first), record), []impl.Op{first}, len(recordOf(first)), impl.OK)
			}
		}
		checkRead(t, what, slices.Concat(head, summed(b)), []impl.Op{op}, len(recordOf(op)), impl.OK)
		// Sums that fit what is told, of more and of fewer bytes than there are.
		for less := 1; less <= size; less++ {
			checkRead(t, fmt.Sprint(what, " without the last ", less), boxed(b[:size-less]), nil, 0, impl.OK)
			checkRead(t, fmt.Sprint(what, " without the first ", less), boxed(b[less:]), nil, 0, impl.OK)
		}
		for _, more := range [][]byte{{0}, {1}, {0, 0}, b, recordOf(op)} {
			checkRead(t, what+" with more", boxed(b, more), nil, 0, impl.OK)
			checkRead(t, what+" with more ahead", boxed(more, b), nil, 0, impl.OK)
		}
	}
	// The sum of nothing stands in four bytes, and nothing is no operation.
	checkRead(t, "nothing with its sum", boxed(), nil, 0, impl.OK)
}

// Operations that are not valid by themselves, with a sum that fits.
func TestP2WrongOperationsAreNotRead(t *testing.T) {
	told := 0
	first := story()[0]
	for what, op := range wrongDeeds() {
		row := deedRow(op)
		if slices.Min(row) < 0 || slices.Max(row) > impl.MaxNum/4 || len(op.Key) > 1000 {
			continue // No run tells such a number, and no bytes that can be handed in such a text.
		}
		told++
		record := boxed(runBytes(row), textBytes([]string{op.Key, op.Text}))
		checkRead(t, what, record, nil, 0, impl.OK)
		checkRead(t, what+", between others", slices.Concat(recordOf(first), record, recordOf(first)), []impl.Op{first}, len(recordOf(first)), impl.OK)
	}
	if told < 150 {
		t.Errorf("only %d can be told in bytes", told)
	}
	// Numbers that are too great for a run, and that come round to good ones.
	good := deedRow(first)
	for i := range good {
		for _, great := range []int{impl.MaxNum / 4, impl.MaxNum/4 + 1, impl.MaxNum, impl.MaxNum - 1} {
			row := slices.Clone(good)
			row[i] = great
			checkRead(t, fmt.Sprint("number ", i, " is ", great), boxed(runBytes(row), textBytes([]string{first.Key, first.Text})), nil, 0, impl.OK)
		}
	}
}

// singles writes numbers each as a run of its own, which is no way in which they are written.
func singles(list []int) []byte {
	b := countBytes(len(list))
	for _, n := range list {
		b = append(b, countBytes(n, 1)...)
	}
	return b
}

// Bytes that mean a valid operation and are not as they are written, with a sum that fits.
func TestP2OtherWaysOfWriting(t *testing.T) {
	op := opSet(by(0, 1, 1), 1, "ab", "abc")
	numbers, texts := []byte{25, 0, 2, 2, 1, 3, 0, 0, 20, 0}, []byte{2, 0, 2, 'a', 'b', 2, 1, 'c'}
	checkRead(t, "as it is written", boxed(numbers, texts), []impl.Op{op}, len(numbers)+len(texts)+5, impl.OK)
	row := deedRow(op)
	for what, other := range map[string][]byte{
		"runs that could be longer":       {25, 0, 2, 2, 1, 2, 0, 1, 2, 1, 0, 19, 0},
		"the last run in two":             {25, 0, 2, 2, 1, 3, 0, 0, 10, 0, 0, 10, 0},
		"the last number alone":           {25, 0, 2, 2, 1, 3, 0, 0, 19, 0, 0, 1},
		"the first number alone":          {25, 0, 1, 1, 4, 0, 0, 20, 0},
		"each number alone":               singles(row),
		"a run of none":                   {25, 7, 0, 0, 2, 2, 1, 3, 0, 0, 20, 0},
		"a run that is too long":          {25, 0, 2, 2, 1, 3, 0, 0, 21, 0},
		"a number with a nought behind":   {25, 128, 0, 2, 2, 1, 3, 0, 0, 20, 0},
		"a count with a nought behind":    {153, 0, 0, 2, 2, 1, 3, 0, 0, 20, 0},
		"an amount with a nought behind":  {25, 0, 2, 130, 0, 1, 3, 0, 0, 20, 0},
		"Deps without the last":           {24, 0, 2, 2, 1, 3, 0, 0, 19, 0},
		"Deps without the noughts":        {9, 0, 2, 2, 1, 3, 0, 0, 4, 0},
		"Deps with one of them":           {10, 0, 2, 2, 1, 3, 0, 0, 5, 0},
		"Deps with one more":              {26, 0, 2, 2, 1, 3, 0, 0, 21, 0},
		"Deps of 4087, the most of a run": slices.Concat(countBytes(4096), []byte{0, 2, 2, 1, 3, 0, 0}, countBytes(4091), []byte{0}),
		"Deps of one more than a run has": slices.Concat(countBytes(4097), []byte{0, 2, 2, 1, 3, 0, 0}, countBytes(4092), []byte{0}),
		"no numbers":                      {0},
		"nothing ahead":                   {},
		"twice":                           slices.Concat(numbers, numbers),
	} {
		checkRead(t, what, boxed(other, texts), nil, 0, impl.OK)
	}
	for what, other := range map[string][]byte{
		"texts that share more":         {2, 0, 2, 'a', 'b', 1, 2, 'b', 'c'},
		"texts that share nothing":      {2, 0, 2, 'a', 'b', 0, 3, 'a', 'b', 'c'},
		"more shared than there is":     {2, 0, 2, 'a', 'b', 3, 0},
		"the first shares":              {2, 1, 1, 'b', 2, 1, 'c'},
		"a length with a nought behind": {2, 0, 130, 0, 'a', 'b', 2, 1, 'c'},
		"a share with a nought behind":  {2, 0, 2, 'a', 'b', 130, 0, 1, 'c'},
		"a count with a nought behind":  {130, 0, 0, 2, 'a', 'b', 2, 1, 'c'},
		"one text":                      {1, 0, 2, 'a', 'b'},
		"no texts":                      {0},
		"nothing behind":                {},
		"three texts":                   {3, 0, 2, 'a', 'b', 2, 1, 'c', 0, 0},
		"three texts, the last alike":   {3, 0, 2, 'a', 'b', 2, 1, 'c', 3, 0},
		"a byte more":                   {2, 0, 2, 'a', 'b', 2, 1, 'c', 0},
		"a text that is cut":            {2, 0, 2, 'a', 'b', 2, 2, 'c'},
		"twice":                         slices.Concat(texts, texts),
	} {
		checkRead(t, what, boxed(numbers, other), nil, 0, impl.OK)
	}
	checkRead(t, "the texts ahead", boxed(texts, numbers), nil, 0, impl.OK)
	empty := opSet(by(0, 1, 1), 1, "", "")
	checkRead(t, "empty texts left out", boxed(numbers), nil, 0, impl.OK)
	checkRead(t, "empty texts", boxed(numbers, []byte{2, 0, 0, 0, 0}), []impl.Op{empty}, len(numbers)+10, impl.OK)
}

// Bytes of operations changed in all small ways, with a sum that fits: they are read just if some operation gives them.
func TestP2OperationsChangedInRecords(t *testing.T) {
	taken := 0
	random := rand.New(rand.NewSource(131))
	for kind, op := range eachKind() {
		for _, op := range []impl.Op{op, eachFirst()[kind]} {
			b := deedBytes(op)
			for i := range b {
				for with := range 256 {
					changed := slices.Clone(b)
					changed[i] = byte(with)
					taken += checkReading(t, kind, boxed(changed))
				}
				for _, with := range []byte{0, 1, 2, 128} {
					taken += checkReading(t, kind, boxed(slices.Insert(slices.Clone(b), i, with)))
				}
				taken += checkReading(t, kind, boxed(slices.Delete(slices.Clone(b), i, i+1)))
			}
			for range 3000 {
				changed := slices.Clone(b)
				for range 2 + random.Intn(2) {
					i := random.Intn(len(changed))
					changed[i] = byte(int(changed[i]) + random.Intn(5) - 2)
				}
				taken += checkReading(t, kind, slices.Concat(recordOf(op), boxed(changed), recordOf(op))) - 1
			}
		}
	}
	if taken < 2000 {
		t.Errorf("only %d changes were taken", taken)
	}
}

// What follows behind a record that is none is not read, even if it is one.
func TestP2BehindWhatIsTorn(t *testing.T) {
	s := story()
	for i := range s {
		ahead, torn, behind := recordsOf(s[:i]...), recordOf(s[i]), recordsOf(s[i+1:]...)
		for cut := range torn {
			checkRead(t, fmt.Sprint("record ", i, " cut to ", cut), slices.Concat(ahead, torn[:cut], boxed([]byte{0}), behind), s[:i], len(ahead), impl.OK)
			if cut > 0 {
				checkRead(t, fmt.Sprint("record ", i, " cut to ", cut), slices.Concat(ahead, torn[:cut], behind), s[:i], len(ahead), impl.OK)
			}
			spoilt := slices.Clone(torn)
			spoilt[cut]++
			checkRead(t, fmt.Sprint("record ", i, " spoilt at ", cut), slices.Concat(ahead, spoilt, behind), s[:i], len(ahead), impl.OK)
		}
	}
}

// fitting gives operations whose records have just so many bytes together.
func fitting(t *testing.T, size int) []impl.Op {
	t.Helper()
	var ops []impl.Op
	most := len(recordOf(opSet(by(0, 1, 1), 1, letters(200), letters(200))))
	for size > 2*most {
		ops = append(ops, opSet(by(0, 1, 1), 1, letters(200), letters(200)))
		size -= most
	}
	for first := range 201 {
		for second := range 201 {
			pair := []impl.Op{opSet(by(0, 1, 1), 1, letters(first), ""), opSet(by(0, 1, 1), 1, letters(second), "y")}
			if len(recordsOf(pair...)) == size {
				return append(ops, pair...)
			}
		}
	}
	t.Fatalf("no records of %d bytes", size)
	return nil
}

func TestP2RecordsAndTheLimit(t *testing.T) {
	for _, less := range []int{0, 1, 2} {
		ops := fitting(t, impl.MaxBytes-less)
		b := recordsOf(ops...)
		if len(b) != impl.MaxBytes-less {
			t.Fatalf("%d bytes", len(b))
		}
		checkRead(t, "as many as can be", b, ops, len(b), impl.OK)
		checkRead(t, "as many as can be, with noughts", append(b, noughts(less)...), ops, len(b), impl.OK)
		for _, more := range []int{1, 2, 100, impl.MaxBytes} {
			checkRead(t, "one more", append(slices.Clone(b), noughts(less+more)...), nil, 0, impl.ErrLong)
		}
	}
	most := fitting(t, impl.MaxBytes+1)
	checkRead(t, "records of one more", recordsOf(most...), nil, 0, impl.ErrLong)
	checkRead(t, "records of one more, less the last byte", recordsOf(most...)[:impl.MaxBytes], most[:len(most)-1], len(recordsOf(most[:len(most)-1]...)), impl.OK)
	for _, size := range []int{impl.MaxBytes, impl.MaxBytes - 1} {
		checkRead(t, "noughts", noughts(size), nil, 0, impl.OK)
		checkRead(t, "all bits", bytes.Repeat([]byte{255}, size), nil, 0, impl.OK)
		// One record that is as long as all can be, with a sum that fits, of which no operation is so long.
		long := slices.Concat(countBytes(size-7), summed(deedBytes(story()[0]), noughts(size-7-len(deedBytes(story()[0])))))
		checkRead(t, "a long one", long, nil, 0, impl.OK)
	}
	checkRead(t, "very many", noughts(1<<24), nil, 0, impl.ErrLong)
}
