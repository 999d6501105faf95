package tests

import (
	"bytes"
	"fmt"
	"math"
	"slices"
	"strings"
	"testing"

	"loop.example/g00028/impl"
)

// checkDeedBytes asks for an operation's bytes as the other program writes them.
func checkDeedBytes(t *testing.T, what string, op impl.Op) {
	t.Helper()
	if got, code := impl.OpBytes(op); code != impl.OK || !bytes.Equal(got, deedBytes(op)) {
		t.Errorf("%s: OpBytes %v, code %d, want %v", what, got, code, deedBytes(op))
	}
}

func checkNoDeedBytes(t *testing.T, what string, op impl.Op) {
	t.Helper()
	if validDeed(op) {
		t.Fatalf("%s: the test is at odds with itself: %v", what, op)
	}
	if got, code := impl.OpBytes(op); code != impl.ErrBad || len(got) != 0 {
		t.Errorf("%s: OpBytes %v, code %d, want code %d", what, got, code, impl.ErrBad)
	}
}

// Of each kind one whose bytes were written by hand.
func TestP14BytesWrittenDown(t *testing.T) {
	none := []byte{2, 0, 0, 0, 0}
	for what, c := range map[string]struct {
		op   impl.Op
		want []byte
	}{
		// 0 1; 1 1 1; twenty noughts
		"a setting": {opSet(by(0, 1, 1), 1, "a", "one"), []byte{25, 0, 2, 2, 1, 3, 0, 0, 20, 0, 2, 0, 1, 'a', 0, 3, 'o', 'n', 'e'}},
		// 1 1; 3 2; 3 242; 0 2; 0 2; fifteen noughts
		"a character": {opIns(by(1, 1, 3, 2), 3, 'y', stamp(2, 0)), slices.Concat([]byte{25, 1, 2, 0, 3, 2, 1, 3, 2, 222, 3, 0, 2, 4, 0, 2, 4, 0, 15, 0}, none)},
		// 15 1; 4 3; 3 0; 0 2; 0 2; 1 0; thirteen noughts
		"a character that goes": {opDel(by(15, 1, 4, 2, 1), 3, stamp(2, 0)), slices.Concat([]byte{25, 15, 2, 27, 4, 2, 1, 3, 2, 5, 0, 2, 4, 0, 2, 4, 1, 2, 1, 0, 13, 0}, none)},
		// 0 3; 9 4; 100 5; 2 0; 0 2; fourteen noughts; 7
		"an adding below 0": {undoes(2, opAdd(by(0, 3, 9, 0, 0, 0, 0, 0, 0, 0, 0, 0, 0, 0, 0, 0, 0, 0, 7), 100, -3)), slices.Concat([]byte{25, 0, 2, 6, 9, 2, 9, 100, 2, 189, 1, 2, 2, 3, 0, 2, 4, 0, 14, 0, 7, 1}, none)},
		// 2 5; 6 4; 1 2 3; 0 0 0 0; 4 0; twelve noughts
		"a run across the fields": {undoes(3, opAdd(by(2, 5, 6), 1, 1)), slices.Concat([]byte{25, 2, 2, 6, 6, 2, 3, 1, 3, 2, 0, 4, 0, 4, 2, 7, 0, 12, 0}, none)},
	} {
		if got, code := impl.OpBytes(c.op); code != impl.OK || !bytes.Equal(got, c.want) {
			t.Errorf("%s: OpBytes %v, code %d, want %v", what, got, code, c.want)
		}
		checkDeedBytes(t, what, c.op)
	}
}

// variants are operations that are unlike a given one in one field alone.
func variants(op impl.Op) map[string]impl.Op {
	list := map[string]impl.Op{}
	add := func(what string, change func(op *impl.Op)) {
		if other := opWith(op, change); validDeed(other) && !sameDeed(other, op) {
			list[what] = other
		}
	}
	for _, actor := range []int{0, 1, 3, 14, 15} {
		// The count of its own actor goes with the Actor.
		add(fmt.Sprint("Actor ", actor), func(op *impl.Op) {
			counts := op.Deps.Counts
			counts[op.Actor], counts[actor] = counts[actor], counts[op.Actor]
			op.Actor = actor
		})
	}
	for _, seq := range []int{1, 2, 127, 128, 1000, impl.MaxTime - 1, impl.MaxTime} {
		add(fmt.Sprint("Seq ", seq), func(op *impl.Op) { op.Seq, op.Deps.Counts[op.Actor] = seq, seq-1 })
	}
	for _, time := range []int{1, 11, 12, 127, 128, impl.MaxTime - 1, impl.MaxTime} {
		add(fmt.Sprint("Time ", time), func(op *impl.Op) { op.Time = time })
	}
	for kind := range 6 {
		add(fmt.Sprint("Kind ", kind), func(op *impl.Op) { op.Kind = kind })
	}
	for _, obj := range []int{1, 2, 99, 100} {
		add(fmt.Sprint("Obj ", obj), func(op *impl.Op) { op.Obj = obj })
	}
	for _, n := range []int{0, 1, -1, 2, -2, 63, 64, -64, -65, 'x', 1114111, 1 << 30, -1 << 30, impl.MaxTime - 1, 1 - impl.MaxTime, impl.MaxTime, -impl.MaxTime} {
		add(fmt.Sprint("N ", n), func(op *impl.Op) { op.N = n })
	}
	for undo := range 5 {
		add(fmt.Sprint("Undo ", undo), func(op *impl.Op) { op.Undo = undo })
	}
	for _, at := range []impl.Stamp{start(), stamp(1, 0), stamp(1, 1), stamp(1, 15), stamp(2, 0), stamp(9, 3), stamp(9, 4), stamp(49, 3)} {
		add(fmt.Sprint("At ", at), func(op *impl.Op) { op.At = at })
	}
	for actor := range 16 {
		for _, n := range []int{0, 1, 2, 300, impl.MaxTime} {
			add(fmt.Sprint("Deps of ", actor, ": ", n), func(op *impl.Op) { op.Deps.Counts[actor] = n })
		}
	}
	for _, text := range []string{"", "k", "l", "ke", "key", "keys", "tex", "text", "texts", "\x00", "\xff\xfe", letters(200), letters(199) + "y"} {
		add(fmt.Sprintf("Key %.20q %d", text, len(text)), func(op *impl.Op) { op.Key = text })
		add(fmt.Sprintf("Text %.20q %d", text, len(text)), func(op *impl.Op) { op.Text = text })
	}
	return list
}

// Each field alone changes the bytes, as the document says.
func TestP14EachFieldInBytes(t *testing.T) {
	for kind, op := range eachKind() {
		checkDeedBytes(t, kind, op)
		met := map[string]string{string(deedBytes(op)): "it"}
		for what, other := range variants(op) {
			checkDeedBytes(t, kind+", "+what, other)
			b, _ := impl.OpBytes(other)
			if before, ok := met[string(b)]; ok {
				t.Errorf("%s, %s: the bytes of %s", kind, what, before)
			}
			met[string(b)] = what
		}
		if len(met) < 60 {
			t.Errorf("%s: only %d variants", kind, len(met))
		}
	}
	// Fields whose values are exchanged are not alike.
	one, other := opIns(by(3, 1, 50), 7, 'x', stamp(9, 4)), opIns(by(3, 1, 50), 7, 'x', stamp(4, 9))
	x, _ := impl.OpBytes(one)
	y, _ := impl.OpBytes(other)
	if bytes.Equal(x, y) {
		t.Errorf("%v and %v have the bytes %v", one, other, x)
	}
}

// N is told with its sign, at both ends of its range and in the middle.
func TestP14AmountsInBytes(t *testing.T) {
	behind := []byte{0, 5, 0, 2, 2, 3, 0, 11, 0, 2, 0, 0, 0, 0}
	for n, told := range map[int]int{
		1: 2, -1: 1, 2: 4, -2: 3, 63: 126, -63: 125, 64: 128, -64: 127, 65: 130, -65: 129,
		impl.MaxTime - 1: 1999999999998, 1 - impl.MaxTime: 1999999999997, impl.MaxTime: 2000000000000, -impl.MaxTime: 1999999999999,
	} {
		// 3 3 3; 4 7; what is told of N, and the 0 of Undo; 0 0 0 0 0; 2 0; eleven noughts
		want := slices.Concat([]byte{25, 3, 3, 0, 4, 2, 6}, countBytes(told, 2, 2*told-1), behind)
		if got, code := impl.OpBytes(opAdd(by(3, 3, 3), 7, n)); code != impl.OK || !bytes.Equal(got, want) {
			t.Errorf("N %d: %v, code %d, want %v", n, got, code, want)
		}
	}
	// 3 3 3; 4 7; seven noughts, N with them; 2 0; eleven noughts
	want := slices.Concat([]byte{25, 3, 3, 0, 4, 2, 6, 0, 7, 0}, behind[3:])
	if got, code := impl.OpBytes(opAdd(by(3, 3, 3), 7, 0)); code != impl.OK || !bytes.Equal(got, want) {
		t.Errorf("N 0: %v, code %d, want %v", got, code, want)
	}
	// 3 3 3; 4 7 10; six noughts; 2 0; eleven noughts
	want = slices.Concat([]byte{25, 3, 3, 0, 4, 3, 6, 0, 6, 0}, behind[3:])
	if got, code := impl.OpBytes(opAdd(by(3, 3, 3), 7, 5)); code != impl.OK || !bytes.Equal(got, want) {
		t.Errorf("N 5: %v, code %d, want %v", got, code, want)
	}
}

// What Key and Text have in common at their beginning stands once.
func TestP14TextsInBytes(t *testing.T) {
	for _, c := range []struct {
		key, text string
		want      string
	}{
		{"", "", "\x02\x00\x00\x00\x00"},
		{"a", "", "\x02\x00\x01a\x00\x00"},
		{"", "a", "\x02\x00\x00\x00\x01a"},
		{"a", "a", "\x02\x00\x01a\x01\x00"},
		{"a", "b", "\x02\x00\x01a\x00\x01b"},
		{"ab", "abc", "\x02\x00\x02ab\x02\x01c"},
		{"abc", "ab", "\x02\x00\x03abc\x02\x00"},
		{"abc", "abd", "\x02\x00\x03abc\x02\x01d"},
		{"\x00", "\x00\x00", "\x02\x00\x01\x00\x01\x01\x00"},
		{"é", "è", "\x02\x00\x02é\x01\x01\xa8"},
		{letters(200), letters(200), "\x02\x00\xc8\x01" + letters(200) + "\xc8\x01\x00"},
		{letters(200), letters(199) + "y", "\x02\x00\xc8\x01" + letters(200) + "\xc7\x01\x01y"},
		{letters(127), letters(128), "\x02\x00\x7f" + letters(127) + "\x7f\x01x"},
	} {
		op := opSet(by(5, 1, 1), 1, c.key, c.text)
		b, code := impl.OpBytes(op)
		if code != impl.OK || !strings.HasSuffix(string(b), c.want) || len(b)-len(c.want) != len(deedBytes(opSet(by(5, 1, 1), 1, "", "")))-5 {
			t.Errorf("%.20q and %.20q: %q, code %d, want %q at the end", c.key, c.text, b, code, c.want)
		}
		checkDeedBytes(t, "texts", op)
	}
}

// wrongDeeds are operations that are not valid by themselves, by each field.
func wrongDeeds() map[string]impl.Op {
	far := []int{math.MinInt, -1, math.MaxInt}
	list := map[string]impl.Op{"nothing": {}, "nothing said": by(0, 1, 1)}
	for kind, op := range eachKind() {
		wrong := func(what string, change func(op *impl.Op)) { list[kind+", "+what] = opWith(op, change) }
		for _, actor := range append(far, 16, 1<<32) {
			wrong(fmt.Sprint("Actor ", actor), func(op *impl.Op) { op.Actor = actor })
		}
		for _, seq := range append(far, 0, 1, 4, 6, impl.MaxTime+1) {
			wrong(fmt.Sprint("Seq ", seq), func(op *impl.Op) { op.Seq = seq })
		}
		wrong("a Seq too far", func(op *impl.Op) { op.Seq, op.Deps.Counts[2] = impl.MaxTime+1, impl.MaxTime })
		for _, time := range append(far, 0, impl.MaxTime+1) {
			wrong(fmt.Sprint("Time ", time), func(op *impl.Op) { op.Time = time })
		}
		for _, kind := range append(far, 0, 5, 257) {
			wrong(fmt.Sprint("Kind ", kind), func(op *impl.Op) { op.Kind = kind })
		}
		for _, obj := range append(far, 0, 101) {
			wrong(fmt.Sprint("Obj ", obj), func(op *impl.Op) { op.Obj = obj })
		}
		for _, n := range []int{math.MinInt, -impl.MaxTime - 1, impl.MaxTime + 1, math.MaxInt} {
			wrong(fmt.Sprint("N ", n), func(op *impl.Op) { op.N = n })
		}
		for _, undo := range append(far, 5) {
			wrong(fmt.Sprint("Undo ", undo), func(op *impl.Op) { op.Undo = undo })
		}
		for _, at := range []impl.Stamp{stamp(50, 2), stamp(51, 0), stamp(0, 1), stamp(-1, 0), stamp(1, 16), stamp(1, -1), stamp(math.MinInt, 3)} {
			wrong(fmt.Sprint("At ", at), func(op *impl.Op) { op.At = at })
		}
		for actor := range 16 {
			for _, n := range append(far, impl.MaxTime+1) {
				wrong(fmt.Sprint("Deps of ", actor, ": ", n), func(op *impl.Op) { op.Deps.Counts[actor] = n })
			}
		}
		wrong("a count of its own that is one too many", func(op *impl.Op) { op.Deps.Counts[2]++ })
		for _, size := range []int{0, 1, 2, 3, 15, 17, 40} {
			wrong(fmt.Sprint(size, " counts"), func(op *impl.Op) {
				op.Deps.Counts = slices.Concat(op.Deps.Counts, make([]int, 40))[:size]
			})
		}
		wrong("a Key that is too long", func(op *impl.Op) { op.Key = letters(201) })
		wrong("a Text that is too long", func(op *impl.Op) { op.Text = letters(201) })
		wrong("a Key and a Text that are very long", func(op *impl.Op) { op.Key, op.Text = letters(1<<21), letters(1<<21) })
	}
	list["a Key of a counter"] = opWith(eachKind()["OAdd"], func(op *impl.Op) { op.Key = "k" })
	list["a Text of a list"] = opWith(eachKind()["OIns"], func(op *impl.Op) { op.Text = "t" })
	list["an N of a map"] = opWith(eachKind()["OSet"], func(op *impl.Op) { op.N = 1 })
	list["an At of a counter"] = opWith(eachKind()["OAdd"], func(op *impl.Op) { op.At = stamp(1, 1) })
	list["no At"] = opWith(eachKind()["ODel"], func(op *impl.Op) { op.At = start() })
	list["no character"] = opWith(eachKind()["OIns"], func(op *impl.Op) { op.N = 55296 })
	return list
}

func TestP14WrongOperations(t *testing.T) {
	for what, op := range wrongDeeds() {
		checkNoDeedBytes(t, what, op)
	}
	// It need not be one of a log.
	checkDeedBytes(t, "causes that are nowhere", opAdd(by(15, impl.MaxTime, impl.MaxTime, impl.MaxTime), 100, impl.MaxTime))
	checkDeedBytes(t, "an At that nobody put", opDel(by(15, 1, impl.MaxTime), 100, stamp(impl.MaxTime, 14)))
}
