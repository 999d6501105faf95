package tests

import (
	"bytes"
	"encoding/binary"
	"math/rand"
	"slices"
	"testing"

	"loop.example/g00028/impl"
)

// countBytes writes counts as they stand, those that a vector cannot have with them.
func countBytes(counts ...int) []byte {
	var out []byte
	for _, n := range counts {
		out = binary.AppendUvarint(out, uint64(n))
	}
	return out
}

// vecBytes writes a vector as the document says, by another program than the project's.
func vecBytes(v impl.Vector) []byte {
	var out []byte
	told := 0
	for i, n := range v.Counts {
		if n != 0 {
			out = append(out, noughts(i-told)...)
			out = binary.AppendUvarint(out, uint64(n))
			told = i + 1
		}
	}
	return out
}

func checkVec(t *testing.T, v impl.Vector) {
	t.Helper()
	b, code := impl.VecBytes(v)
	if code != impl.OK || !bytes.Equal(b, vecBytes(v)) {
		t.Fatalf("VecBytes(%v): %v, code %d", v.Counts, b, code)
	}
	got, code := impl.ReadVec(b)
	if code != impl.OK || !sameVector(got, v) {
		t.Fatalf("%v came back as %v, code %d", v.Counts, got.Counts, code)
	}
}

func checkNoVec(t *testing.T, b []byte, want int) {
	t.Helper()
	v, code := impl.ReadVec(b)
	if code != want || len(v.Counts) != 0 {
		t.Errorf("ReadVec of %.40v (%d bytes): %v, code %d, want code %d", b, len(b), v.Counts, code, want)
	}
}

// checkVecBytes asks of any bytes: they are taken just if some vector gives them.
func checkVecBytes(t *testing.T, b []byte) bool {
	t.Helper()
	v, code := impl.ReadVec(b)
	want, ok := vecOfBytes(b)
	if ok && (code != impl.OK || !sameVector(v, want)) {
		t.Errorf("%v: %v, code %d, want %v", b, v.Counts, code, want.Counts)
	}
	if !ok {
		checkNoVec(t, b, impl.ErrForm)
	}
	return ok
}

// vecOfBytes reads what it can and asks vecBytes whether these were the bytes.
func vecOfBytes(b []byte) (impl.Vector, bool) {
	v := vector()
	rest := b
	for i := 0; i < 16 && len(rest) > 0; i++ {
		n, size := binary.Uvarint(rest)
		if size <= 0 || n > 1000000000000 {
			return v, false
		}
		v.Counts[i] = int(n)
		rest = rest[size:]
	}
	return v, bytes.Equal(vecBytes(v), b)
}

func TestP2VectorsComeBack(t *testing.T) {
	for _, v := range someVectors() {
		checkVec(t, v)
	}
	for _, n := range append(edgeNumbers(), impl.MaxTime-1, impl.MaxTime) {
		if n > impl.MaxTime {
			continue
		}
		checkVec(t, fullVector(n))
		for actor := range 16 {
			checkVec(t, vectorOf(actor, n))
			without := fullVector(n)
			without.Counts[actor] = 0
			checkVec(t, without)
			clear(without.Counts[actor:])
			checkVec(t, without)
		}
	}
}

func TestP2VectorsInBytes(t *testing.T) {
	for _, c := range []struct {
		v    impl.Vector
		want []byte
	}{
		{vector(), nil},
		{vector(1), []byte{1}},
		{vector(0, 1), []byte{0, 1}},
		{vector(127, 128), []byte{127, 128, 1}},
		{vector(1, 0, 200), []byte{1, 0, 200, 1}},
		{vector(impl.MaxTime), []byte{128, 160, 148, 165, 141, 29}},
		{vectorOf(15, 3), append(noughts(15), 3)},
		{vectorOf(14, 3), append(noughts(14), 3)},
		{fullVector(2), bytes.Repeat([]byte{2}, 16)},
	} {
		if b, code := impl.VecBytes(c.v); code != impl.OK || !bytes.Equal(b, c.want) {
			t.Errorf("VecBytes(%v): %v, code %d", c.v.Counts, b, code)
		}
		if v, code := impl.ReadVec(c.want); code != impl.OK || !sameVector(v, c.v) {
			t.Errorf("ReadVec(%v): %v, code %d", c.want, v.Counts, code)
		}
	}
}

func TestP2WrongVectorsHaveNoBytes(t *testing.T) {
	for _, v := range wrongVectors() {
		b, code := impl.VecBytes(v)
		wantCode(t, "VecBytes", code, impl.ErrBad)
		zeroWithCode(t, b, code)
	}
}

func TestP2VectorForms(t *testing.T) {
	ones := bytes.Repeat([]byte{1}, 16)
	for _, b := range [][]byte{
		// a nought too many at the end
		{0}, {0, 0}, {1, 0}, {0, 1, 0}, {200, 1, 0}, {1, 0, 0}, noughts(15), noughts(16), append(ones[:15:15], 0),
		// more than 16 counts
		append(ones[:16:16], 1), append(ones[:16:16], 0), append(noughts(16), 1), noughts(17), append(ones[:16:16], 128), bytes.Repeat(ones, 100),
		// bytes that end within a count
		{128}, {1, 128}, {0, 255, 255}, append(ones[:15:15], 128),
		// not of the shortest form
		{128, 0}, {129, 0}, {1, 129, 0}, {129, 128, 0}, {128, 0, 1}, {129, 0, 1}, append(ones[:15:15], 129, 0),
		// counts above MaxTime
		countBytes(impl.MaxTime + 1), countBytes(impl.MaxTime+1, 1), countBytes(1, impl.MaxTime+1), countBytes(0, impl.MaxTime+1),
		countBytes(impl.MaxNum), countBytes(impl.MaxNum + 1), countBytes(impl.MaxTime, impl.MaxNum, 1),
		append(ones[:15:15], countBytes(impl.MaxTime+1)...),
		{255, 255, 255, 255, 255, 255, 255, 255, 255, 1}, bytes.Repeat([]byte{255}, 16), bytes.Repeat([]byte{128}, 30),
	} {
		checkNoVec(t, b, impl.ErrForm)
		checkVecBytes(t, b)
	}
	for actor := range 16 {
		ahead := slices.Repeat([]int{impl.MaxTime}, actor)
		checkNoVec(t, countBytes(append(ahead, impl.MaxTime+1)...), impl.ErrForm)
		checkNoVec(t, countBytes(append(ahead, 0)...), impl.ErrForm)
		checkNoVec(t, append(countBytes(ahead...), 130, 0), impl.ErrForm)
		checkNoVec(t, append(countBytes(ahead...), 130), impl.ErrForm)
		checkVecBytes(t, countBytes(append(ahead, 1)...))
	}
}

func TestP2NoOtherVectorBytes(t *testing.T) {
	taken := 0
	count := func(b []byte) {
		if checkVecBytes(t, b) {
			taken++
		}
	}
	everyList([]byte{0, 1, 2, 127, 128, 255}, 6, count)
	if taken < 1000 {
		t.Errorf("only %d were taken", taken)
	}
	// All about the 16th count.
	for _, fill := range []byte{0, 1, 127} {
		for size := 12; size < 18; size++ {
			everyList([]byte{0, 1, 128}, 4, func(end []byte) {
				count(append(bytes.Repeat([]byte{fill}, size), end...))
			})
		}
	}
}

func TestP2ChangedVectorBytes(t *testing.T) {
	random := rand.New(rand.NewSource(3))
	for range 5000 {
		v := vector()
		for i := range random.Intn(17) {
			v.Counts[i] = random.Intn(3)
			if random.Intn(3) == 0 {
				v.Counts[i] = random.Intn(impl.MaxTime + 1)
			}
		}
		checkVec(t, v)
		b := vecBytes(v)
		checkVecBytes(t, b[:random.Intn(len(b)+1)])
		checkVecBytes(t, append(slices.Clone(b), byte(random.Intn(256))))
		if len(b) > 0 {
			b[random.Intn(len(b))] = byte(random.Intn(256))
			checkVecBytes(t, b)
		}
	}
}

func TestP1VectorBytesMaxBytes(t *testing.T) {
	for _, fill := range []byte{0, 1, 128, 255} {
		checkNoVec(t, bytes.Repeat([]byte{fill}, impl.MaxBytes), impl.ErrForm)
		checkNoVec(t, bytes.Repeat([]byte{fill}, impl.MaxBytes+1), impl.ErrLong)
	}
}

func TestP1EmptyVectorBytes(t *testing.T) {
	for _, b := range [][]byte{nil, {}} {
		if v, code := impl.ReadVec(b); code != impl.OK || !sameVector(v, vector()) {
			t.Errorf("%v, code %d", v.Counts, code)
		}
	}
}

func TestP1VectorBytesAreNew(t *testing.T) {
	v := vector(300, 0, 5)
	first, _ := impl.VecBytes(v)
	again, _ := impl.VecBytes(v)
	scribble(first, 99)
	if !bytes.Equal(again, vecBytes(v)) || !sameVector(v, vector(300, 0, 5)) {
		t.Errorf("an answer of VecBytes shares memory: %v of %v", again, v.Counts)
	}
	b, check := watched(t, vecBytes(v), 98)
	one, _ := impl.ReadVec(b)
	two, _ := impl.ReadVec(b)
	scribble(one.Counts, -1)
	check()
	scribble(b, 97)
	if !sameVector(two, v) {
		t.Errorf("an answer of ReadVec shares memory: %v", two.Counts)
	}
	none, _ := impl.ReadVec(nil)
	scribble(none.Counts, 5)
	if none, _ = impl.ReadVec(nil); !sameVector(none, vector()) {
		t.Errorf("ReadVec hangs on an earlier answer: %v", none.Counts)
	}
}
