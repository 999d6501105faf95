package tests

import (
	"bytes"
	"encoding/binary"
	"math"
	"testing"

	"loop.example/g00028/impl"
)

// edgeNumbers are 0, MaxNum, and the numbers on both sides of each change in length.
func edgeNumbers() []int {
	list := []int{0, 1, 2, 126, 300, impl.MaxNum - 1, impl.MaxNum}
	for bits := 7; bits < 62; bits += 7 {
		list = append(list, 1<<bits-1, 1<<bits, 1<<bits+1)
	}
	return list
}

// numberOf tells by another program than the project's what GetInt should answer at the beginning of b.
func numberOf(b []byte) (int, int, int) {
	v, size := binary.Uvarint(b)
	if size <= 0 || v > impl.MaxNum || size != len(binary.AppendUvarint(nil, v)) {
		return 0, 0, impl.ErrForm
	}
	return int(v), size, impl.OK
}

func TestP2NumbersComeBack(t *testing.T) {
	for _, v := range edgeNumbers() {
		b, code := impl.PutInt(v)
		if code != impl.OK || !bytes.Equal(b, binary.AppendUvarint(nil, uint64(v))) {
			t.Errorf("PutInt(%d): %v, code %d", v, b, code)
		}
		within := append(append([]byte{7, 200, 128}, b...), 255, 0)
		got, next, code := impl.GetInt(within, 3)
		if got != v || next != 3+len(b) || code != impl.OK {
			t.Errorf("GetInt of %d: %d, place %d, code %d", v, got, next, code)
		}
	}
	for v := range 70000 {
		b, _ := impl.PutInt(v)
		if got, next, code := impl.GetInt(b, 0); got != v || next != len(b) || code != impl.OK {
			t.Fatalf("%d came back as %d, place %d, code %d", v, got, next, code)
		}
	}
}

func TestP2NumbersInBytes(t *testing.T) {
	for _, c := range []struct {
		v    int
		want []byte
	}{
		{0, []byte{0}},
		{127, []byte{127}},
		{128, []byte{128, 1}},
		{16383, []byte{255, 127}},
		{16384, []byte{128, 128, 1}},
		{impl.MaxNum, []byte{255, 255, 255, 255, 255, 255, 255, 255, 63}},
	} {
		if b, code := impl.PutInt(c.v); code != impl.OK || !bytes.Equal(b, c.want) {
			t.Errorf("PutInt(%d): %v, code %d", c.v, b, code)
		}
	}
}

func TestP2NumbersOutOfBounds(t *testing.T) {
	for _, v := range []int{-1, -2, -128, math.MinInt, impl.MaxNum + 1, impl.MaxNum + 2, math.MaxInt} {
		b, code := impl.PutInt(v)
		wantCode(t, "PutInt", code, impl.ErrRange)
		zeroWithCode(t, b, code)
	}
}

func checkGetInt(t *testing.T, b []byte, at, want int) {
	t.Helper()
	v, next, code := impl.GetInt(b, at)
	if v != 0 || next != 0 || code != want {
		t.Errorf("GetInt at %d of %d bytes: %d, place %d, code %d, want code %d", at, len(b), v, next, code, want)
	}
}

func TestP2NumberPlaces(t *testing.T) {
	b := []byte{1, 128, 1, 5}
	for _, at := range []int{-1, -4, math.MinInt, len(b) + 1, len(b) + 2, math.MaxInt} {
		checkGetInt(t, b, at, impl.ErrBad)
	}
	checkGetInt(t, b, len(b), impl.ErrForm)
	checkGetInt(t, nil, 0, impl.ErrForm)
	checkGetInt(t, nil, 1, impl.ErrBad)
	checkGetInt(t, nil, -1, impl.ErrBad)
	for at, want := range map[int][2]int{0: {1, 1}, 1: {128, 3}, 2: {1, 3}, 3: {5, 4}} {
		if v, next, code := impl.GetInt(b, at); v != want[0] || next != want[1] || code != impl.OK {
			t.Errorf("at %d: %d, place %d, code %d", at, v, next, code)
		}
	}
}

func TestP2NumberForms(t *testing.T) {
	for _, b := range [][]byte{
		{128}, {255}, {255, 255, 255},
		{255, 255, 255, 255, 255, 255, 255, 255},
		{128, 0}, {255, 0}, {128, 128, 0}, {129, 128, 128, 0},
		{255, 255, 255, 255, 255, 255, 255, 255, 64},
		{128, 128, 128, 128, 128, 128, 128, 128, 64},
		{255, 255, 255, 255, 255, 255, 255, 255, 127},
		{255, 255, 255, 255, 255, 255, 255, 255, 191, 0},
		{255, 255, 255, 255, 255, 255, 255, 255, 255, 0},
		{255, 255, 255, 255, 255, 255, 255, 255, 255, 1},
		{128, 128, 128, 128, 128, 128, 128, 128, 128, 1},
		{129, 128, 128, 128, 128, 128, 128, 128, 128, 2},
		bytes.Repeat([]byte{128}, 20), bytes.Repeat([]byte{255}, 20),
		append(bytes.Repeat([]byte{128}, 20), 1),
	} {
		checkGetInt(t, b, 0, impl.ErrForm)
		checkGetInt(t, append([]byte{3}, b...), 1, impl.ErrForm)
	}
}

func TestP2NoOtherNumberBytes(t *testing.T) {
	check := func(b []byte) {
		v, next, code := impl.GetInt(b, 0)
		wantV, wantNext, want := numberOf(b)
		if v != wantV || next != wantNext || code != want {
			t.Errorf("%v: %d, place %d, code %d; want %d, %d, %d", b, v, next, code, wantV, wantNext, want)
		}
	}
	for first := range 256 {
		for second := range 256 {
			check([]byte{byte(first), byte(second)})
			check([]byte{byte(first), 128, byte(second)})
		}
	}
	// All lengths about that of MaxNum, with each last byte.
	for size := range 12 {
		for last := range 256 {
			check(append(bytes.Repeat([]byte{128}, size), byte(last)))
			check(append(bytes.Repeat([]byte{255}, size), byte(last)))
		}
	}
}

func TestP1NumberLimits(t *testing.T) {
	b := noughts(impl.MaxBytes)
	b[impl.MaxBytes-1] = 9
	if v, next, code := impl.GetInt(b, impl.MaxBytes-1); v != 9 || next != impl.MaxBytes || code != impl.OK {
		t.Errorf("%d, place %d, code %d", v, next, code)
	}
	checkGetInt(t, b, impl.MaxBytes, impl.ErrForm)
	checkGetInt(t, b, impl.MaxBytes+1, impl.ErrBad)
	long := noughts(impl.MaxBytes + 1)
	for _, at := range []int{0, -1, impl.MaxBytes + 1, impl.MaxBytes + 2, math.MinInt} {
		checkGetInt(t, long, at, impl.ErrLong)
	}
	checkGetInt(t, bytes.Repeat([]byte{128}, impl.MaxBytes), 0, impl.ErrForm)
}
