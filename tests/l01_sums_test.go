package tests

import (
	"bytes"
	"encoding/binary"
	"hash/fnv"
	"testing"

	"loop.example/g00028/impl"
)

// sumOf is the sum of the pieces one behind the other, by another program than the project's.
func sumOf(pieces ...[]byte) uint32 {
	h := fnv.New32a()
	for _, p := range pieces {
		h.Write(p)
	}
	return h.Sum32()
}

func keySumOf(key, b []byte) []byte {
	x := binary.BigEndian.AppendUint32(nil, sumOf(key, b, key))
	return binary.BigEndian.AppendUint32(x, sumOf(x, key, b))
}

func someBytes(n int) []byte {
	b := make([]byte, n)
	for i := range b {
		b[i] = byte(i*31 + i>>8 + 7)
	}
	return b
}

func TestP2Sums(t *testing.T) {
	if got := impl.Sum32(nil); got != 2166136261 {
		t.Errorf("of no byte: %d", got)
	}
	if got := impl.Sum32([]byte{}); got != 2166136261 {
		t.Errorf("of no byte: %d", got)
	}
	for _, n := range []int{1, 2, 3, 64, 255, 1000, impl.MaxBytes - 1, impl.MaxBytes} {
		b := someBytes(n)
		if got := impl.Sum32(b); got != int(sumOf(b)) {
			t.Errorf("of %d bytes: %d", n, got)
		}
	}
	for x := range 256 {
		b := []byte{byte(x)}
		if got := impl.Sum32(b); got != int(sumOf(b)) || got < 0 || got >= 1<<32 {
			t.Errorf("of byte %d: %d", x, got)
		}
	}
}

func TestP1SumsMaxBytes(t *testing.T) {
	for _, n := range []int{impl.MaxBytes + 1, impl.MaxBytes + 2, 3 * impl.MaxBytes} {
		if got := impl.Sum32(someBytes(n)); got != 0 {
			t.Errorf("of %d bytes: %d", n, got)
		}
	}
}

func checkKeySum(t *testing.T, key, b []byte) {
	t.Helper()
	got, code := impl.KeySum(key, b)
	if code != impl.OK || !bytes.Equal(got, keySumOf(key, b)) {
		t.Errorf("key of %d bytes, %d bytes: %v, code %d", len(key), len(b), got, code)
	}
}

func checkNoKeySum(t *testing.T, key, b []byte, want int) {
	t.Helper()
	got, code := impl.KeySum(key, b)
	if code != want || len(got) != 0 {
		t.Errorf("key of %d bytes, %d bytes: %v, code %d, want code %d", len(key), len(b), got, code, want)
	}
}

func TestP2KeySums(t *testing.T) {
	for size := 1; size <= 64; size++ {
		for _, n := range []int{0, 1, 8, 1000} {
			checkKeySum(t, someBytes(size), someBytes(n))
		}
	}
	if got, code := impl.KeySum([]byte("k"), []byte("b")); code != impl.OK || !bytes.Equal(got, keySumOf([]byte("k"), []byte("b"))) {
		t.Errorf("%v, code %d", got, code)
	}
	// Where the key ends and the bytes begin is told by the sum.
	one, _ := impl.KeySum([]byte("ab"), []byte("c"))
	two, _ := impl.KeySum([]byte("a"), []byte("bc"))
	if bytes.Equal(one, two) {
		t.Error("the key's end is not told")
	}
}

func TestP2KeySizes(t *testing.T) {
	for _, size := range []int{0, 65, 66, 1000, impl.MaxBytes, impl.MaxBytes + 1} {
		for _, n := range []int{0, 1, impl.MaxBytes} {
			checkNoKeySum(t, someBytes(size), someBytes(n), impl.ErrRange)
		}
		// The bytes have the general limit alone, and that one goes ahead.
		checkNoKeySum(t, someBytes(size), someBytes(impl.MaxBytes+1), impl.ErrLong)
	}
	checkNoKeySum(t, nil, nil, impl.ErrRange)
}

func TestP1KeySumTooLongTogether(t *testing.T) {
	for _, size := range []int{1, 2, 3, 4, 5, 8, 63, 64} {
		key := someBytes(size)
		// Both what x and what y is the sum of must fit: a short key's four bytes of x are the longer ones.
		most := impl.MaxBytes - size - max(size, 4)
		checkKeySum(t, key, someBytes(most))
		for _, n := range []int{most + 1, most + 2, impl.MaxBytes, impl.MaxBytes + 1} {
			checkNoKeySum(t, key, someBytes(n), impl.ErrLong)
		}
	}
}
