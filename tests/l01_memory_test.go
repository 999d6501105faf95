package tests

import (
	"bytes"
	"math"
	"slices"
	"testing"

	"loop.example/g00028/impl"
)

// Lists of bytes that are taken, that are refused, and that are cut off, for all that reads bytes.
func manyBytes() [][]byte {
	return [][]byte{
		nil, {}, {0}, {5}, {128}, {128, 0}, {255, 255, 255, 255, 255, 255, 255, 255, 63},
		{4, 0, 2, 'a', 'b', 2, 1, 'c', 0, 0, 0, 1, 'b'}, {2, 0, 1, 'a', 1, 0}, {1, 0, 2, 'a'}, {2, 0, 1, 'a', 0, 1, 'a'},
		{7, 5, 3, 2, 7, 3, 5, 9, 1}, {1, 5, 1}, {2, 5, 2, 2}, {2, 5, 1, 6, 1}, {1, 5, 0},
		bytes.Repeat([]byte{255}, 100), noughts(impl.MaxBytes), noughts(impl.MaxBytes + 1),
	}
}

func TestP1ArgumentsOfReadersStay(t *testing.T) {
	for _, list := range manyBytes() {
		b, check := watched(t, list, 1)
		for _, at := range []int{math.MinInt, -1, 0, 1, len(b) - 1, len(b), len(b) + 1, math.MaxInt} {
			impl.GetInt(b, at)
		}
		impl.GetTexts(b)
		impl.GetRuns(b)
		impl.Sum32(b)
		check()
	}
}

// A reader sees nothing behind the end of its bytes, though the memory goes on there.
func TestP1NothingIsReadBehindTheEnd(t *testing.T) {
	whole := []byte{2, 0, 1, 'a', 1, 1, 'b'}
	for end := range len(whole) {
		checkNoTexts(t, whole[:end], impl.ErrForm)
	}
	runs := []byte{3, 5, 2, 2, 9, 1}
	for end := range len(runs) {
		checkNoRuns(t, runs[:end], impl.ErrForm)
	}
	checkGetInt(t, []byte{128, 1}[:1], 0, impl.ErrForm)
}

func TestP1ArgumentsOfWritersStay(t *testing.T) {
	for _, texts := range [][]string{nil, {}, {""}, {"ab", "abc", "", "b"}, {letters(impl.MaxBytes + 1)}, make([]string, impl.MaxList+1)} {
		list, check := watched(t, texts, "behind")
		impl.PutTexts(list)
		check()
	}
	for _, numbers := range [][]int{nil, {}, {0}, {5, 6, 7, 7, 4, 1, 9}, {1, -1}, {math.MaxInt}, make([]int, impl.MaxList+1)} {
		list, check := watched(t, numbers, 77)
		impl.PutRuns(list)
		check()
	}
}

func TestP1ArgumentsOfKeySumStay(t *testing.T) {
	for _, size := range []int{0, 1, 8, 64, 65} {
		for _, n := range []int{0, 1, 100, impl.MaxBytes - 8, impl.MaxBytes, impl.MaxBytes + 1} {
			key, checkKey := watched(t, someBytes(size), 99)
			b, check := watched(t, someBytes(n), 98)
			impl.KeySum(key, b)
			checkKey()
			check()
		}
	}
	// One piece of memory may be both.
	both, check := watched(t, someBytes(20), 97)
	if got, code := impl.KeySum(both[:8], both[4:]); code != impl.OK || !bytes.Equal(got, keySumOf(both[:8], both[4:])) {
		t.Errorf("%v, code %d", got, code)
	}
	check()
}

func TestP1AnswersOfWritersAreNew(t *testing.T) {
	for _, v := range edgeNumbers() {
		first, _ := impl.PutInt(v)
		kept := slices.Clone(first)
		scribble(first, 201)
		if again, _ := impl.PutInt(v); !bytes.Equal(again, kept) {
			t.Errorf("PutInt(%d) hangs on an earlier answer", v)
		}
	}
	texts, checkTexts := watched(t, []string{"ab", "abc", "b"}, "behind")
	numbers, checkNumbers := watched(t, []int{5, 6, 7, 7, 4}, 77)
	key, checkKey := watched(t, []byte("key"), 99)
	for name, put := range map[string]func() ([]byte, int){
		"PutTexts": func() ([]byte, int) { return impl.PutTexts(texts) },
		"PutRuns":  func() ([]byte, int) { return impl.PutRuns(numbers) },
		"KeySum":   func() ([]byte, int) { return impl.KeySum(key, key) },
	} {
		first, _ := put()
		kept := slices.Clone(first)
		scribble(first, 201)
		if again, code := put(); code != impl.OK || !bytes.Equal(again, kept) {
			t.Errorf("%s hangs on an earlier answer", name)
		}
	}
	checkTexts()
	checkNumbers()
	checkKey()
}

func TestP1AnswersOfReadersAreNew(t *testing.T) {
	b, check := watched(t, []byte{3, 0, 2, 'a', 'b', 2, 1, 'c', 3, 0}, 99)
	texts, _ := impl.GetTexts(b)
	want := []string{"ab", "abc", "abc"}
	scribble(texts, "over")
	check()
	if texts, code := impl.GetTexts(b); code != impl.OK || !slices.Equal(texts, want) {
		t.Errorf("GetTexts hangs on an earlier answer: %q, code %d", texts, code)
	}
	texts, _ = impl.GetTexts(b)
	scribble(b, 7)
	if !slices.Equal(texts, want) {
		t.Errorf("texts share memory with the bytes: %q", texts)
	}

	b, check = watched(t, []byte{3, 5, 2, 2, 9, 1}, 99)
	numbers, _ := impl.GetRuns(b)
	scribble(numbers, -1)
	check()
	if numbers, code := impl.GetRuns(b); code != impl.OK || !slices.Equal(numbers, []int{5, 6, 9}) {
		t.Errorf("GetRuns hangs on an earlier answer: %v, code %d", numbers, code)
	}
}

// An empty list and nil are the same value.
func TestP1EmptyIsNil(t *testing.T) {
	for _, b := range [][]byte{nil, {}} {
		checkGetInt(t, b, 0, impl.ErrForm)
		checkNoTexts(t, b, impl.ErrForm)
		checkNoRuns(t, b, impl.ErrForm)
		checkNoKeySum(t, b, b, impl.ErrRange)
		checkKeySum(t, []byte{1}, b)
	}
	for _, texts := range [][]string{nil, {}} {
		checkTexts(t, texts)
	}
	for _, numbers := range [][]int{nil, {}} {
		checkRuns(t, numbers)
	}
}

// No panic and an end, for bytes of all kinds at all places.
func TestP1ReadersTakeAnyBytes(t *testing.T) {
	everyList([]byte{0, 1, 2, 63, 64, 127, 128, 255}, 5, func(b []byte) {
		for at := -1; at <= len(b)+1; at++ {
			if v, next, code := impl.GetInt(b, at); code != impl.OK && (v != 0 || next != 0) {
				t.Errorf("GetInt of %v at %d: %d, %d, code %d", b, at, v, next, code)
			}
		}
		texts, code := impl.GetTexts(b)
		zeroWithCode(t, texts, code)
		numbers, code := impl.GetRuns(b)
		zeroWithCode(t, numbers, code)
	})
}
