package tests

import (
	"bytes"
	"encoding/binary"
	"math/rand"
	"slices"
	"strings"
	"testing"

	"loop.example/g00028/impl"
)

// textBytes writes texts as the document says, by another program than the project's.
func textBytes(list []string) []byte {
	out := binary.AppendUvarint(nil, uint64(len(list)))
	for i, text := range list {
		shared := 0
		if i > 0 {
			most := min(len(list[i-1]), len(text))
			for shared < most && list[i-1][shared] == text[shared] {
				shared++
			}
		}
		out = binary.AppendUvarint(out, uint64(shared))
		out = binary.AppendUvarint(out, uint64(len(text)-shared))
		out = append(out, text[shared:]...)
	}
	return out
}

func checkTexts(t *testing.T, list []string) {
	t.Helper()
	b, code := impl.PutTexts(list)
	if code != impl.OK || !bytes.Equal(b, textBytes(list)) {
		t.Fatalf("PutTexts of %d texts: %d bytes, code %d", len(list), len(b), code)
	}
	got, code := impl.GetTexts(b)
	if code != impl.OK || !slices.Equal(got, list) {
		t.Fatalf("%d texts came back as %d, code %d", len(list), len(got), code)
	}
}

func checkNoTexts(t *testing.T, b []byte, want int) {
	t.Helper()
	list, code := impl.GetTexts(b)
	if code != want || len(list) != 0 {
		t.Errorf("GetTexts of %.20v (%d bytes): %d texts, code %d, want code %d", b, len(b), len(list), code, want)
	}
}

func TestP2TextsComeBack(t *testing.T) {
	for _, list := range [][]string{
		nil, {}, {""}, {"", ""}, {"", "a", ""},
		{"a"}, {"a", "a"}, {"a", "ab", "abc"}, {"abc", "ab", "a", ""},
		{"abc", "abd"}, {"abc", "xbc"}, {"abc", "abc", "abcabc"},
		{"\x00", "\x00\x00"}, {"\xff\x80", "\xff"}, {"b", "a"}, {"é", "è"},
		{letters(127), letters(128), letters(127)}, {letters(20000), letters(20001)},
	} {
		checkTexts(t, list)
	}
	everyList([]string{"", "a", "ab", "b", "ba", "aba"}, 4, func(list []string) { checkTexts(t, list) })
}

func TestP2TextsInBytes(t *testing.T) {
	for _, c := range []struct {
		list []string
		want []byte
	}{
		{nil, []byte{0}},
		{[]string{""}, []byte{1, 0, 0}},
		{[]string{"ab", "ab"}, []byte{2, 0, 2, 'a', 'b', 2, 0}},
		{[]string{"ab", "a"}, []byte{2, 0, 2, 'a', 'b', 1, 0}},
		{[]string{"ab", "ac"}, []byte{2, 0, 2, 'a', 'b', 1, 1, 'c'}},
		{[]string{"", "ac"}, []byte{2, 0, 0, 0, 2, 'a', 'c'}},
	} {
		if b, code := impl.PutTexts(c.list); code != impl.OK || !bytes.Equal(b, c.want) {
			t.Errorf("PutTexts(%q): %v, code %d", c.list, b, code)
		}
	}
}

func TestP2TextForms(t *testing.T) {
	for _, b := range [][]byte{
		{}, {128}, {1}, {1, 0}, {1, 0, 1}, {1, 0, 2, 'a'}, {2, 0, 1, 'a'}, {2, 0, 1, 'a', 1},
		{0, 0}, {1, 0, 0, 0}, {1, 0, 1, 'a', 'b'},
		{1, 1, 0}, {1, 1, 1, 'a'}, {2, 0, 1, 'a', 2, 0}, {2, 0, 1, 'a', 2, 1, 'b'}, {2, 0, 0, 1, 0},
		{2, 0, 1, 'a', 0, 1, 'a'}, {2, 0, 2, 'a', 'b', 1, 1, 'b'}, {2, 0, 2, 'a', 'b', 0, 1, 'a'},
		{2, 0, 2, 'a', 'b', 0, 3, 'a', 'b', 'c'},
		{128, 0}, {129, 0, 0, 0}, {1, 128, 0, 0}, {1, 0, 128, 0}, {1, 0, 129, 0, 'a'},
		{1, 0, 255, 255, 255, 255, 255, 255, 255, 255, 63},
		{1, 255, 255, 255, 255, 255, 255, 255, 255, 63, 0},
		{255, 255, 255, 255, 255, 255, 255, 255, 63},
	} {
		checkNoTexts(t, b, impl.ErrForm)
	}
}

// Whatever is taken must be what PutTexts writes; that all it writes is taken, TestP2TextsComeBack says.
func TestP2NoOtherTextBytes(t *testing.T) {
	taken := 0
	everyList([]byte{0, 1, 2, 'a', 128}, 8, func(b []byte) {
		list, code := impl.GetTexts(b)
		if code == impl.OK {
			taken++
			if !bytes.Equal(textBytes(list), b) {
				t.Errorf("%v was taken as %q", b, list)
			}
		} else if code != impl.ErrForm || len(list) != 0 {
			t.Errorf("%v: %q, code %d", b, list, code)
		}
	})
	if taken < 100 {
		t.Errorf("only %d were taken", taken)
	}
}

func TestP2ChangedTextBytes(t *testing.T) {
	random := rand.New(rand.NewSource(1))
	for range 3000 {
		list := make([]string, random.Intn(6))
		for i := range list {
			list[i] = strings.Repeat("ab", random.Intn(4)) + string(rune('a'+random.Intn(3)))
		}
		checkTexts(t, list)
		b := textBytes(list)
		b[random.Intn(len(b))] = byte(random.Intn(5))
		if got, code := impl.GetTexts(b); code == impl.OK && !bytes.Equal(textBytes(got), b) {
			t.Errorf("%v was taken as %q", b, got)
		}
		cut := textBytes(list)
		checkNoTexts(t, cut[:random.Intn(len(cut))], impl.ErrForm)
	}
}

func refuseTexts(t *testing.T, list []string) {
	t.Helper()
	b, code := impl.PutTexts(list)
	wantCode(t, "PutTexts", code, impl.ErrLong)
	zeroWithCode(t, b, code)
}

func TestP1TextsMaxList(t *testing.T) {
	full := make([]string, impl.MaxList)
	checkTexts(t, full)
	for i := range full {
		full[i] = letters(i % 250)
	}
	checkTexts(t, full)
	refuseTexts(t, append(full, ""))
	refuseTexts(t, make([]string, impl.MaxList+1))
	checkNoTexts(t, textBytes(make([]string, impl.MaxList+1)), impl.ErrForm)
}

func TestP1TextsMaxBytesWritten(t *testing.T) {
	// Five bytes stand ahead of the letters: how many texts, what is shared, and three of how many follow.
	just := letters(impl.MaxBytes - 5)
	if size := len(textBytes([]string{just})); size != impl.MaxBytes {
		t.Fatalf("the test has %d bytes", size)
	}
	checkTexts(t, []string{just})
	refuseTexts(t, []string{just + "x"})
	refuseTexts(t, []string{letters(impl.MaxBytes)})
	checkNoTexts(t, textBytes([]string{just + "x"}), impl.ErrLong)
	checkNoTexts(t, noughts(impl.MaxBytes), impl.ErrForm)
	checkNoTexts(t, noughts(impl.MaxBytes+1), impl.ErrLong)
}

func TestP1TextsMaxBytesTogether(t *testing.T) {
	// The second text is all shared, so that the bytes are half as many as the letters.
	half := letters(impl.MaxBytes / 2)
	checkTexts(t, []string{half, half})
	refuseTexts(t, []string{half, half, "x"})
	refuseTexts(t, []string{half, half + "x"})
	refuseTexts(t, []string{letters(impl.MaxBytes + 1)})
	refuseTexts(t, slices.Repeat([]string{half}, impl.MaxList))
	checkTexts(t, []string{half, half, ""})

	checkNoTexts(t, textBytes([]string{half, half, "x"}), impl.ErrForm)
	checkNoTexts(t, textBytes([]string{half, half + "x"}), impl.ErrForm)
	checkNoTexts(t, textBytes(slices.Repeat([]string{half}, 64)), impl.ErrForm)
}
