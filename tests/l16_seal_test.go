package tests

import (
	"bytes"
	"math"
	"math/rand"
	"slices"
	"strings"
	"testing"

	"loop.example/g00028/impl"
)

func someKey() []byte { return []byte{0, 255, 1, 128, 'k', 0, 7, 200} }

// sealNumbers are numbers that are good, also such as do not fit into four bytes.
func sealNumbers() []int {
	return []int{0, 1, 2, 7, 255, 256, 1 << 16, 1<<24 + 3, math.MaxInt32, 1<<32 - 1, 1 << 32, 1<<32 + 1, 1<<33 + 5, 1 << 39, impl.MaxTime - 1, impl.MaxTime}
}

func wrongNumbers() []int {
	return []int{math.MinInt, -1 << 40, -2, -1, impl.MaxTime + 1, impl.MaxTime + 2, 1 << 40, 1 << 56, math.MaxInt - 1, math.MaxInt}
}

func wrongKeys() [][]byte {
	return [][]byte{nil, {}, someKey()[:1], someKey()[:7], append(someKey(), 0), append(someKey(), someKey()...), noughts(64), noughts(65), noughts(impl.MaxBytes + 1)}
}

// sealTexts are of all lengths near those of a block, and of odd bytes.
func sealTexts() []string {
	list := []string{"hi", "\x00", "\xff", "\x00\x00\x00\x00\x00\x00\x00\x00", strings.Repeat("\x00", 200), strings.Repeat("\xff\xfe\x80", 60), "a\nb=%\x00", "äöü€😀", "\xc3\x28\xed\xa0\x80"}
	for _, n := range []int{0, 1, 6, 7, 8, 9, 15, 16, 17, 31, 32, 33, 64, 127, 128, 192, 199, 200} {
		list = append(list, letters(n), string(someBytes(n)))
	}
	return list
}

func TestP18SealsWrittenDown(t *testing.T) {
	for _, c := range []struct {
		key  string
		n    int
		text string
		want string
	}{
		{"12345678", 0, "", "\xaa\x33\xe1\x85\xdb\x38\xf3\x64"},
		{"12345678", 5, "", "\x71\x75\x58\x6e\xaa\x0d\x3c\x8e"},
		{"12345678", 5, "hi", "\x48\x23\x76\xf5\x60\xf3\xc0\xa2\x08\x3b"},
		{"k\x00\xff\x80key!", 1000000000000, "\x00more than eight\xff", "\x2d\x64\x62\x04\x87\x82\xd4\xbd\xc3\x60\x72\x18\xd5\x9a\xfb\xbe\x63\xab\x1f\x13\xc9\x72\x2e\x2d\x0d"},
		{"\x00\x00\x00\x00\x00\x00\x00\x00", 1 << 32, "12345678", "\x38\xdd\x96\xf6\x63\x9f\xe9\x25\x85\xb4\x80\x09\xce\x00\x04\xeb"},
		{"\xff\xff\xff\xff\xff\xff\xff\xff", 1<<33 + 5, "123456789", "\x08\x44\x69\xa4\xd8\x97\xfc\xe9\xe7\x34\x80\xd5\xc4\xbd\x24\xe4\xbf"},
	} {
		got := checkSeal(t, "written down", []byte(c.key), c.n, c.text)
		if string(got) != c.want {
			t.Errorf("%q %d %q: %q, want %q", c.key, c.n, c.text, got, c.want)
		}
	}
}

func TestP18SealsComeBack(t *testing.T) {
	for _, key := range [][]byte{someKey(), noughts(8), bytes.Repeat([]byte{255}, 8), []byte("12345678")} {
		for _, n := range sealNumbers() {
			for _, text := range sealTexts() {
				if b := checkSeal(t, "good", key, n, text); len(b) != len(text)+8 {
					t.Errorf("%d bytes of %d", len(b), len(text))
				}
			}
		}
	}
}

// Unlike numbers and keys give unlike streams, each block its own.
func TestP18StreamsAreUnlike(t *testing.T) {
	seen := map[string]bool{}
	count := 0
	add := func(key []byte, n int) {
		b, _ := impl.SealText(key, n, strings.Repeat("\x00", 200))
		for at := 0; at < 200; at += 8 {
			seen[string(b[at:at+8])] = true
			count++
		}
	}
	for _, n := range sealNumbers() {
		add(someKey(), n)
	}
	for i := range 8 {
		key := someKey()
		key[i]++
		add(key, 3)
	}
	if len(seen) != count {
		t.Errorf("%d unlike blocks of %d", len(seen), count)
	}
}

func TestP18SealRanges(t *testing.T) {
	long := []string{letters(201), letters(202), letters(4097), letters(impl.MaxBytes + 1)}
	for _, key := range append(wrongKeys(), someKey()) {
		for _, n := range append(wrongNumbers(), 0, impl.MaxTime) {
			for _, text := range append([]string{"", "x", letters(200)}, long...) {
				if len(key) == 8 && n >= 0 && n <= impl.MaxTime && len(text) <= 200 {
					checkSeal(t, "good", key, n, text)
					continue
				}
				got, code := impl.SealText(key, n, text)
				if code != impl.ErrRange || len(got) > 0 {
					t.Errorf("a key of %d bytes, %d, a text of %d bytes: %v, code %d", len(key), n, len(text), got, code)
				}
			}
		}
	}
}

// sealedPieces are bytes that OpenText takes for well formed, and such that it does not.
func sealedPieces() (good, wrong [][]byte) {
	good = [][]byte{noughts(8), noughts(9), noughts(16), noughts(207), noughts(208)}
	wrong = [][]byte{nil, {}, noughts(1), noughts(7), noughts(209), noughts(210), noughts(4097), noughts(impl.MaxBytes), noughts(impl.MaxBytes + 1)}
	return good, wrong
}

func TestP18OpenCodesInTurn(t *testing.T) {
	good, wrong := sealedPieces()
	for _, n := range []int{0, 5, impl.MaxTime} {
		for _, sealed := range good {
			checkNotOpened(t, "a sum", someKey(), n, sealed, impl.ErrSum)
		}
		for _, sealed := range wrong {
			checkNotOpened(t, "a form", someKey(), n, sealed, impl.ErrForm)
		}
		for _, key := range wrongKeys() {
			for _, sealed := range append(good, wrong...) {
				checkNotOpened(t, "a key", key, n, sealed, impl.ErrRange)
			}
		}
	}
	for _, n := range wrongNumbers() {
		for _, sealed := range append(good, wrong...) {
			checkNotOpened(t, "a number", someKey(), n, sealed, impl.ErrRange)
			checkNotOpened(t, "a number and a key", someKey()[:7], n, sealed, impl.ErrRange)
		}
	}
	// What is too long has the right sum for its length, and is not well formed all the same.
	body := noughts(201)
	checkNotOpened(t, "201 bytes", someKey(), 5, append(body, sealBehind(someKey(), 5, body)...), impl.ErrForm)
	checkNotOpened(t, "200 bytes", someKey(), 5, append(body[:200:200], sealBehind(someKey(), 5, body[:200])...), impl.OK)
	checkNotOpened(t, "no byte", someKey(), 5, sealBehind(someKey(), 5, nil), impl.OK)
	checkNotOpened(t, "no byte and half a sum", someKey(), 5, sealBehind(someKey(), 5, nil)[:7], impl.ErrForm)
}

// Each byte is turned, by one bit and by all: it is told.
func TestP18TurnedBytesAreTold(t *testing.T) {
	for _, text := range []string{"", "x", letters(7), letters(8), letters(9), "\x00\xff", letters(200)} {
		for _, n := range []int{0, 1, 1 << 35} {
			sealed := checkSeal(t, "good", someKey(), n, text)
			for at := range sealed {
				for _, with := range []byte{1, 2, 4, 8, 16, 32, 64, 128, 255} {
					turned := slices.Clone(sealed)
					turned[at] ^= with
					checkNotOpened(t, "turned", someKey(), n, turned, impl.ErrSum)
				}
			}
		}
	}
}

func TestP18OtherKeysAndNumbersAreTold(t *testing.T) {
	for _, text := range []string{"", "x", letters(8), "\x00\xff\x80", letters(200)} {
		for _, n := range []int{0, 5, 1 << 33, impl.MaxTime} {
			sealed := checkSeal(t, "good", someKey(), n, text)
			for _, other := range sealNumbers() {
				if other != n {
					checkNotOpened(t, "another number", someKey(), other, sealed, impl.ErrSum)
				}
			}
			for at := range 8 {
				for bit := range 8 {
					key := someKey()
					key[at] ^= 1 << bit
					checkNotOpened(t, "another key", key, n, sealed, impl.ErrSum)
				}
			}
			checkNotOpened(t, "another key", slices.Repeat([]byte{9}, 8), n, sealed, impl.ErrSum)
		}
	}
}

// What is cut, lengthened, or laid together of two is told.
func TestP18SealsThatWereCut(t *testing.T) {
	first := checkSeal(t, "good", someKey(), 5, "the first text of all")
	second := checkSeal(t, "good", someKey(), 5, "another text than this")
	for size := range len(first) {
		want := impl.ErrSum
		if size < 8 {
			want = impl.ErrForm
		}
		checkNotOpened(t, "cut behind", someKey(), 5, first[:size], want)
		checkNotOpened(t, "cut ahead", someKey(), 5, first[len(first)-size:], want)
	}
	for at := range len(first) + 1 {
		checkNotOpened(t, "a byte more", someKey(), 5, slices.Insert(slices.Clone(first), at, 0), impl.ErrSum)
	}
	size := len(first) - 8
	checkNotOpened(t, "the seal of another", someKey(), 5, slices.Concat(first[:size], second[len(second)-8:]), impl.ErrSum)
	checkNotOpened(t, "the body of another", someKey(), 5, slices.Concat(second[:len(second)-8], first[size:]), impl.ErrSum)
	checkNotOpened(t, "twice", someKey(), 5, slices.Concat(first, first), impl.ErrSum)
	checkNotOpened(t, "changed over", someKey(), 5, slices.Concat(first[size:], first[:size]), impl.ErrSum)
	swapped := slices.Clone(first)
	swapped[0], swapped[1] = swapped[1], swapped[0]
	checkNotOpened(t, "two bytes changed over", someKey(), 5, swapped, impl.ErrSum)
}

// Any bytes whose sum fits are a sealed text, and of what is opened just these bytes are made again.
func TestP18OpenedComesFromItsBytes(t *testing.T) {
	random := rand.New(rand.NewSource(159))
	opened := 0
	for range 3000 {
		key, body := make([]byte, 8), make([]byte, random.Intn(201))
		random.Read(key)
		random.Read(body)
		n := random.Intn(impl.MaxTime + 1)
		sealed := slices.Concat(body, sealBehind(key, n, body))
		if random.Intn(4) == 0 {
			sealed[random.Intn(len(sealed))] += byte(1 + random.Intn(255))
		}
		checkOpen(t, "any", key, n, sealed)
		text, code := impl.OpenText(key, n, sealed)
		if code != impl.OK {
			continue
		}
		opened++
		if again, _ := impl.SealText(key, n, text); !bytes.Equal(again, sealed) {
			t.Errorf("%q is sealed as %v, was %v", text, again, sealed)
		}
	}
	if opened < 2000 || opened == 3000 {
		t.Errorf("%d opened", opened)
	}
}
