package tests

import (
	"bytes"
	"math"
	"math/rand"
	"slices"
	"sync"
	"testing"

	"loop.example/g00028/impl"
)

// A sealCase is arguments of SealText and OpenText, that fit or not.
type sealCase struct {
	key    []byte
	n      int
	text   string
	sealed []byte
}

func sealCases() []sealCase {
	var cases []sealCase
	good, wrong := sealedPieces()
	for _, key := range append(wrongKeys(), someKey()) {
		for _, n := range []int{-1, 0, 5, impl.MaxTime, impl.MaxTime + 1} {
			for i, text := range []string{"", "hi", letters(8), string(someBytes(200)), letters(201)} {
				b, _ := sealOf(someKey(), 5, text)
				cases = append(cases, sealCase{key, n, text, b}, sealCase{key, n, text, good[i]}, sealCase{key, n, text, wrong[i]})
			}
		}
	}
	return cases
}

func TestP1SealsAreNotWrittenInto(t *testing.T) {
	for _, c := range sealCases() {
		key, checkKey := watched(t, c.key, 77)
		sealed, checkSealed := watched(t, c.sealed, 88)
		checkSeal(t, "watched", key, c.n, c.text)
		checkOpen(t, "watched", key, c.n, sealed)
		checkKey()
		checkSealed()
	}
}

// What lies behind the end of an argument, in the same memory, is not a part of it.
func TestP1SealsBehindTheEnd(t *testing.T) {
	whole, _ := sealOf(someKey(), 5, "a text")
	long := append(someKey(), 1, 2, 3)
	checkSeal(t, "a longer key", long[:8], 5, "a text")
	checkNotOpened(t, "a longer key", long[:8], 5, whole, impl.OK)
	checkNotOpened(t, "a key too short", long[:7], 5, whole, impl.ErrRange)
	for end := range whole {
		want := impl.ErrSum
		if end < 8 {
			want = impl.ErrForm
		}
		checkNotOpened(t, "a beginning", someKey(), 5, whole[:end], want)
	}
	longer := append(slices.Clone(whole), 9, 9, 9)
	checkNotOpened(t, "a beginning", someKey(), 5, longer[:len(whole)], impl.OK)
	// Key and sealed bytes in one memory.
	both := append(someKey(), whole...)
	checkNotOpened(t, "one memory", both[:8], 5, both[8:], impl.OK)
}

func TestP1AnsweredSealsAreNew(t *testing.T) {
	for _, c := range sealCases() {
		key, checkKey := watched(t, c.key, 77)
		first, code := impl.SealText(key, c.n, c.text)
		zeroWithCode(t, first, code)
		kept := slices.Clone(first)
		other, _ := impl.SealText(key, c.n, c.text)
		scribble(first, 99)
		checkKey()
		if again, _ := impl.SealText(key, c.n, c.text); !bytes.Equal(again, kept) || !bytes.Equal(other, kept) {
			t.Errorf("%v and %v, was %v", again, other, kept)
		}
		sealed := slices.Clone(c.sealed)
		text, code := impl.OpenText(key, c.n, sealed)
		scribble(key, 99)
		scribble(sealed, 99)
		if want, _ := openOf(c.key, c.n, c.sealed); text != want || code != impl.OK && text != "" {
			t.Errorf("%q, want %q", text, want)
		}
	}
}

// watchedSteps copies operations into memory that goes on behind their end.
func watchedSteps(t *testing.T, ops []impl.GroupOp) ([]impl.GroupOp, func()) {
	t.Helper()
	return watched(t, ops, impl.GroupOp{Kind: impl.GAdd, Actor: 9, N: 7, Text: "behind"})
}

func groupCases() [][]impl.GroupOp {
	random := rand.New(rand.NewSource(164))
	cases := [][]impl.GroupOp{nil, {}, full(), slices.Repeat([]impl.GroupOp{heals(0), says(0, letters(200))}, 100), make([]impl.GroupOp, 201), make([]impl.GroupOp, 5000)}
	for range 30 {
		cases = append(cases, someRun(random, 1+random.Intn(6), random.Intn(80)))
	}
	return cases
}

func TestP1GroupsAreNotWrittenInto(t *testing.T) {
	for _, c := range groupCases() {
		for _, s := range [][]byte{[]byte("seed"), noughts(64), nil, noughts(65)} {
			seed, checkSeed := watched(t, s, 77)
			ops, checkOps := watchedSteps(t, c)
			want, code := groupOf(s, c)
			checkTold(t, "watched", seed, ops, want, code)
			checkSeed()
			checkOps()
		}
	}
}

func TestP1GroupsBehindTheEnd(t *testing.T) {
	whole := slices.Repeat([]impl.GroupOp{says(0, "x")}, 210)
	seed := someBytes(70)
	for _, end := range []int{0, 1, 199, 200, 201} {
		for _, size := range []int{0, 1, 63, 64, 65} {
			want, code := groupOf(seed[:size], whole[:end])
			checkTold(t, "a beginning", seed[:size], whole[:end], want, code)
		}
	}
	// The secrets go by the seed alone, so that a seed with something behind it makes the same keys.
	ops := []impl.GroupOp{enters(1), says(0, "a"), heals(0), says(1, "b"), leaves(1), robs(1), spies(1), spies(2), reads(0, 2)}
	for size := 1; size <= 64; size++ {
		part, check := watched(t, seed[:size], 0)
		want, code := groupOf(seed[:size], ops)
		checkTold(t, "a part of the seed", part, ops, want, code)
		check()
	}
}

func TestP1AnsweredGroupsAreNew(t *testing.T) {
	for _, c := range groupCases() {
		seed, checkSeed := watched(t, []byte("seed"), 77)
		ops, checkOps := watchedSteps(t, c)
		first, code := impl.GroupRun(seed, ops)
		zeroWithCode(t, first, code)
		kept := slices.Clone(first)
		other, _ := impl.GroupRun(seed, ops)
		scribble(first, impl.GroupObs{Code: -9, Epoch: -9, Id: -9, Text: "written over"})
		checkSeed()
		checkOps()
		checkTold(t, "called again", seed, ops, kept, code)
		scribble(seed, 99)
		scribble(ops, impl.GroupOp{Kind: 99, Text: "written over"})
		if !slices.Equal(other, kept) {
			t.Errorf("%s, was %s", brief(other), brief(kept))
		}
	}
}

// Nothing is kept from call to call, also with many at once.
func TestP1GroupsKeepNothing(t *testing.T) {
	cases := groupCases()
	for range 2 {
		for _, c := range cases {
			checkGroup(t, "behind others", c...)
			checkTold(t, "behind others", []byte("s"), []impl.GroupOp{spies(1), says(0, "x"), spies(1), reads(1, 1)}, []impl.GroupObs{{Code: impl.ErrRange}, {Id: 1}, {Code: impl.ErrDenied}, {Code: impl.ErrDenied}}, impl.OK)
		}
	}
	var all sync.WaitGroup
	for range 4 {
		for _, c := range cases {
			all.Add(1)
			go func() {
				defer all.Done()
				checkGroup(t, "at once", c...)
				checkSeal(t, "at once", someKey(), len(c), letters(len(c)%201))
			}()
		}
	}
	all.Wait()
}

// No panic and an end, and just what the document says, for arguments of all kinds.
func TestP1AnyGroups(t *testing.T) {
	random := rand.New(rand.NewSource(165))
	numbers := []int{math.MinInt, -1, 0, 1, 2, 3, 4, 5, 6, 7, 8, 15, 16, 200, 1 << 32, math.MaxInt}
	n := func() int { return numbers[random.Intn(len(numbers))] }
	texts := []string{"", "x", "\x00", letters(200), letters(201), letters(5000)}
	for range 4000 {
		var ops []impl.GroupOp
		for range random.Intn(30) {
			op := impl.GroupOp{Kind: n(), Actor: n(), N: n(), Text: texts[random.Intn(len(texts))]}
			if random.Intn(2) == 0 {
				op.Kind, op.Actor = 1+random.Intn(7), random.Intn(3)
			}
			ops = append(ops, op)
		}
		seed := someBytes(random.Intn(70))
		want, code := groupOf(seed, ops)
		checkTold(t, "any", seed, ops, want, code)
	}
}

func TestP1AnySeals(t *testing.T) {
	random := rand.New(rand.NewSource(166))
	numbers := append(sealNumbers(), wrongNumbers()...)
	codes := map[int]int{}
	for range 20000 {
		key, sealed := someBytes(7+random.Intn(3)), make([]byte, random.Intn(220))
		random.Read(sealed)
		n := numbers[random.Intn(len(numbers))]
		if b := checkSeal(t, "any", key, n, string(sealed)); len(b) > 0 && random.Intn(2) == 0 {
			sealed = b
		}
		codes[checkOpen(t, "any", key, n, sealed)]++
	}
	for _, code := range []int{impl.OK, impl.ErrRange, impl.ErrForm, impl.ErrSum} {
		if codes[code] < 100 {
			t.Errorf("code %d came %d times", code, codes[code])
		}
	}
}

// What is far too long is told at once.
func TestP1HugeGroups(t *testing.T) {
	checkTold(t, "huge", []byte("s"), make([]impl.GroupOp, 1<<20), nil, impl.ErrMany)
	checkTold(t, "a huge seed", make([]byte, 1<<24), nil, nil, impl.ErrRange)
	for _, n := range []int{impl.MaxBytes, impl.MaxBytes + 1, 1 << 24} {
		checkNotOpened(t, "a huge key", noughts(n), 0, noughts(8), impl.ErrRange)
		checkNotOpened(t, "huge bytes", someKey(), 0, noughts(n), impl.ErrForm)
		checkNotOpened(t, "a huge key and huge bytes", noughts(n), 0, noughts(n), impl.ErrRange)
		if b, code := impl.SealText(someKey(), 0, letters(n)); len(b) > 0 || code != impl.ErrRange {
			t.Errorf("a huge text: code %d", code)
		}
		checkTold(t, "a huge text", []byte("s"), []impl.GroupOp{says(0, letters(n)), says(0, "")}, []impl.GroupObs{{Code: impl.ErrRange}, {Id: 1}}, impl.OK)
	}
	// As much as a thief can hold.
	ops := slices.Repeat([]impl.GroupOp{heals(0)}, 60)
	ops = append(ops, says(0, "x"))
	ops = append(ops, slices.Repeat([]impl.GroupOp{robs(0), spies(1)}, 69)...)
	checkEnd(t, "much stolen", impl.GroupObs{Epoch: 60, Text: "x"}, ops...)
}
