package tests

import (
	"math/rand"
	"slices"
	"strings"
	"testing"

	"loop.example/g00028/impl"
)

// spare is how many elements are watched behind an argument's end.
const spare = 40

// watched copies list into memory that goes on behind its end. The check tells whether list and what lies behind it are as they were.
func watched[T comparable](t *testing.T, list []T, behind T) ([]T, func()) {
	t.Helper()
	whole := append([]T{}, list...)
	for range spare {
		whole = append(whole, behind)
	}
	before := slices.Clone(whole)
	check := func() {
		t.Helper()
		if !slices.Equal(whole, before) {
			t.Errorf("an argument was written into, or behind its end: %v", list)
		}
	}
	return whole[:len(list)], check
}

// scribble writes over an answer, and over all that its capacity reaches.
func scribble[T any](answer []T, with T) {
	answer = answer[:cap(answer)]
	for i := range answer {
		answer[i] = with
	}
}

// zeroWithCode checks the rule that a code other than 0 comes with all else zero.
func zeroWithCode[T any](t *testing.T, list []T, code int) {
	t.Helper()
	if code != impl.OK && len(list) != 0 {
		t.Errorf("code %d came with %v", code, list)
	}
}

func wantCode(t *testing.T, what string, got, want int) {
	t.Helper()
	if got != want {
		t.Errorf("%s: code %d, want %d", what, got, want)
	}
}

func noughts(n int) []byte { return make([]byte, n) }

func letters(n int) string { return strings.Repeat("x", n) }

// everyList calls use with each list of at most size elements out of pool.
func everyList[T any](pool []T, size int, use func([]T)) {
	var grow func(list []T)
	grow = func(list []T) {
		use(list)
		if len(list) == size {
			return
		}
		for _, x := range pool {
			grow(append(slices.Clone(list), x))
		}
	}
	grow(nil)
}

// everyOrder calls use with the elements in each order.
func everyOrder[T any](list []T, use func([]T)) {
	list = slices.Clone(list)
	var fix func(at int)
	fix = func(at int) {
		if at == len(list) {
			use(slices.Clone(list))
			return
		}
		for i := at; i < len(list); i++ {
			list[at], list[i] = list[i], list[at]
			fix(at + 1)
			list[at], list[i] = list[i], list[at]
		}
	}
	fix(0)
}

// mixed hands the operations out in another order, some of them twice.
func mixed[T any](random *rand.Rand, ops []T) []T {
	list := slices.Clone(ops)
	for range random.Intn(3) {
		if len(ops) > 0 {
			list = append(list, ops[random.Intn(len(ops))])
		}
	}
	random.Shuffle(len(list), func(i, j int) { list[i], list[j] = list[j], list[i] })
	return list
}
