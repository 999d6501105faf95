package tests

import (
	"testing"

	"loop.example/g00028/impl"
)

// The joins of registers of several and of sets are one and the same, and are asked together.

func TestP4JoinOfEveryTwo(t *testing.T) {
	states := append(smallStates(), edgeStates()...)
	for name, join := range joins() {
		for _, a := range states {
			for _, b := range states {
				want := joinOf(a, b)
				got, code := join(a, b)
				if len(want.Entries) > 256 {
					checkNoMulti(t, name, got, code, impl.ErrMany)
				} else {
					checkMulti(t, name, got, code, want)
				}
			}
		}
	}
}

func TestP4JoinWhateverFirst(t *testing.T) {
	states := smallStates()
	for name, join := range joins() {
		for _, a := range states {
			for _, b := range states {
				both := mustJoin(t, join, a, b)
				if !sameMulti(both, mustJoin(t, join, b, a)) {
					t.Fatalf("%s: %v and %v hang on which comes first", name, a, b)
				}
				for _, c := range states {
					if !sameMulti(mustJoin(t, join, both, c), mustJoin(t, join, a, mustJoin(t, join, b, c))) {
						t.Fatalf("%s: %v, %v and %v hang on what is joined first", name, a, b, c)
					}
				}
			}
		}
	}
}

func TestP4JoinHoweverOften(t *testing.T) {
	states := append(smallStates(), edgeStates()...)
	for name, join := range joins() {
		for _, a := range states {
			checkMulti(t, name, mustJoin(t, join, a, a), impl.OK, a)
			for _, b := range smallStates() {
				both, code := join(a, b)
				if code != impl.OK {
					continue
				}
				checkMulti(t, name, mustJoin(t, join, both, b), impl.OK, both)
				checkMulti(t, name, mustJoin(t, join, a, both), impl.OK, both)
				checkMulti(t, name, mustJoin(t, join, both, both), impl.OK, both)
			}
		}
	}
}

// An entry that the other side lacks was seen there, and taken away, if its Time is just the other's count; it is new if it is just above.
func TestP4JustSeenAndJustNot(t *testing.T) {
	for name, join := range joins() {
		for actor := range 16 {
			for _, n := range []int{1, 2, 300, impl.MaxTime} {
				held := multi(vectorOf(actor, n), entry(n, actor, "held"))
				checkMulti(t, name, mustJoin(t, join, held, multi(vectorOf(actor, n))), impl.OK, multi(vectorOf(actor, n)))
				checkMulti(t, name, mustJoin(t, join, multi(vectorOf(actor, n)), held), impl.OK, multi(vectorOf(actor, n)))
				checkMulti(t, name, mustJoin(t, join, held, multi(vectorOf(actor, n-1))), impl.OK, held)
				checkMulti(t, name, mustJoin(t, join, multi(vectorOf(actor, n-1)), held), impl.OK, held)
				// What is known of other actors does not count.
				others := fullVector(impl.MaxTime)
				others.Counts[actor] = n - 1
				seen := fullVector(impl.MaxTime)
				seen.Counts[actor] = n
				checkMulti(t, name, mustJoin(t, join, held, multi(others)), impl.OK, multi(seen, held.Entries...))
			}
		}
	}
}

func TestP4OneStampUnlikeTexts(t *testing.T) {
	rising := []string{"", "\x00", "A", "a", "a\x00", "ab", "b", letters(200), "\xff"}
	for name, join := range joins() {
		for i, x := range rising {
			for j, y := range rising {
				a := multi(vector(4, 4), entry(2, 1, "ahead"), entry(3, 0, x), entry(4, 0, "behind"))
				b := multi(vector(4, 4), entry(2, 1, "ahead"), entry(3, 0, y), entry(3, 1, "seen and gone"))
				want := multi(vector(4, 4), entry(2, 1, "ahead"), entry(3, 0, rising[max(i, j)]))
				checkMulti(t, name, mustJoin(t, join, a, b), impl.OK, want)
			}
		}
	}
}

func TestP4JoinMaxEntries(t *testing.T) {
	half, full, more := crowd(0, 7, 16), crowd(0, 15, 16), crowd(8, 15, 16)
	more.Seen.Counts[8] = 17
	more.Entries = append(more.Entries, entry(17, 8, "one more"))
	// What was taken away makes room.
	less := multi(full.Seen, full.Entries[1:]...)
	for name, join := range joins() {
		checkMulti(t, name, mustJoin(t, join, half, crowd(8, 15, 16)), impl.OK, full)
		checkMulti(t, name, mustJoin(t, join, full, full), impl.OK, full)
		for _, pair := range [][2]impl.Multi{{half, more}, {more, half}, {full, more}, {more, full}} {
			got, code := join(pair[0], pair[1])
			checkNoMulti(t, name, got, code, impl.ErrMany)
		}
		got := mustJoin(t, join, less, more)
		checkMulti(t, name, got, impl.OK, joinOf(less, more))
		if len(got.Entries) != 256 {
			t.Errorf("%s: %d entries", name, len(got.Entries))
		}
	}
}

func TestP4JoinOfWrongStates(t *testing.T) {
	wrong := wrongStates()
	for name, join := range joins() {
		for _, w := range wrong {
			for _, m := range []impl.Multi{multi(vector()), multi(vector(1), entry(1, 0, "a")), crowd(0, 15, 16), w, {}} {
				got, code := join(w, m)
				checkNoMulti(t, name, got, code, impl.ErrBad)
				got, code = join(m, w)
				checkNoMulti(t, name, got, code, impl.ErrBad)
			}
		}
	}
}
