package tests

import (
	"math"
	"math/rand"
	"slices"
	"testing"

	"loop.example/g00028/impl"
)

// checkFollows asks for every character of valid operations, and for the Ids that are no character's.
func checkFollows(t *testing.T, ops []impl.LOp) {
	t.Helper()
	all := row(ops)
	for place, p := range all {
		checkFollow(t, ops, p.id, len(seenOf(all[:place])), impl.OK)
	}
	for _, op := range ops {
		if op.Kind == impl.LDel {
			checkFollow(t, ops, op.Id, 0, impl.ErrMissing)
		}
	}
	for _, id := range append(notStamps(), stamp(impl.MaxTime, 15), stamp(999, 9)) {
		checkFollow(t, ops, id, 0, impl.ErrMissing)
	}
}

func TestP7FollowEveryList(t *testing.T) {
	for _, ops := range lists() {
		checkFollows(t, ops)
	}
	random := rand.New(rand.NewSource(15))
	for range 1500 {
		checkFollows(t, anyList(random, random.Intn(16)))
	}
}

func TestP7Follow(t *testing.T) {
	ops := append(lined(5, 0), del(6, 0, stamp(3, 0)))
	for time, want := range []int{1: 0, 2: 1, 3: 2, 4: 2, 5: 3} {
		if time > 0 {
			checkFollow(t, ops, stamp(time, 0), want, impl.OK)
		}
	}
	all := slices.Clone(ops)
	for _, time := range []int{1, 2, 4, 5} {
		all = append(all, del(6+time, 1, stamp(time, 0)))
	}
	for time := 1; time <= 5; time++ {
		checkFollow(t, all, stamp(time, 0), 0, impl.OK)
	}
	checkFollow(t, ops, stamp(6, 0), 0, impl.ErrMissing)
	checkFollow(t, ops, stamp(1, 1), 0, impl.ErrMissing)
	checkFollow(t, nil, stamp(1, 0), 0, impl.ErrMissing)
	checkFollow(t, nil, start(), 0, impl.ErrMissing)
}

// A comment follows its character: through every edit it stands at it; where the character goes, it stands where the
// character was.
func TestP7CommentsFollow(t *testing.T) {
	base := edited(t, nil, edit{actor: 1, text: "abcdef"})
	for at, op := range base {
		for place := range 7 {
			for gone := range 7 - place {
				for _, text := range []string{"", "X", "\u00e9\u00e9\u00e9"} {
					ops := edited(t, base, edit{actor: 2, place: place, gone: gone, text: text})
					want := at
					switch {
					case at >= place+gone:
						want = at - gone + len([]rune(text))
					case at >= place:
						// What is typed in the place of others stands right behind what is ahead of them.
						want = place + len([]rune(text))
					}
					checkFollow(t, ops, op.Id, want, impl.OK)
					if at < place || at >= place+gone {
						checkPlace(t, ops, want, op.Id, impl.OK)
					}
				}
			}
		}
	}
}

func TestP7FollowCodes(t *testing.T) {
	for code, ops := range opFaults() {
		for _, id := range []impl.Stamp{stamp(1, 0), start(), stamp(9, 9), stamp(math.MinInt, math.MaxInt)} {
			checkFollow(t, ops, id, 0, code)
			checkFollow(t, lined(impl.MaxOps+1, 0), id, 0, impl.ErrLong)
		}
	}
	for _, op := range wrongOps() {
		checkFollow(t, append(goodOps(), op), stamp(1, 0), 0, impl.ErrBad)
	}
	full := lined(impl.MaxOps, 0)
	checkFollow(t, full, stamp(impl.MaxOps, 0), impl.MaxOps-1, impl.OK)
	checkFollow(t, full, stamp(1, 0), 0, impl.OK)
	checkFollow(t, full, stamp(impl.MaxOps+1, 0), 0, impl.ErrMissing)
}
