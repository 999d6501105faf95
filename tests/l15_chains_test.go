package tests

import (
	"fmt"
	"slices"
	"testing"

	"loop.example/g00028/impl"
)

// Each right by itself and each sum, given by actor 0 and handed on.
func TestP17EachRight(t *testing.T) {
	for first := 1; first <= 7; first++ {
		for second := 1; second <= 7; second++ {
			b := &book{}
			b.gives(0, 1, first)
			b.tells(0, 1)
			b.gives(1, 2, second)
			want := 0
			if first >= impl.MayGive {
				want = first & second
				checkVoids(t, "handed on", b.list())
			} else {
				checkVoids(t, "handed on without MayGive", b.list(), stamp(1, 1))
			}
			what := fmt.Sprint(first, " and of it ", second)
			checkHas(t, what, b.list(), vector())
			checkHas(t, what, b.list(), vector(1), first)
			checkHas(t, what, b.list(), vector(1, 1), first, want)
		}
	}
}

// Several gifts to one actor are put together.
func TestP17RightsAreSums(t *testing.T) {
	for first := 1; first <= 7; first++ {
		for second := 1; second <= 7; second++ {
			b := &book{}
			b.gives(0, 1, first)
			b.gives(0, 1, second)
			b.gives(0, 2, 7)
			b.tellsAll()
			b.gives(2, 1, 2)
			b.gives(2, 1, 4)
			checkHas(t, "the first one", b.list(), vector(1), first)
			checkHas(t, "both", b.list(), vector(2), first|second)
			checkHas(t, "and those of another giver", b.list(), vector(3, 0, 1), first|second|2, 7)
			checkHas(t, "and those of another giver", b.list(), vector(3, 0, 2), first|second|6, 7)
		}
	}
	// What was handed on of one gift grows with the next one.
	b := &book{}
	b.gives(0, 1, 4)
	b.tells(0, 1)
	b.gives(1, 2, 7)
	b.tells(1, 2)
	b.gives(2, 3, 7)
	b.gives(0, 1, 1)
	b.gives(0, 1, 2)
	checkHas(t, "give", b.list(), vector(1, 1, 1), 4, 4, 4)
	checkHas(t, "give and read", b.list(), vector(2, 1, 1), 5, 5, 5)
	checkHas(t, "all", b.list(), vector(3, 1, 1), 7, 7, 7)
}

// line gives from actor 0 on, each to the next one as soon as it knows of its own gift.
func line(rights ...int) *book {
	b := &book{}
	for actor, r := range rights {
		b.gives(actor, actor+1, r)
		b.tells(actor, actor+1)
	}
	return b
}

func TestP17LongChains(t *testing.T) {
	for _, givers := range []int{1, 2, 3, 15} {
		// Each gives more than it has, but for the first one.
		for first := 4; first <= 7; first++ {
			rights := slices.Repeat([]int{7}, givers)
			rights[0] = first
			b := line(rights...)
			checkHas(t, "a chain", b.list(), b.now(), slices.Repeat([]int{first}, givers)...)
			checkVoids(t, "a chain", b.list())
		}
		// At each place of the chain one gives less.
		for place := range givers {
			for less := 1; less <= 7; less++ {
				rights := slices.Repeat([]int{7}, givers)
				rights[place] = less
				want := slices.Repeat([]int{7}, givers)
				for i := place; i < givers; i++ {
					want[i] = less
					if i > place && less < 4 {
						want[i] = 0
					}
				}
				b := line(rights...)
				checkHas(t, fmt.Sprint("less at ", place), b.list(), b.now(), want...)
			}
		}
		// And every beginning of the chain is a time.
		b := line(slices.Repeat([]int{5}, givers)...)
		for end := range givers {
			v := vector(slices.Repeat([]int{1}, end)...)
			checkHas(t, "a beginning", b.list(), v, slices.Repeat([]int{5}, end)...)
		}
	}
	b := line(7, 5, 7, 6, 7)
	checkHas(t, "less and less", b.list(), b.now(), 7, 5, 5, 4, 4)
}

// The chain goes by actors whose numbers fall, so that who is told first stands last in the list.
func TestP17FallingChains(t *testing.T) {
	b := &book{}
	giver := 0
	for to := 15; to >= 1; to-- {
		b.gives(giver, to, 7-to%2)
		b.tells(giver, to)
		giver = to
	}
	want := slices.Repeat([]int{6}, 15)
	checkHas(t, "falling", b.list(), b.now(), want...)
	b.tells(1, 0)
	b.takes(0, 0, 1)
	checkHas(t, "falling, the first one taken", b.list(), b.now())
	checkVoids(t, "falling", b.list())
	checkCourt(t, "falling", b.list())
}

// One in the middle of a chain loses MayGive, and keeps the rest.
func TestP17OneLosesMayGive(t *testing.T) {
	for _, givers := range []int{2, 3, 15} {
		for place := range givers {
			b := line(slices.Repeat([]int{7}, givers)...)
			all := b.now()
			b.takes(place, place, 1)
			b.gives(place, place+1, 3)
			want := slices.Repeat([]int{7}, place)
			want = append(want, 3)
			what := fmt.Sprint(place+1, " of ", givers+1)
			checkHas(t, what, b.list(), all, slices.Repeat([]int{7}, givers)...)
			checkHas(t, what, b.list(), b.now(), want...)
			// It gets all again, and so do those behind it.
			b.gives(place, place+1, 7)
			checkHas(t, what+", again", b.list(), b.now(), slices.Repeat([]int{7}, givers)...)
			checkVoids(t, what, b.list())
		}
	}
}

// Two give each other what a third one gave the first: they keep nothing when that is taken back.
func TestP17ChainsThatComeBackToThemselves(t *testing.T) {
	for rights := 4; rights <= 7; rights++ {
		b := &book{}
		b.gives(0, 1, 7)
		b.tells(0, 1)
		b.gives(1, 2, rights)
		b.tells(1, 2)
		b.gives(2, 3, 7)
		b.tells(2, 3)
		b.gives(3, 2, 7)
		b.gives(3, 1, 7)
		b.tellsAll()
		checkHas(t, "a ring", b.list(), b.now(), 7, rights, rights)
		ring := b.now()
		b.takes(1, 1, 1)
		checkHas(t, "a ring without its giver", b.list(), b.now(), 7)
		checkHas(t, "ahead of it", b.list(), ring, 7, rights, rights)
		b.tellsAll()
		checkVoids(t, "a ring without its giver", b.list())
		b.gives(3, 2, 7)
		checkHas(t, "it gives once more", b.list(), b.now(), 7)
		checkVoids(t, "it gives once more", b.list(), stamp(3, 3))
	}
}

func TestP17RingsOfEverySize(t *testing.T) {
	for size := 1; size <= 15; size++ {
		for first := 4; first <= 7; first++ {
			b := &book{}
			b.gives(0, 1, first)
			b.tells(0, 1)
			for actor := 1; actor <= size; actor++ {
				b.gives(actor, actor%size+1, 7)
				b.tells(actor, actor%size+1)
			}
			b.tellsAll()
			checkHas(t, "a ring", b.list(), b.now(), slices.Repeat([]int{first}, size)...)
			b.takes(0, 0, 1)
			checkHas(t, "a ring that nobody gives to", b.list(), b.now())
			b.tellsAll()
			b.gives(0, size, 5)
			checkHas(t, "a ring that is given to at another place", b.list(), b.now(), slices.Repeat([]int{5}, size)...)
			b.gives(0, size/2+1, 3)
			checkHas(t, "and at a third one, without MayGive", b.list(), b.now(), withAt(slices.Repeat([]int{5}, size), size/2, 7)...)
			checkVoids(t, "a ring", b.list())
		}
	}
}

// withAt is a list with a number in one place; where one has MayGive of the ring, what it has of another giver goes on.
func withAt(list []int, place, n int) []int {
	if list[place]&impl.MayGive != 0 {
		return slices.Repeat([]int{n}, len(list))
	}
	list[place] = n
	return list
}

// One that has MayGive of one giver hands on what it has of another one.
func TestP17RightsOfSeveralGivers(t *testing.T) {
	b := &book{}
	b.gives(0, 1, 4)
	b.gives(0, 2, 7)
	b.tellsAll()
	b.gives(2, 1, 1)
	b.tells(2, 1)
	b.gives(1, 3, 7)
	b.tellsAll()
	checkHas(t, "of both", b.list(), b.now(), 5, 7, 5)
	both, c := b.now(), *b
	c.takes(2, 2, 1)
	checkHas(t, "without the one", c.list(), c.now(), 4, 7, 4)
	b.takes(0, 0, 1)
	checkHas(t, "without the other one", b.list(), b.now(), 1, 7)
	checkHas(t, "as it was", b.list(), both, 5, 7, 5)
}

func TestP17GivenToOneself(t *testing.T) {
	for rights := 1; rights <= 7; rights++ {
		for has := 0; has <= 7; has++ {
			b := &book{}
			if has > 0 {
				b.gives(0, 1, has)
			}
			b.tells(0, 1)
			b.gives(1, 1, rights)
			checkHas(t, fmt.Sprint("to itself ", rights, " of ", has), b.list(), b.now(), has)
			if has < 4 {
				checkVoids(t, "to itself without MayGive", b.list(), stamp(1, 1))
			} else {
				checkVoids(t, "to itself", b.list())
			}
			if has > 0 {
				b.takes(0, 0, 1)
				checkHas(t, "to itself, and taken", b.list(), b.now())
			}
		}
	}
}

// Who has no chain from actor 0 gives nothing, whatever is given.
func TestP17NoChainFromActor0(t *testing.T) {
	b := &book{}
	for round := range 3 {
		for actor := 1; actor < 16; actor++ {
			b.gives(actor, (actor+round)%15+1, 7)
		}
		b.tellsAll()
	}
	checkHas(t, "everyone gives", b.list(), b.now())
	void, _ := impl.Void(b.list())
	if len(void) != 45 {
		t.Errorf("%d are void, want all: %v", len(void), void)
	}
	b.gives(0, 9, 1)
	b.gives(0, 8, 3)
	b.tellsAll()
	checkHas(t, "two may read", b.list(), b.now(), 0, 0, 0, 0, 0, 0, 0, 3, 1)
	// Those who get MayGive now do not make good what they gave then.
	b.gives(0, 7, 7)
	b.tellsAll()
	checkHas(t, "one may give", b.list(), b.now(), 0, 0, 0, 0, 0, 0, 7, 3, 1)
	b.gives(7, 8, 4)
	b.tellsAll()
	checkHas(t, "and does", b.list(), b.now(), 0, 0, 0, 0, 0, 0, 7, 7, 1)
	b.gives(8, 9, 2)
	checkHas(t, "and the next one", b.list(), b.now(), 0, 0, 0, 0, 0, 0, 7, 7, 3)
}

// Actor 0 has all rights, whatever is given to it or taken from it, and whether it knows of anything.
func TestP17Actor0HasAll(t *testing.T) {
	for rights := 1; rights <= 7; rights++ {
		b := &book{}
		b.gives(0, 1, 7)
		b.gives(0, 0, rights)
		b.tellsAll()
		b.gives(1, 0, rights)
		b.tellsAll()
		checkHas(t, "given", b.list(), b.now(), 7)
		b.takes(0, 0, 2)
		b.takes(0, 1, 1)
		b.takes(1, 0, 2)
		b.tellsAll()
		checkHas(t, "taken", b.list(), b.now(), 7)
		b.takes(1, 0, 1)
		checkHas(t, "all taken", b.list(), b.now())
		b.tells(1, 0)
		b.gives(0, 2, rights)
		checkHas(t, "it gives all the same", b.list(), b.now(), 0, rights)
		checkVoids(t, "all hold", b.list())
	}
	// And others have nothing of a gift to it.
	list := []impl.AccessOp{given(0, 1, 0, 7), given(1, 1, 0, 7)}
	checkHas(t, "to it alone", list, vector(1, 1))
	checkVoids(t, "to it alone", list, stamp(1, 1))
}

// Had MayGive at its Deps and has it no more at v: nothing. Had it not at its Deps and has it at v: nothing.
func TestP17MayGiveThenAndNow(t *testing.T) {
	b := &book{}
	b.gives(0, 1, 7)
	b.tells(0, 1)
	b.gives(1, 2, 3)
	b.takes(0, 0, 1)
	checkHas(t, "then", b.list(), vector(1, 1), 7, 3)
	checkHas(t, "no more", b.list(), vector(2, 1))
	checkVoids(t, "it had it", b.list())
	b.gives(0, 1, 3)
	checkHas(t, "no more, but others", b.list(), vector(3, 1), 3)
	b.gives(0, 1, 4)
	checkHas(t, "again", b.list(), vector(4, 1), 7, 3)

	b = &book{}
	b.gives(1, 2, 3)
	b.gives(0, 1, 3)
	b.tells(0, 1)
	b.gives(1, 3, 3)
	b.gives(0, 1, 7)
	checkHas(t, "too early", b.list(), b.now(), 7)
	checkVoids(t, "too early", b.list(), stamp(1, 1), stamp(2, 1))
	b.tells(0, 1)
	b.gives(1, 3, 3)
	checkHas(t, "in time", b.list(), b.now(), 7, 0, 3)
	checkVoids(t, "in time", b.list(), stamp(1, 1), stamp(2, 1))
	// It does not matter what is known to others: the giver must know of its right.
	list := []impl.AccessOp{given(0, 1, 1, 7), given(1, 1, 2, 7)}
	checkHas(t, "given and not known", list, vector(1, 1), 7)
	checkVoids(t, "given and not known", list, stamp(1, 1))
}

// What comes later changes nothing at an earlier vector.
func TestP17EarlierVectorsStay(t *testing.T) {
	b := &book{}
	var times []impl.Vector
	var told [][]int
	for i, write := range []func(){
		func() { b.gives(0, 1, 7) }, func() { b.gives(1, 2, 6) }, func() { b.gives(2, 3, 7) }, func() { b.takes(3, 0, 1) }, func() { b.gives(0, 2, 5) },
		func() { b.takes(2, 0, 1) }, func() { b.gives(1, 4, 7) }, func() { b.gives(0, 1, 4) }, func() { b.takes(1, 0, 3) }, func() { b.gives(0, 3, 7) }, func() { b.takes(3, 3, 1) },
	} {
		write()
		b.tellsAll()
		times = append(times, b.now())
		has, code := impl.RightsAt(b.list(), b.now())
		wantCode(t, "now", code, impl.OK)
		told = append(told, has)
		for j := range i + 1 {
			checkRights(t, fmt.Sprint("at ", j, " by ", i), b.list(), times[j], told[j], impl.OK)
		}
		checkAccess(t, "now", b.list(), b.now())
	}
	checkCourt(t, "all", b.list())
}
