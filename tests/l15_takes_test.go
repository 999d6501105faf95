package tests

import (
	"fmt"
	"testing"

	"loop.example/g00028/impl"
)

// Two gifts to one actor, of which one is taken back: the other one stays, and what is handed on is of that one.
func TestP17OneOfTwoGiftsIsTaken(t *testing.T) {
	for first := 1; first <= 7; first++ {
		for second := 1; second <= 7; second++ {
			for _, giver := range []int{0, 1, 2} {
				b := &book{}
				b.gives(0, 1, 7)
				b.gives(0, 2, 7)
				b.tellsAll()
				before := len(b.ops[giver])
				b.gives(giver, 3, first)
				b.gives(giver, 3, second)
				b.tellsAll()
				both := first | second
				handed := 0
				if both >= impl.MayGive {
					handed = both
				}
				b.gives(3, 4, 7)
				what := fmt.Sprint(first, " and ", second, " of ", giver)
				checkHas(t, what, b.list(), b.now(), 7, 7, both, handed)
				together := b.now()
				for place, rest := range []int{second, first} {
					c := *b
					c.takes(giver, giver, before+1+place)
					handed = 0
					if rest >= impl.MayGive {
						handed = rest
					}
					checkHas(t, what+", one is taken", c.list(), c.now(), 7, 7, rest, handed)
					checkHas(t, what+", ahead of that", c.list(), together, 7, 7, both, handedOf(both))
					c.takes(giver, giver, before+2-place)
					checkHas(t, what+", both are taken", c.list(), c.now(), 7, 7)
				}
			}
		}
	}
}

// handedOf is what one with these rights hands on who gives all that it has.
func handedOf(rights int) int {
	if rights < impl.MayGive {
		return 0
	}
	return rights
}

// What two givers gave goes one by one.
func TestP17GiftsOfTwoGivers(t *testing.T) {
	b := &book{}
	b.gives(0, 1, 7)
	b.gives(0, 2, 5)
	b.tellsAll()
	b.gives(1, 3, 6)
	b.gives(2, 3, 7)
	b.tells(1, 3)
	b.tells(2, 3)
	b.gives(3, 4, 7)
	checkHas(t, "of both", b.list(), b.now(), 7, 5, 7, 7)
	b.takes(1, 1, 1)
	checkHas(t, "of the second one", b.list(), b.now(), 7, 5, 5, 5)
	b.tells(1, 0)
	b.tells(2, 0)
	b.takes(0, 2, 1)
	checkHas(t, "of none", b.list(), b.now(), 7, 5)
	b.gives(0, 3, 3)
	checkHas(t, "of actor 0, without MayGive", b.list(), b.now(), 7, 5, 3)
	b.gives(0, 3, 4)
	checkHas(t, "of actor 0", b.list(), b.now(), 7, 5, 7, 7)
	checkVoids(t, "all hold", b.list())
	checkCourt(t, "all", b.list())
}

// A vector that knows of the gift and not of the taking has the gift still.
func TestP17TakenIsTakenForWhoKnowsIt(t *testing.T) {
	b := &book{}
	b.gives(0, 1, 7)
	b.tells(0, 1)
	b.gives(1, 2, 7)
	b.tells(1, 2)
	b.gives(2, 3, 7)
	b.takes(0, 0, 1)
	checkHas(t, "who knows nothing of it", b.list(), vector(1, 1, 1), 7, 7, 7)
	checkHas(t, "who knows it", b.list(), vector(2, 1, 1))
	checkHas(t, "who knows it alone", b.list(), vector(2))
	checkHas(t, "who knows of one gift more", b.list(), vector(2, 1))
	checkVoids(t, "it was given in good faith", b.list())
	// 2 gives and takes without knowing it, and holds; 1 learns of it, and gives for nothing.
	b.gives(2, 4, 3)
	b.tells(0, 1)
	b.gives(1, 5, 3)
	checkVoids(t, "who knew it", b.list(), stamp(2, 1))
	b.gives(0, 2, 5)
	checkHas(t, "2 has a gift of its own", b.list(), b.now(), 0, 5, 5, 1)
	checkHas(t, "ahead of that", b.list(), vector(2, 2, 2))
	checkCourt(t, "all", b.list())
}

// An ATake that does not count what it takes, in each way in which that may be.
func TestP17TakesOfWhatIsNotCounted(t *testing.T) {
	two := []impl.AccessOp{given(0, 1, 1, 7), given(0, 2, 2, 7)}
	with := func(more ...impl.AccessOp) []impl.AccessOp { return append(copyAccess(two), more...) }
	for what, list := range map[string][]impl.AccessOp{
		"a gift of actor 0, of which nothing is known": with(taken(3, 1, 0, 1)),
		"the second one, the first one is known":       with(taken(3, 1, 0, 2, 1)),
		"one that is there for nobody":                 with(taken(3, 1, 0, 3, 2)),
		"one far off":                                  with(taken(3, 1, 0, impl.MaxTime, 2)),
		"of one who gave nothing":                      with(taken(3, 1, 15, 1, 2)),
		"itself":                                       with(taken(3, 1, 3, 1, 2)),
		"by one who may give":                          with(taken(1, 1, 0, 2, 1)),
		"a gift of one's own that comes later":         with(taken(3, 1, 3, 2, 2), given(3, 2, 2, 1, 2)),
	} {
		last := list[2]
		checkVoids(t, what, list[:3], stamp(1, last.Actor))
		checkHas(t, what, list[:3], sizesOf(list[:3]), 7, 7)
		checkCourt(t, what, list)
	}
	// Actor 0, too, takes nothing that it does not know.
	b := &book{}
	b.gives(0, 1, 7)
	b.tells(0, 1)
	b.gives(1, 2, 7)
	b.takes(0, 1, 1)
	checkVoids(t, "actor 0 in the dark", b.list(), stamp(2, 0))
	checkHas(t, "actor 0 in the dark", b.list(), b.now(), 7, 7)
	b.tells(1, 0)
	b.takes(0, 1, 1)
	checkVoids(t, "actor 0 in the light", b.list(), stamp(2, 0))
	checkHas(t, "actor 0 in the light", b.list(), b.now(), 7)
	// And itself, or what it does next.
	checkVoids(t, "itself", []impl.AccessOp{taken(0, 1, 0, 1)}, stamp(1, 0))
	list := []impl.AccessOp{taken(0, 1, 0, 2), given(0, 2, 1, 7)}
	checkVoids(t, "what comes next", list, stamp(1, 0))
	checkHas(t, "what comes next", list, vector(2), 7)
}

// An ATake of an ATake takes nothing: what was taken stays taken.
func TestP17TakesOfTakes(t *testing.T) {
	for _, by := range []int{0, 1, 2} {
		b := &book{}
		b.gives(0, 1, 7)
		b.gives(0, 2, 7)
		b.gives(0, 3, 7)
		b.takes(0, 0, 3)
		b.tellsAll()
		b.takes(by, 0, 4)
		seq := len(b.ops[by])
		checkVoids(t, "a take of a take", b.list(), stamp(seq, by))
		checkHas(t, "a take of a take", b.list(), b.now(), 7, 7)
		b.tellsAll()
		b.takes(0, by, seq)
		last := len(b.ops[0])
		void := []impl.Stamp{stamp(seq, by), stamp(last, 0)}
		if by != 0 {
			void = []impl.Stamp{stamp(last, 0), stamp(seq, by)}
		}
		checkVoids(t, "a take of that", b.list(), void...)
		checkHas(t, "a take of that", b.list(), b.now(), 7, 7)
		checkCourt(t, "takes of takes", b.list())
	}
}

// Who gave may take that back, also when it may give no more, and also what never held.
func TestP17TakesOfOwnGifts(t *testing.T) {
	for rights := range 8 {
		b := &book{}
		b.gives(0, 1, 7)
		b.gives(0, 3, 7)
		b.tellsAll()
		b.gives(1, 2, 7)
		b.tellsAll()
		b.gives(3, 1, 7) // which 0 knows, and takes
		b.tells(3, 0)
		b.takes(0, 0, 1)
		b.takes(0, 3, 1)
		if rights > 0 {
			b.gives(0, 1, rights)
		}
		b.tellsAll()
		checkHas(t, "ahead of taking", b.list(), b.now(), rights, handedOf(rights), 7)
		b.takes(1, 1, 1)
		checkHas(t, fmt.Sprint("taken back by one who has ", rights), b.list(), b.now(), rights, 0, 7)
		checkVoids(t, "taken back", b.list())
		b.gives(0, 1, 7)
		checkHas(t, "and it stays so", b.list(), b.now(), 7, 0, 7)
		checkCourt(t, "taken back", b.list())
	}
	// A gift that never held: its taking holds all the same, and changes nothing.
	list := []impl.AccessOp{given(0, 1, 1, 3), given(1, 1, 2, 7, 1), taken(1, 2, 1, 1, 1)}
	checkVoids(t, "of what never held", list, stamp(1, 1))
	checkHas(t, "of what never held", list, vector(1, 2), 3)
	list = []impl.AccessOp{given(7, 1, 2, 7), taken(7, 2, 7, 1), taken(7, 3, 7, 1), taken(7, 4, 7, 2)}
	checkVoids(t, "of who never had anything", list, stamp(1, 7), stamp(4, 7))
	checkHas(t, "of who never had anything", list, vectorOf(7, 4))
}

// Who takes what another one gave must have MayGive as it takes, whatever else it has.
func TestP17TakesOfOthersGifts(t *testing.T) {
	for rights := range 8 {
		b := &book{}
		b.gives(0, 1, 7)
		if rights > 0 {
			b.gives(0, 2, rights)
		}
		b.tellsAll()
		b.gives(1, 3, 3)
		b.tellsAll()
		b.takes(2, 1, 1)
		what := fmt.Sprint("by one who has ", rights)
		if rights >= impl.MayGive {
			checkVoids(t, what, b.list())
			checkHas(t, what, b.list(), b.now(), 7, rights)
		} else {
			checkVoids(t, what, b.list(), stamp(1, 2))
			checkHas(t, what, b.list(), b.now(), 7, rights, 3)
			// That it may give later makes it no better.
			b.gives(0, 2, 7)
			checkHas(t, what+", all later", b.list(), b.now(), 7, 7, 3)
			checkVoids(t, what+", all later", b.list(), stamp(1, 2))
			b.tells(0, 2)
			b.takes(2, 1, 1)
			checkHas(t, what+", again", b.list(), b.now(), 7, 7)
			checkVoids(t, what+", again", b.list(), stamp(1, 2))
		}
		checkCourt(t, what, b.list())
	}
}

// Whoever may give takes even what actor 0 gave, its own giver's right too.
func TestP17TakesFromActor0(t *testing.T) {
	b := line(7, 7, 7)
	b.tellsAll()
	b.takes(3, 0, 1)
	checkHas(t, "the beginning of its own chain", b.list(), b.now())
	checkVoids(t, "the beginning of its own chain", b.list())
	b.tellsAll()
	// With that it lost its right itself.
	b.gives(0, 4, 7)
	b.tellsAll()
	b.takes(3, 0, 2)
	checkHas(t, "and once more", b.list(), b.now(), 0, 0, 0, 7)
	checkVoids(t, "and once more", b.list(), stamp(2, 3))
	checkCourt(t, "from actor 0", b.list())
}

// An actor takes back what it was given itself, and has it no more.
func TestP17TakesFromOneself(t *testing.T) {
	for rights := 1; rights <= 7; rights++ {
		b := line(rights)
		b.takes(1, 0, 1)
		if rights >= impl.MayGive {
			checkHas(t, "by who may give", b.list(), b.now())
			checkVoids(t, "by who may give", b.list())
		} else {
			checkHas(t, "by who may not", b.list(), b.now(), rights)
			checkVoids(t, "by who may not", b.list(), stamp(1, 1))
		}
		b.takes(1, 0, 1)
		b.gives(1, 2, 1)
		want := []impl.Stamp{stamp(2, 1), stamp(3, 1)}
		if rights < impl.MayGive {
			want = append([]impl.Stamp{stamp(1, 1)}, want...)
		}
		checkVoids(t, "and what it does then", b.list(), want...)
	}
}

// The taker's own rights are taken side by side: its taking holds, known or not.
func TestP17TakersThatAreTakenSideBySide(t *testing.T) {
	b := &book{}
	b.gives(0, 1, 7)
	b.gives(0, 2, 7)
	b.gives(0, 3, 7)
	b.tellsAll()
	b.takes(1, 0, 3) // 1 takes what 3 has,
	b.takes(2, 0, 1) // and 2 at the same time what 1 has
	checkHas(t, "neither known", b.list(), vector(3), 7, 7, 7)
	checkHas(t, "the first taking", b.list(), vector(3, 1), 7, 7)
	checkHas(t, "the second taking", b.list(), vector(3, 0, 1), 0, 7, 7)
	checkHas(t, "both", b.list(), vector(3, 1, 1), 0, 7)
	checkVoids(t, "both", b.list())
	// Who knew it when it took takes nothing.
	b.tells(2, 1)
	b.takes(1, 0, 2)
	checkHas(t, "who knew it", b.list(), b.now(), 0, 7)
	checkVoids(t, "who knew it", b.list(), stamp(2, 1))
	checkCourt(t, "side by side", b.list())
}

func TestP17GiversThatAreTakenSideBySide(t *testing.T) {
	b := &book{}
	b.gives(0, 1, 7)
	b.tells(0, 1)
	b.takes(0, 0, 1)
	b.gives(1, 2, 7)
	b.tells(1, 2)
	b.gives(2, 3, 3)
	checkHas(t, "not known", b.list(), vector(1, 1, 1), 7, 7, 3)
	checkHas(t, "known", b.list(), vector(2, 1, 1))
	checkVoids(t, "all hold", b.list())
	b.tells(0, 2)
	b.gives(2, 3, 4)
	checkVoids(t, "given by one who knew", b.list(), stamp(2, 2))
	b.tells(1, 0)
	b.gives(0, 1, 6)
	checkHas(t, "a gift anew", b.list(), b.now(), 6, 6, 2)
	checkCourt(t, "side by side", b.list())
}

func TestP17TwoTakesOfOneGift(t *testing.T) {
	b := &book{}
	b.gives(0, 1, 7)
	b.gives(0, 2, 7)
	b.gives(0, 3, 3)
	b.tellsAll()
	b.takes(0, 0, 3)
	b.takes(1, 0, 3)
	b.takes(2, 0, 3)
	b.takes(3, 0, 3) // which holds not
	for _, v := range []impl.Vector{vector(4), vector(3, 1), vector(3, 0, 1), vector(4, 1), vector(3, 1, 1), vector(4, 1, 1), vector(4, 1, 1, 1)} {
		checkHas(t, "taken", b.list(), v, 7, 7)
	}
	checkHas(t, "not taken", b.list(), vector(3, 0, 0, 1), 7, 7, 3)
	checkVoids(t, "takes side by side", b.list(), stamp(1, 3))
	b.tellsAll()
	b.takes(0, 0, 3)
	b.takes(1, 0, 3)
	checkHas(t, "and one behind the other", b.list(), b.now(), 7, 7)
	checkVoids(t, "and one behind the other", b.list(), stamp(1, 3))
	// One that is void beside one that holds, ahead of it in the list and behind.
	for _, places := range [][2]int{{1, 2}, {2, 1}} {
		b = &book{}
		b.gives(0, places[0], 4)
		b.gives(0, 3, 3)
		b.tellsAll()
		b.takes(places[0], 0, 2)
		b.takes(places[1], 0, 2)
		checkVoids(t, "one of two", b.list(), stamp(1, places[1]))
		want := vectorOf(places[0], 4).Counts[1:]
		checkHas(t, "one of two", b.list(), b.now(), want...)
		v := b.now()
		v.Counts[places[0]] = 0
		want[2] = 3
		checkHas(t, "the other one", b.list(), v, want...)
	}
	checkCourt(t, "two takes", b.list())
}

// Two take what the other one gave, side by side: both hold.
func TestP17TakesOfEachOther(t *testing.T) {
	b := &book{}
	b.gives(0, 1, 7)
	b.gives(0, 2, 7)
	b.tellsAll()
	b.gives(1, 3, 1)
	b.gives(2, 4, 2)
	b.tellsAll()
	b.takes(1, 2, 1)
	b.takes(2, 1, 1)
	checkHas(t, "neither", b.list(), vector(2, 1, 1), 7, 7, 1, 2)
	checkHas(t, "the one", b.list(), vector(2, 2, 1), 7, 7, 1)
	checkHas(t, "the other one", b.list(), vector(2, 1, 2), 7, 7, 0, 2)
	checkHas(t, "both", b.list(), b.now(), 7, 7)
	checkVoids(t, "both", b.list())
	// And what the other one has: both have nothing.
	b.takes(1, 0, 2)
	b.takes(2, 0, 1)
	checkHas(t, "each other", b.list(), b.now())
	checkVoids(t, "each other", b.list())
	b.tellsAll()
	b.takes(1, 0, 2)
	b.gives(2, 1, 7)
	checkHas(t, "neither may give", b.list(), b.now())
	checkVoids(t, "neither may give", b.list(), stamp(4, 1), stamp(4, 2))
	checkCourt(t, "each other", b.list())
	// Two who gave each other more, and take that.
	b = &book{}
	b.gives(0, 1, 4)
	b.gives(0, 2, 4)
	b.gives(0, 1, 1)
	b.gives(0, 2, 2)
	b.tellsAll()
	b.gives(1, 2, 7)
	b.gives(2, 1, 7)
	b.tellsAll()
	checkHas(t, "given to each other", b.list(), b.now(), 7, 7)
	b.takes(1, 2, 1)
	checkHas(t, "the one is taken", b.list(), b.now(), 5, 7)
	b.takes(2, 1, 1)
	checkHas(t, "both are taken", b.list(), b.now(), 5, 6)
	checkVoids(t, "both are taken", b.list())
	checkCourt(t, "given to each other", b.list())
}

// A gift anew behind a taking, and a taking that takes only the one that it names.
func TestP17GivenAnew(t *testing.T) {
	for rights := 1; rights <= 7; rights++ {
		b := &book{}
		b.gives(0, 1, 7)
		b.tells(0, 1)
		b.gives(1, 2, 7)
		b.takes(0, 0, 1)
		checkHas(t, "taken", b.list(), b.now())
		b.gives(0, 1, rights)
		checkHas(t, "anew", b.list(), b.now(), rights, handedOf(rights))
		b.takes(0, 0, 1)
		checkHas(t, "the old one taken once more", b.list(), b.now(), rights, handedOf(rights))
		checkHas(t, "between", b.list(), vector(2, 1))
		b.takes(0, 0, 3)
		checkHas(t, "the new one taken", b.list(), b.now())
		b.gives(0, 2, rights)
		checkHas(t, "given to the next one", b.list(), b.now(), 0, rights)
		checkVoids(t, "all hold", b.list())
		checkCourt(t, "anew", b.list())
	}
	// A gift that is like one that was taken side by side stays.
	b := &book{}
	b.gives(0, 1, 7)
	b.tells(0, 1)
	b.gives(1, 2, 3)
	b.tells(1, 0)
	b.takes(0, 1, 1)
	b.gives(1, 2, 3)
	checkHas(t, "side by side", b.list(), b.now(), 7, 3)
	checkHas(t, "the first one alone", b.list(), vector(2, 1), 7)
}

// A gift of which only a void ATake is known gives all the same, and a void gift nothing, at whatever vector.
func TestP17VoidDoesNothing(t *testing.T) {
	b := &book{}
	b.gives(0, 1, 7)
	b.gives(0, 2, 3)
	b.tellsAll()
	b.takes(2, 0, 1) // void
	b.gives(2, 3, 3) // void
	b.takes(3, 0, 1) // void
	b.tellsAll()
	checkVoids(t, "three are void", b.list(), stamp(1, 2), stamp(2, 2), stamp(1, 3))
	for seq := range 3 {
		for last := range 2 {
			checkHas(t, "void", b.list(), vector(2, 0, seq, last), 7, 3)
		}
	}
	b.gives(0, 2, 7)
	b.gives(0, 3, 4)
	b.tellsAll()
	checkHas(t, "with rights later", b.list(), b.now(), 7, 7, 4)
	b.takes(1, 2, 2) // takes what is void: it holds, and nothing comes of it
	checkHas(t, "taken", b.list(), b.now(), 7, 7, 4)
	checkVoids(t, "and the taking holds", b.list(), stamp(1, 2), stamp(2, 2), stamp(1, 3))
	checkCourt(t, "void", b.list())
}

// Each kind of what is void and what is not, in the list's order.
func TestP17VoidInOrder(t *testing.T) {
	list := []impl.AccessOp{
		given(0, 1, 1, 7), given(0, 2, 2, 3), taken(0, 3, 0, 9), taken(0, 4, 0, 2), taken(0, 5, 0, 4),
		given(1, 1, 3, 3), given(1, 2, 3, 3, 1), taken(1, 3, 0, 2, 1), taken(1, 4, 0, 2, 2),
		taken(2, 1, 0, 1, 2), given(2, 2, 4, 1, 2), taken(2, 3, 2, 2, 2),
		taken(15, 1, 1, 2, 2, 2), given(15, 2, 15, 7, 5, 4),
	}
	checkVoids(t, "of each kind", list,
		stamp(3, 0), stamp(5, 0), stamp(1, 1), stamp(3, 1), stamp(1, 2), stamp(2, 2), stamp(1, 15), stamp(2, 15))
	checkHas(t, "of each kind", list, sizesOf(list), 7, 0, 3)
	checkCourt(t, "of each kind", list)
	// All void, the last one that can be as well.
	all := make([]impl.AccessOp, 0, 256)
	var want []impl.Stamp
	for actor := range 16 {
		for seq := 1; seq <= 16; seq++ {
			if actor == 0 {
				all = append(all, taken(0, seq, 1, seq))
			} else {
				all = append(all, given(actor, seq, 1, 7))
			}
			want = append(want, stamp(seq, actor))
		}
	}
	checkVoids(t, "all", all, want...)
	checkHas(t, "all", all, sizesOf(all))
}
