package tests

import (
	"math"
	"math/rand"
	"slices"
	"testing"

	"loop.example/g00028/impl"
)

// someActors are so many actors; actor 0 is mostly among them.
func someActors(random *rand.Rand, size int) []int {
	actors := random.Perm(16)[:size]
	if random.Intn(8) > 0 && !slices.Contains(actors, 0) {
		actors[0] = 0
	}
	return actors
}

// someWord writes a gift or a taking; most takings are of a gift that is there.
func (b *book) someWord(random *rand.Rand, actors []int) {
	by, to := actors[random.Intn(len(actors))], actors[random.Intn(len(actors))]
	if random.Intn(3) > 0 || len(b.ops[to]) == 0 && random.Intn(3) > 0 {
		rights := 1 + random.Intn(7)
		if random.Intn(2) == 0 {
			rights |= impl.MayGive
		}
		b.gives(by, to, rights)
		return
	}
	b.takes(by, to, 1+random.Intn(len(b.ops[to])+1))
}

// someBook has so many operations of some actors who tell each other now and then.
func someBook(random *rand.Rand, actors []int, size int) *book {
	b := &book{}
	often := 1 + random.Intn(4)
	for range size {
		b.someWord(random, actors)
		for random.Intn(4) < often {
			b.tells(actors[random.Intn(len(actors))], actors[random.Intn(len(actors))])
			if random.Intn(3) == 0 {
				break
			}
		}
		if random.Intn(40) == 0 {
			b.tellsAll()
		}
	}
	return b
}

// someTime is a vector of what some of the actors know together.
func (b *book) someTime(random *rand.Rand, actors []int) impl.Vector {
	v := vector()
	for _, actor := range actors {
		for i, n := range b.knows[actor] {
			if random.Intn(3) > 0 || v.Counts[actor] > 0 {
				continue
			}
			v.Counts[i] = max(v.Counts[i], n)
		}
	}
	if random.Intn(2) == 0 {
		return b.knownTo(actors[random.Intn(len(actors))])
	}
	return v
}

// Small books are held against the other program at every vector.
func TestP17WorldOfSmallBooks(t *testing.T) {
	random := rand.New(rand.NewSource(151))
	times, void, rights := 0, 0, map[int]int{}
	for range 700 {
		actors := someActors(random, 2+random.Intn(3))
		list := someBook(random, actors, random.Intn(11)).list()
		times += checkCourt(t, "a small book", list)
		stamps, _ := impl.Void(list)
		void += len(stamps)
		has, _ := impl.RightsAt(list, sizesOf(list))
		for _, n := range has[1:] {
			rights[n]++
		}
	}
	if times < 10000 || void < 500 || len(rights) != 8 {
		t.Errorf("%d times, %d void operations, rights %v", times, void, rights)
	}
}

// Great books, at what actors knew, and at vectors that are no times.
func TestP17WorldOfGreatBooks(t *testing.T) {
	random := rand.New(rand.NewSource(152))
	codes := map[int]int{}
	for range 120 {
		actors := someActors(random, 2+random.Intn(15))
		b := someBook(random, actors, 20+random.Intn(100))
		list := b.list()
		c := newCourt(list)
		for range 20 {
			v := b.someTime(random, actors)
			if random.Intn(5) == 0 {
				v.Counts[random.Intn(16)] += random.Intn(3) - 1
			}
			switch {
			case !goodVector(v):
				checkRights(t, "no vector", list, v, nil, impl.ErrBad)
				codes[impl.ErrBad]++
			case !isMoment(list, v):
				checkRights(t, "no time", list, v, nil, impl.ErrCause)
				codes[impl.ErrCause]++
			default:
				has := c.rights(v)
				checkRights(t, "a time", list, v, has[:], impl.OK)
				codes[impl.OK]++
			}
		}
		void, code := voidOf(list)
		checkVoid(t, "a great book", list, void, code)
	}
	for _, code := range []int{impl.OK, impl.ErrBad, impl.ErrCause} {
		if codes[code] < 50 {
			t.Errorf("code %d came %d times", code, codes[code])
		}
	}
}

// Full books, whose chains are as long as can be.
func TestP17WorldOfFullBooks(t *testing.T) {
	random := rand.New(rand.NewSource(153))
	for range 6 {
		actors := random.Perm(16)
		b := someBook(random, actors, 256)
		checkGoodAccess(t, "full", b.list())
		b.someWord(random, actors)
		checkBadAccess(t, "one more", b.list())
	}
}

// What was told of an earlier vector stays, whatever is written behind it, and is the same of the part that it counts.
func TestP17WorldOfEarlierVectors(t *testing.T) {
	random := rand.New(rand.NewSource(154))
	for range 60 {
		actors := someActors(random, 2+random.Intn(6))
		b := &book{}
		var times []impl.Vector
		var told [][]int
		for range 30 {
			b.someWord(random, actors)
			b.tells(actors[random.Intn(len(actors))], actors[random.Intn(len(actors))])
			v := b.knownTo(actors[random.Intn(len(actors))])
			has, code := impl.RightsAt(b.list(), v)
			wantCode(t, "now", code, impl.OK)
			times, told = append(times, v), append(told, has)
		}
		list := b.list()
		for i, v := range times {
			checkRights(t, "later", list, v, told[i], impl.OK)
			part := slices.DeleteFunc(copyAccess(list), func(op impl.AccessOp) bool { return !countsIn(v, op) })
			checkRights(t, "of the part", part, v, told[i], impl.OK)
			void, _ := impl.Void(list)
			void = slices.DeleteFunc(void, func(s impl.Stamp) bool { return s.Time > v.Counts[s.Actor] })
			checkVoid(t, "of the part", part, void, impl.OK)
		}
	}
}

// Whoever knows that all gifts of actor 0 were taken back sees that nobody else has anything.
func TestP17WorldWithAllTaken(t *testing.T) {
	random := rand.New(rand.NewSource(155))
	for range 100 {
		actors := someActors(random, 2+random.Intn(14))
		b := someBook(random, actors, 10+random.Intn(60))
		before, had := b.now(), 0
		has, code := impl.RightsAt(b.list(), before)
		wantCode(t, "before", code, impl.OK)
		for _, n := range has[1:] {
			had += n
		}
		for seq, op := range b.ops[0] {
			if op.Kind == impl.AGive {
				b.takes(0, 0, seq+1)
			}
		}
		checkHas(t, "all taken", b.list(), b.now())
		checkRights(t, "ahead of it", b.list(), before, has, impl.OK)
		// A gift with each right by itself is all that anyone has then, whom it reaches.
		for _, right := range []int{1, 2, 4} {
			c := *b
			c.gives(0, 7, right)
			got, code := impl.RightsAt(c.list(), c.now())
			wantCode(t, "one gift", code, impl.OK)
			for actor, n := range got[1:] {
				if n != 0 && n != right || n != 0 && right != 4 && actor+1 != 7 {
					t.Errorf("%d has %d, given was %d", actor+1, n, right)
				}
			}
			checkAccess(t, "one gift", c.list(), c.now())
		}
	}
}

// All short stories that few kinds of steps make, held against the other program at every vector.
func TestP17EveryShortStory(t *testing.T) {
	steps := []func(b *book){
		func(b *book) { b.gives(0, 1, 7) },
		func(b *book) { b.gives(1, 2, 6) },
		func(b *book) { b.gives(2, 1, 5) },
		func(b *book) { b.takes(0, 0, 1) },
		func(b *book) { b.takes(1, 0, 1) },
		func(b *book) { b.takes(2, 1, 1) },
		func(b *book) { b.takes(1, 2, 1) },
		func(b *book) { b.tellsAll() },
	}
	stories, times := 0, 0
	everyList(steps, 5, func(list []func(b *book)) {
		b := &book{}
		for _, step := range list {
			step(b)
		}
		stories++
		times += checkCourt(t, "a story", b.list())
	})
	if stories != 1+8+64+512+4096+32768 || times < stories {
		t.Errorf("%d stories, %d times", stories, times)
	}
}

// spoilt changes one field of one operation.
func spoilt(random *rand.Rand, list []impl.AccessOp) []impl.AccessOp {
	numbers := []int{math.MinInt, -1, 0, 1, 2, 3, 4, 7, 8, 15, 16, 256, impl.MaxTime, impl.MaxTime + 1, math.MaxInt}
	return accessListWith(list, random.Intn(len(list)), func(op *impl.AccessOp) {
		fields := []*int{&op.Actor, &op.Seq, &op.Kind, &op.To, &op.Rights, &op.Of}
		for range 5 {
			fields = append(fields, &op.Deps.Counts[random.Intn(16)])
		}
		field := fields[random.Intn(len(fields))]
		if random.Intn(2) == 0 {
			*field += []int{-1, 1}[random.Intn(2)]
		} else {
			*field = numbers[random.Intn(len(numbers))]
		}
		if random.Intn(20) == 0 {
			op.Deps.Counts = op.Deps.Counts[:random.Intn(16)]
		}
	})
}

// Valid lists with one field changed, or two operations changed over: valid or not as the document says.
func TestP17WorldOfSpoiltBooks(t *testing.T) {
	random := rand.New(rand.NewSource(156))
	codes := map[int]int{}
	for range 6000 {
		actors := someActors(random, 2+random.Intn(4))
		list := someBook(random, actors, 1+random.Intn(12)).list()
		v := sizesOf(list)
		if random.Intn(5) > 0 {
			list = spoilt(random, list)
		} else {
			i, j := random.Intn(len(list)), random.Intn(len(list))
			list[i], list[j] = list[j], list[i]
		}
		code, _ := checkAccess(t, "spoilt", list, v)
		codes[code]++
		checkAccess(t, "spoilt", list, vector())
	}
	if codes[impl.OK] < 500 || codes[impl.ErrBad] < 2000 {
		t.Errorf("codes %v", codes)
	}
}
