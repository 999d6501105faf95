package tests

import (
	"fmt"
	"math/rand"
	"slices"
	"testing"

	"loop.example/g00028/impl"
)

// checkTime asks for a document at a time, written down, and for the number of operations by then.
func checkTime(t *testing.T, what string, log []impl.Op, v impl.Vector, want string, size int) {
	t.Helper()
	if got, code := impl.DocAt(log, v); got != want || code != impl.OK {
		t.Errorf("%s: DocAt %v: %s, code %d, want %s", what, v.Counts, brief(got), code, brief(want))
	}
	if cut, code := impl.LogAt(log, v); len(cut) != size || code != impl.OK {
		t.Errorf("%s: LogAt %v: %d operations, code %d, want %d", what, v.Counts, len(cut), code, size)
	}
	checkSameAt(t, what, log, v)
}

// checkNoTime asks for the same code of all that takes a time, and nothing beside it.
func checkNoTime(t *testing.T, what string, log []impl.Op, v impl.Vector, want int) {
	t.Helper()
	if got, code := impl.DocAt(log, v); got != "" || code != want {
		t.Errorf("%s: DocAt %s: %s, code %d, want code %d", what, brief(v), brief(got), code, want)
	}
	cut, code := impl.LogAt(log, v)
	wantCode(t, what+": LogAt", code, want)
	zeroWithCode(t, cut, code)
	for _, other := range []impl.Vector{v, vector()} {
		for _, pair := range [][2]impl.Vector{{v, other}, {other, v}} {
			list, code := impl.DocChanges(log, pair[0], pair[1])
			wantCode(t, what+": DocChanges", code, want)
			zeroWithCode(t, list, code)
		}
	}
}

// checkSameAt asks that a document at a time is that of the log by then.
func checkSameAt(t *testing.T, what string, log []impl.Op, v impl.Vector) {
	t.Helper()
	cut, code := impl.LogAt(log, v)
	if code != impl.OK {
		return
	}
	if !validLog(cut) {
		t.Errorf("%s: LogAt %v is no log: %s", what, v.Counts, brief(cut))
	}
	if own, _ := impl.LogVector(cut); !sameVector(own, v) {
		t.Errorf("%s: LogAt %v has %v", what, v.Counts, own.Counts)
	}
	want, wantCode := impl.DocText(cut)
	if got, code := impl.DocAt(log, v); got != want || code != wantCode {
		t.Errorf("%s: DocAt %v: %s, code %d, DocText of LogAt %s, code %d", what, v.Counts, brief(got), code, brief(want), wantCode)
	}
}

func TestP11TimesOfTheStory(t *testing.T) {
	log := inOrder(story())
	fifteen := func(n int, first ...int) impl.Vector {
		v := vector(first...)
		v.Counts[15] = n
		return v
	}
	checkTime(t, "nothing", log, vector(), "", 0)
	checkTime(t, "the first", log, vector(1), "map 1 a=one\n", 1)
	checkTime(t, "x", log, vector(2), "map 1 a=one\nlist 3 x\n", 2)
	checkTime(t, "y", log, vector(2, 1), "map 1 a=one\nlist 3 xy\n", 3)
	checkTime(t, "the 4", log, vector(2, 2), "map 1 a=one\nlist 3 xy\ncount 5 4\n", 4)
	checkTime(t, "x is gone, without the 4", log, fifteen(1, 2, 1), "map 1 a=one\nlist 3 y\n", 4)
	checkTime(t, "x is gone, with the 4", log, fifteen(1, 2, 2), "map 1 a=one\nlist 3 y\ncount 5 4\n", 5)
	checkTime(t, "b", log, fifteen(2, 2, 2), "map 1 a=one b=two\nlist 3 y\ncount 5 4\n", 6)
	checkTime(t, "a is undone, b is not there", log, fifteen(1, 3, 2), "map 1\nlist 3 y\ncount 5 4\n", 6)
	checkTime(t, "a is undone, nothing of actor 15", log, vector(3, 2), "map 1\nlist 3 xy\ncount 5 4\n", 5)
	checkTime(t, "all", log, fifteen(2, 3, 2), "map 1 b=two\nlist 3 y\ncount 5 4\n", 7)
	checkNoTime(t, "y without x", log, vector(1, 1), impl.ErrCause)
	checkNoTime(t, "y without anything", log, vector(0, 1), impl.ErrCause)
	checkNoTime(t, "actor 15 without y", log, fifteen(1, 2), impl.ErrCause)
	checkNoTime(t, "actor 15 without x", log, fifteen(1, 1, 1), impl.ErrCause)
	checkNoTime(t, "b without the 4", log, fifteen(2, 2, 1), impl.ErrCause)
	checkNoTime(t, "the undoing without the 4", log, vector(3, 1), impl.ErrCause)
	checkNoTime(t, "one more of actor 0", log, fifteen(2, 4, 2), impl.ErrCause)
	checkNoTime(t, "one more of actor 15", log, fifteen(3, 3, 2), impl.ErrCause)
	checkNoTime(t, "one of an actor that did nothing", log, fifteen(2, 3, 2, 1), impl.ErrCause)
	checkNoTime(t, "as many as can be", log, fullVector(impl.MaxTime), impl.ErrCause)
	codes := map[int]int{}
	for _, v := range allTimes(log, 0, 1, 15) {
		codes[checkAt(t, "the story", log, v)]++
		checkSameAt(t, "the story", log, v)
	}
	if codes[impl.OK] != 11 || codes[impl.ErrCause] != 69 {
		t.Errorf("codes %v", codes)
	}
}

func TestP11TimesOfNothing(t *testing.T) {
	checkTime(t, "nothing", nil, vector(), "", 0)
	for actor := range 16 {
		checkNoTime(t, "nothing", nil, vectorOf(actor, 1), impl.ErrCause)
		checkNoTime(t, "nothing", nil, vectorOf(actor, impl.MaxTime), impl.ErrCause)
	}
	for _, v := range wrongVectors() {
		checkNoTime(t, "no vector", nil, v, impl.ErrBad)
		checkNoTime(t, "no vector", inOrder(story()), v, impl.ErrBad)
		checkNoTime(t, "no vector, no log", inOrder(story())[1:], v, impl.ErrBad)
	}
	for _, v := range append(someVectors(), vector(2, 2)) {
		checkNoTime(t, "no log", inOrder(story())[1:], v, impl.ErrBad)
	}
}

// Each actor, as the one that is left out and as the one that knew it.
func TestP11CausesLeftOut(t *testing.T) {
	for one := range 16 {
		for other := range 16 {
			if one == other {
				continue
			}
			knew := by(other, 1, 9)
			knew.Deps.Counts[one] = 2
			log := logOf(diary(one, 1, writes(1, "a", "x"), writes(1, "b", "y"), writes(1, "c", "z")), []impl.Op{opAdd(knew, 2, 5)})
			at := func(n, m int) impl.Vector {
				v := vectorOf(one, n)
				v.Counts[other] = m
				return v
			}
			what := fmt.Sprint("actor ", other, " knew two of ", one)
			for n, lines := range []string{"", "map 1 a=x\n", "map 1 a=x b=y\n", "map 1 a=x b=y c=z\n"} {
				checkTime(t, what, log, at(n, 0), lines, n)
				if n < 2 {
					checkNoTime(t, what, log, at(n, 1), impl.ErrCause)
				} else {
					checkTime(t, what, log, at(n, 1), lines+"count 2 5\n", n+1)
				}
			}
			checkNoTime(t, what, log, at(4, 1), impl.ErrCause)
			checkNoTime(t, what, log, at(3, 2), impl.ErrCause)
		}
	}
}

// Deps need not count what those that they count do, nor what the actor's own earlier ones did: each is asked by itself.
func TestP11CausesOfCauses(t *testing.T) {
	log := logOf(
		diary(0, 1, counts(1, 1)),
		[]impl.Op{opAdd(by(1, 1, 2, 1), 2, 1), opAdd(by(1, 2, 3), 2, 1)},
		[]impl.Op{opAdd(by(2, 1, 4, 0, 1), 3, 1), opAdd(by(2, 2, 5, 0, 2), 3, 1)},
	)
	for _, c := range []struct {
		v    impl.Vector
		want int
	}{
		{vector(1, 1, 1), impl.OK}, {vector(1, 2, 2), impl.OK}, {vector(1, 1, 0), impl.OK}, {vector(1, 2, 1), impl.OK},
		// The last of actor 1 counts nothing of actor 0, but the one ahead of it does.
		{vector(0, 2, 0), impl.ErrCause}, {vector(0, 1, 0), impl.ErrCause},
		// Actor 2 counts actor 1 alone, which counts actor 0.
		{vector(0, 1, 1), impl.ErrCause}, {vector(0, 2, 2), impl.ErrCause}, {vector(1, 0, 1), impl.ErrCause}, {vector(1, 1, 2), impl.ErrCause},
	} {
		code := checkAt(t, "causes of causes", log, c.v)
		wantCode(t, fmt.Sprint(c.v.Counts), code, c.want)
	}
	for _, v := range allTimes(log, 0, 1, 2) {
		checkAt(t, "causes of causes", log, v)
		checkSameAt(t, "causes of causes", log, v)
	}
}

// One actor's own causes are always counted with it: every beginning is a time.
func TestP11EveryBeginning(t *testing.T) {
	log := diary(6, 3, slices.Concat(typed(3, 6, 3, "hello"), []impl.Op{takes(3, stamp(3, 6)), writes(1, "k", "v"), undoes(7, writes(1, "k", "")), counts(2, 7)})...)
	for n, want := range []string{
		"", "list 3 h\n", "list 3 he\n", "list 3 hel\n", "list 3 hell\n", "list 3 hello\n", "list 3 ello\n", "map 1 k=v\nlist 3 ello\n", "map 1\nlist 3 ello\n", "map 1\ncount 2 7\nlist 3 ello\n",
	} {
		checkTime(t, "a beginning", log, vectorOf(6, n), want, n)
	}
	checkNoTime(t, "one more", log, vectorOf(6, len(log)+1), impl.ErrCause)
}

// A wrong At that the time leaves out is not asked for; one that it leaves the character out of is wrong there alone.
func TestP11ListsAtATime(t *testing.T) {
	wrong := diary(0, 1, types(3, 'x', start()), counts(5, 1), takes(3, stamp(1, 7)))
	checkNoDoc(t, "a wrong At at the end", wrong, impl.ErrCause)
	checkTime(t, "ahead of the wrong At", wrong, vector(2), "list 3 x\ncount 5 1\n", 2)
	checkTime(t, "ahead of the wrong At", wrong, vector(1), "list 3 x\n", 1)
	other := logOf(diary(0, 1, types(3, 'x', start())), diary(1, 1, takes(3, stamp(1, 0))))
	// Actor 1 takes x away and does not count it.
	checkDoc(t, "the whole", other, "list 3 \n")
	checkTime(t, "the typing alone", other, vector(1), "list 3 x\n", 1)
	if got, code := impl.DocAt(other, vector(0, 1)); got != "" || code != impl.ErrCause {
		t.Errorf("the taking away alone: %q, code %d", got, code)
	}
	if cut, code := impl.LogAt(other, vector(0, 1)); len(cut) != 1 || code != impl.OK {
		t.Errorf("the taking away alone: %s, code %d", brief(cut), code)
	}
	for _, v := range allTimes(wrong, 0) {
		checkAt(t, "a wrong At", wrong, v)
		checkSameAt(t, "a wrong At", wrong, v)
	}
	for _, v := range allTimes(other, 0, 1) {
		checkAt(t, "an At that is not counted", other, v)
		checkSameAt(t, "an At that is not counted", other, v)
		for _, w := range allTimes(other, 0, 1) {
			checkChanges(t, "an At that is not counted", other, v, w)
		}
	}
	// What lists hold is not asked of LogAt.
	if cut, code := impl.LogAt(wrong, vector(3)); len(cut) != 3 || code != impl.OK {
		t.Errorf("LogAt: %s, code %d", brief(cut), code)
	}
}

// Operations at random, whose Deps count this and that, at every time that there is and some that are none.
func TestP11AnyTimes(t *testing.T) {
	random := rand.New(rand.NewSource(92))
	codes := map[int]int{}
	for range 250 {
		log := anyStory(random, 8)
		for _, v := range allTimes(log, 0, 6, 15) {
			codes[checkAt(t, "any", log, v)]++
			checkSameAt(t, "any", log, v)
		}
		checkAll(t, "any", log)
		for range 10 {
			times := allTimes(log, 0, 6, 15)
			checkChanges(t, "any", log, times[random.Intn(len(times))], times[random.Intn(len(times))])
		}
	}
	if codes[impl.OK] < 1000 || codes[impl.ErrCause] < 1000 {
		t.Errorf("codes %v", codes)
	}
}

// anyStory gives a valid log of three actors, who each know some of what came ahead; a few lists have a wrong At.
func anyStory(random *rand.Rand, size int) []impl.Op {
	var ops []impl.Op
	var did [16]int
	for i := range size {
		actor := []int{0, 6, 15}[random.Intn(3)]
		var knew [16]int
		for other, n := range did {
			if random.Intn(3) == 0 {
				knew[other] = random.Intn(n + 1)
			}
		}
		op := by(actor, did[actor]+1, i+1, knew[:]...)
		did[actor]++
		ops = append(ops, anyDone(random, op, ops))
	}
	return inOrder(ops)
}

// anyDone lets an operation do something upon what is there.
func anyDone(random *rand.Rand, op impl.Op, there []impl.Op) impl.Op {
	if random.Intn(3) == 0 {
		op.Undo = random.Intn(op.Seq)
	}
	obj := 3 + random.Intn(2)
	var chars []impl.Stamp
	for _, other := range there {
		if other.Kind == impl.OIns && (other.Obj == obj || random.Intn(30) == 0) {
			chars = append(chars, told8(other))
		}
	}
	switch kind := random.Intn(5); {
	case kind == 0 && len(chars) > 0:
		return opDel(op, obj, chars[random.Intn(len(chars))])
	case kind <= 1:
		chars = append(chars, start())
		return opIns(op, obj, []int{'a', 'b', ' ', 0xe9, 0x1f600}[random.Intn(5)], chars[random.Intn(len(chars))])
	case kind == 2:
		return opAdd(op, 9+random.Intn(2), random.Intn(9)-4)
	}
	return opSet(op, 1+random.Intn(2)*99, names()[random.Intn(len(names()))], names()[random.Intn(len(names()))])
}
