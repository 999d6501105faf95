package tests

import (
	"maps"
	"math/rand"
	"slices"
	"strconv"
	"testing"

	"loop.example/g00028/impl"
)

const replicas = 5

// A told is what a replica has been told of, written down as it happened: what was ever put, and what was taken away of it.
type told struct {
	put  map[impl.Stamp]string
	gone map[impl.Stamp]int
}

func nothingTold() told {
	return told{put: map[impl.Stamp]string{}, gone: map[impl.Stamp]int{}}
}

func (w told) hears(other told) {
	maps.Copy(w.put, other.put)
	maps.Copy(w.gone, other.gone)
}

// takes marks as gone what is there now and meets the question.
func (w told) takes(goes func(text string) bool) {
	for s, text := range w.put {
		if goes(text) {
			w.gone[s] = 1
		}
	}
}

func (w told) puts(actor int, text string) {
	time := 1
	for s := range w.put {
		if s.Actor == actor {
			time = max(time, s.Time+1)
		}
	}
	w.put[stamp(time, actor)] = text
}

// state is what a value must be that was told of this.
func (w told) state() impl.Multi {
	m := multi(vector())
	for _, s := range sortStamps(slices.Collect(maps.Keys(w.put))) {
		m.Seen.Counts[s.Actor] = max(m.Seen.Counts[s.Actor], s.Time)
		if w.gone[s] == 0 {
			m.Entries = append(m.Entries, impl.Entry{Stamp: s, Text: w.put[s]})
		}
	}
	return m
}

// A world is some replicas, each with its value and with all that it has been told of.
type world struct {
	values [replicas]impl.Multi
	tolds  [replicas]told
}

func newWorld() *world {
	w := &world{}
	for i := range replicas {
		w.values[i], w.tolds[i] = multi(vector()), nothingTold()
	}
	return w
}

// meet joins the value of another replica, or an older one that was kept, into that of one.
func (w *world) meet(t *testing.T, join joinFunc, one int, value impl.Multi, heard told) {
	t.Helper()
	w.values[one] = mustJoin(t, join, w.values[one], value)
	w.tolds[one].hears(heard)
}

func (w *world) check(t *testing.T, what string) {
	t.Helper()
	for i := range replicas {
		checkMulti(t, what, w.values[i], impl.OK, w.tolds[i].state())
	}
}

// allMeet has each replica join all others in an order of its own, some of them twice.
func (w *world) allMeet(t *testing.T, random *rand.Rand, join joinFunc) {
	t.Helper()
	values, all := w.values, nothingTold()
	for i := range replicas {
		all.hears(w.tolds[i])
	}
	for i := range replicas {
		for _, other := range append(random.Perm(replicas), random.Perm(replicas)[:2]...) {
			w.meet(t, join, i, values[other], all)
		}
	}
	for i := range replicas {
		checkMulti(t, "at the end", w.values[i], impl.OK, all.state())
	}
}

// actor spreads the replicas over the actors, so that both ends are among them.
func actor(replica int) int { return []int{0, 15, 7, 3, 11}[replica] }

func TestP4SetsInAWorld(t *testing.T) {
	for seed := range 150 {
		random := rand.New(rand.NewSource(int64(seed)))
		w := newWorld()
		for range 60 {
			i, text := random.Intn(replicas), "text "+strconv.Itoa(random.Intn(6))
			same := func(other string) bool { return other == text }
			switch random.Intn(4) {
			case 0, 1:
				w.values[i] = added(t, w.values[i], actor(i), text)
				w.tolds[i].takes(same)
				w.tolds[i].puts(actor(i), text)
			case 2:
				w.values[i] = removed(t, w.values[i], text)
				w.tolds[i].takes(same)
			case 3:
				other := random.Intn(replicas)
				w.meet(t, setJoin, i, w.values[other], w.tolds[other])
			}
			w.check(t, "a set")
		}
		w.allMeet(t, random, setJoin)
	}
}

func TestP4RegistersInAWorld(t *testing.T) {
	for seed := range 150 {
		random := rand.New(rand.NewSource(int64(seed)))
		w := newWorld()
		for step := range 60 {
			i := random.Intn(replicas)
			if random.Intn(2) == 0 {
				text := "step " + strconv.Itoa(step)
				w.values[i] = wrote(t, w.values[i], actor(i), text)
				w.tolds[i].takes(func(string) bool { return true })
				w.tolds[i].puts(actor(i), text)
			} else {
				other := random.Intn(replicas)
				w.meet(t, impl.MultiJoin, i, w.values[other], w.tolds[other])
			}
			w.check(t, "a register of several")
		}
		w.allMeet(t, random, impl.MultiJoin)
	}
}

// addings is what a replica of a counter has been told of: who added what, by its number.
type addings map[impl.Stamp]int

func (a addings) sum() int {
	sum := 0
	for _, n := range a {
		sum += n
	}
	return sum
}

// What anybody added counts just once, whoever it came by and however often.
func TestP4CountersInAWorld(t *testing.T) {
	for seed := range 150 {
		random := rand.New(rand.NewSource(int64(seed)))
		var values [replicas]impl.Counter
		var tolds [replicas]addings
		for i := range replicas {
			values[i], tolds[i] = counter(vector(), vector()), addings{}
		}
		for step := range 80 {
			i, other := random.Intn(replicas), random.Intn(replicas)
			if random.Intn(2) == 0 {
				n := random.Intn(2001) - 1000
				c, code := impl.CounterAdd(values[i], actor(i), n)
				wantCode(t, "CounterAdd", code, impl.OK)
				values[i] = c
				tolds[i][stamp(step, i)] = n
			} else {
				values[i] = mustJoinCounters(t, values[i], values[other])
				maps.Copy(tolds[i], tolds[other])
			}
			if n, code := impl.CounterValue(values[i]); n != tolds[i].sum() || code != impl.OK {
				t.Fatalf("%v: %d, code %d, want %d", values[i], n, code, tolds[i].sum())
			}
		}
	}
}
