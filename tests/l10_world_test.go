package tests

import (
	"fmt"
	"math/rand"
	"slices"
	"testing"

	"loop.example/g00028/impl"
)

// regrets lets an archivist undo its last, if there is something to undo, and tells whether there was.
func (a *archivist) regrets(t *testing.T) bool {
	t.Helper()
	after, code := checkUndoing(t, "regretted", a.log, a.actor)
	if code != impl.OK {
		wantCode(t, "regretted", code, impl.ErrMissing)
		return false
	}
	a.log = after
	a.keeps(t)
	return true
}

// tries lets an archivist do something plain and undo it at once.
func (a *archivist) tries(t *testing.T, random *rand.Rand) {
	t.Helper()
	deed := anyDone(random, by(a.actor, seqsOf(a.log, a.actor)+1, timeAbove(a.log, a.actor), knownIn(a.log).Counts...), a.log)
	deed.Undo = 0
	if deed.Kind == impl.ODel && !isSeen(a.log, deed) || deed.Kind == impl.OIns && deed.At != start() && !isPut(a.log, deed) {
		return
	}
	checkAsItWas(t, "tried", a.log, a.actor, deed)
}

// isPut tells whether what an operation stands upon was put into its list; isSeen, whether it is there still.
func isPut(log []impl.Op, op impl.Op) bool {
	return slices.ContainsFunc(row(listDeeds(log, op.Obj)), func(p placed) bool { return p.id == op.At })
}

func isSeen(log []impl.Op, op impl.Op) bool {
	return slices.ContainsFunc(row(listDeeds(log, op.Obj)), func(p placed) bool { return p.id == op.At && !p.gone })
}

// Archivists that do, hear and undo in any order: each undoing takes back just its own last one, and all of them have
// the same document in the end. Then each undoes until nothing is left.
func TestP12ArchivistsThatUndo(t *testing.T) {
	regretted := 0
	for seed := range 25 {
		random := rand.New(rand.NewSource(int64(1000 + seed)))
		all := archivists(t)
		for range 50 {
			a, other := all[random.Intn(replicas)], all[random.Intn(replicas)]
			switch random.Intn(6) {
			case 0, 1, 2:
				a.does(t, random)
			case 3:
				a.tries(t, random)
			case 4:
				if a.regrets(t) {
					regretted++
				}
			case 5:
				a.hears(t, random, other.log)
			}
		}
		var moments []moment
		for _, a := range all {
			moments = append(moments, a.moments...)
		}
		for _, a := range all {
			for _, other := range random.Perm(replicas) {
				a.hears(t, random, all[other].log)
			}
			checkMoments(t, fmt.Sprint("seed ", seed), a.log, moments)
			if !sameLog(a.log, all[0].log) {
				t.Errorf("seed %d: unlike logs", seed)
			}
		}
		regretAll(t, all)
	}
	if regretted < 100 {
		t.Errorf("only %d were undone", regretted)
	}
}

// regretAll lets one after the other undo all that it did.
func regretAll(t *testing.T, all []*archivist) {
	t.Helper()
	log := all[0].log
	for _, a := range all {
		var standing []int
		for _, op := range log {
			if op.Actor == a.actor && op.Undo == 0 && !undoneDeed(log, op) {
				standing = append(standing, op.Seq)
			}
		}
		var seqs []int
		seqs, log = undoAll(t, "all of it", log, a.actor)
		slices.Reverse(seqs)
		if !slices.Equal(seqs, standing) {
			t.Errorf("undone were %v, standing %v", seqs, standing)
		}
	}
	for _, op := range log {
		if op.Undo == 0 && !undoneDeed(log, op) {
			t.Errorf("%v is left", op)
		}
	}
	// Nothing is told of a map any more.
	text, code := impl.DocText(log)
	wantCode(t, "DocText", code, impl.OK)
	for _, line := range textLines(text) {
		if line[:3] == "map" && line != fmt.Sprint("map ", objNumber(line)) {
			t.Errorf("%q is left", line)
		}
	}
}

// One that does this and that upon what others did, and undoes it from the last on: the document goes back the way it
// came, step by step. (It takes away no character that it put itself, nor one that is gone.)
func TestP12BackTheWayItCame(t *testing.T) {
	for seed := range 60 {
		random := rand.New(rand.NewSource(int64(seed)))
		log := logOf(diary(1, 1, typed(3, 1, 1, "some text")...), diary(5, 20, writes(1, "a", "five"), counts(9, 5), writes(100, "b", "five")), diary(6, 40, typed(4, 6, 40, "other")...))
		log = withNext(log, 12, writes(1, "", "beside"))
		log = withNext(log, 12, counts(10, 3))
		var pages []string
		did := 0
		for range 12 {
			deed := anyDone(random, by(8, seqsOf(log, 8)+1, timeAbove(log, 8), knownIn(log).Counts...), log)
			deed.Undo = 0
			if deed.Kind == impl.ODel && (deed.At.Actor == 8 || !isSeen(log, deed)) || deed.Kind == impl.OIns && deed.At != start() && !isPut(log, deed) {
				continue
			}
			page, code := impl.DocText(log)
			wantCode(t, "DocText", code, impl.OK)
			pages = append(pages, page)
			log = withNext(log, 8, deed)
			did++
		}
		for i := did - 1; i >= 0; i-- {
			op, code := impl.UndoOf(log, 8)
			wantCode(t, "UndoOf", code, impl.OK)
			if op.Undo != i+1 {
				t.Errorf("seed %d: %v, want Undo %d", seed, op, i+1)
			}
			log = mergedLog(t, log, []impl.Op{op})
			checkText9(t, fmt.Sprintf("seed %d: down to %d", seed, i), log, pages[i])
		}
		checkNotUndone(t, "back where it was", log, 8, impl.ErrMissing)
	}
}
