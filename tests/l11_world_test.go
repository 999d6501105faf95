package tests

import (
	"fmt"
	"math/rand"
	"testing"

	"loop.example/g00028/impl"
)

// joins lets an archivist merge another one's branch into its own: both ways round the same, and what adding makes.
func (a *archivist) joins(t *testing.T, random *rand.Rand, log []impl.Op) {
	t.Helper()
	wantCode(t, "joined", checkBranches(t, "joined", a.log, log), impl.OK)
	all, code := impl.BranchMerge(a.log, log)
	wantCode(t, "joined", code, impl.OK)
	if added := mergedLog(t, a.log, mixed(random, log)); !sameLog(all, added) {
		t.Errorf("merged %s, added %s", brief(all), brief(added))
	}
	// What is ahead is all that the other one must be told.
	ahead, code := impl.BranchAhead(log, a.log)
	wantCode(t, "joined", code, impl.OK)
	if added := mergedLog(t, a.log, mixed(random, ahead)); !sameLog(all, added) {
		t.Errorf("merged %s, with what was ahead %s", brief(all), brief(added))
	}
	a.log = all
	a.keeps(t)
}

// picks lets an archivist do anew what another one did, and tells whether it could.
func (a *archivist) picks(t *testing.T, random *rand.Rand, log []impl.Op) bool {
	t.Helper()
	if len(log) == 0 {
		return false
	}
	op := log[random.Intn(len(log))]
	if code := checkPicking(t, "picked", log, a.log, picking{op.Actor, op.Seq, a.actor}); code != impl.OK {
		wantCode(t, "picked", code, impl.ErrCause)
		return false
	}
	again, _ := impl.BranchPick(log, op.Actor, op.Seq, a.log, a.actor)
	a.log = mergedLog(t, a.log, []impl.Op{again})
	a.keeps(t)
	return true
}

// Archivists that go apart, pick from each other, undo and merge, in any order: all of them have the same log in the
// end, whichever is merged first, and nothing that one of them had is lost.
func TestP13ArchivistsOnBranches(t *testing.T) {
	picked, undone := 0, 0
	for seed := range 30 {
		random := rand.New(rand.NewSource(int64(2000 + seed)))
		all := archivists(t)
		for range 50 {
			a, other := all[random.Intn(replicas)], all[random.Intn(replicas)]
			switch random.Intn(6) {
			case 0, 1, 2:
				a.does(t, random)
			case 3:
				if a.picks(t, random, other.log) {
					picked++
				}
			case 4:
				if a.regrets(t) {
					undone++
				}
			case 5:
				a.joins(t, random, other.log)
			}
		}
		checkAllJoined(t, fmt.Sprint("seed ", seed), random, all)
	}
	if picked < 150 || undone < 80 {
		t.Errorf("only %d were picked, and %d undone", picked, undone)
	}
}

// checkAllJoined merges all that archivists have, in several orders.
func checkAllJoined(t *testing.T, what string, random *rand.Rand, all []*archivist) {
	t.Helper()
	var moments []moment
	var logs [][]impl.Op
	for _, a := range all {
		moments = append(moments, a.moments...)
		logs = append(logs, a.log)
	}
	for _, a := range all {
		for _, i := range random.Perm(replicas) {
			a.joins(t, random, logs[i])
		}
		if !sameLog(a.log, all[0].log) {
			t.Errorf("%s: unlike logs: %s and %s", what, brief(a.log), brief(all[0].log))
		}
		checkMoments(t, what, a.log, moments)
	}
	// Two and two together first, by turns, until one is left.
	for len(logs) > 1 {
		i := random.Intn(len(logs) - 1)
		both, code := impl.BranchMerge(logs[i], logs[i+1])
		wantCode(t, what, code, impl.OK)
		logs = append(append(append([][]impl.Op{}, logs[:i]...), both), logs[i+2:]...)
	}
	if !sameLog(logs[0], all[0].log) {
		t.Errorf("%s: two and two together: %s, want %s", what, brief(logs[0]), brief(all[0].log))
	}
}

// Devices of which two act under one number: they merge as long as only one of the two did something that the other
// has not heard of, and never more when both did.
func TestP13DevicesUnderOneNumber(t *testing.T) {
	forks, merges := 0, 0
	for seed := range 60 {
		random := rand.New(rand.NewSource(int64(3000 + seed)))
		all := []*archivist{{actor: 3}, {actor: 3}, {actor: 8}}
		for range 25 {
			i := random.Intn(3)
			a, other := all[i], all[(i+1+random.Intn(2))%3]
			if random.Intn(3) > 0 {
				a.does(t, random)
				continue
			}
			if forkIn(append(copyLog(a.log), other.log...)) {
				forks++
				checkNotParted(t, "under one number", a.log, other.log, impl.ErrFork)
				continue
			}
			merges++
			a.joins(t, random, other.log)
		}
		// What the one did under the number can still be picked onto the other's log.
		for _, op := range all[0].log {
			checkPicking(t, "picked from its twin", all[0].log, all[1].log, picking{op.Actor, op.Seq, 3})
		}
	}
	if forks < 50 || merges < 50 {
		t.Errorf("%d forks, %d merges", forks, merges)
	}
}
