package tests

import (
	"fmt"
	"math/rand"
	"testing"

	"loop.example/g00028/impl"
)

// tells lets two archivists tell each other in a mode: both have the log of both then.
func (a *archivist) tells(t *testing.T, other *archivist, mode int) impl.SyncOut {
	t.Helper()
	wantCode(t, "told", checkMode(t, "told", a.log, other.log, mode), impl.OK)
	out, code := impl.SyncRun(a.log, other.log, mode)
	wantCode(t, "told", code, impl.OK)
	back, _ := impl.SyncRun(other.log, a.log, mode)
	if !sameOut(out, back) {
		t.Errorf("mode %d: %s, the other way round %s", mode, toldOut(out), toldOut(back))
	}
	one, code := impl.BranchMerge(a.log, other.log)
	wantCode(t, "told", code, impl.OK)
	text, _ := impl.DocText(one)
	a.log, other.log = out.Log, back.Log
	a.keeps(t)
	other.keeps(t)
	if a.moments[len(a.moments)-1].text != text || other.moments[len(other.moments)-1].text != text {
		t.Errorf("mode %d: not the document of the merge", mode)
	}
	return out
}

// Archivists that do, undo and tell each other, in any mode and any order: all of them have the same log in the end and
// the same document, and nothing that one of them had is lost.
func TestP14ArchivistsTellEachOther(t *testing.T) {
	sent, least := map[int]int{}, map[int]int{}
	for seed := range 25 {
		random := rand.New(rand.NewSource(int64(4000 + seed)))
		all := archivists(t)
		for range 50 {
			i := random.Intn(replicas)
			a, other := all[i], all[(i+1+random.Intn(replicas-1))%replicas]
			switch random.Intn(8) {
			case 0, 1, 2, 3, 4:
				a.does(t, random)
			case 5:
				a.regrets(t)
			default:
				mode := 1 + random.Intn(3)
				more := len(aheadOf(a.log, other.log)) + len(aheadOf(other.log, a.log))
				sent[mode] += a.tells(t, other, mode).Ops
				least[mode] += more
			}
		}
		checkAllTold(t, fmt.Sprint("seed ", seed), random, all)
	}
	// By vectors just what was lacking is sent; the other modes send no less where no sums meet, and none do here.
	if sent[1] != least[1] || sent[2] < least[2] || sent[3] < least[3] || min(least[1], least[2], least[3]) < 200 {
		t.Errorf("sent %v, at least %v", sent, least)
	}
}

// checkAllTold lets archivists tell each other until all know all.
func checkAllTold(t *testing.T, what string, random *rand.Rand, all []*archivist) {
	t.Helper()
	var moments []moment
	var everything []impl.Op
	for _, a := range all {
		moments = append(moments, a.moments...)
		everything = mergedLog(t, everything, a.log)
	}
	for range 2 {
		for _, i := range random.Perm(replicas) {
			all[i].tells(t, all[(i+1)%replicas], 1+random.Intn(3))
		}
	}
	for range replicas {
		for i := range replicas {
			all[i].tells(t, all[(i+1)%replicas], 1+random.Intn(3))
		}
	}
	for _, a := range all {
		if !sameLog(a.log, everything) {
			t.Errorf("%s: unlike logs: %s and %s", what, brief(a.log), brief(everything))
		}
		checkMoments(t, what, a.log, moments)
	}
	checkSent(t, what+", all told", all[0].log, all[1].log, 1, 0, 2*len(vecBytes(knownIn(everything))), 2)
}

// Three that went apart: whoever tells whom first, and in whatever mode, the log and the document are the same.
func TestP11ToldInEveryOrder(t *testing.T) {
	base := diary(0, 1, writes(1, "k", "base"), types(3, 'm', start()), counts(5, 1))
	one := knowing(base, 1, 10, writes(1, "k", "one"), types(3, 'a', stamp(2, 0)), counts(5, 10), undoes(1, writes(1, "k", "")))
	two := knowing(base, 2, 10, writes(1, "k", "two"), takes(3, stamp(2, 0)), counts(5, 100), writes(1, "l", "two"))
	three := knowing(logOf(base, diary(14, 1, counts(5, 0))), 13, 10, writes(1, "l", ""), types(3, 'b', stamp(2, 0)), counts(9, 1000), types(3, 'c', start()))
	all := logOf(one, two[3:], three[3:])
	for mode := 1; mode <= 3; mode++ {
		for next := 1; next <= 3; next++ {
			tell := func(a, b []impl.Op, mode int) []impl.Op {
				checkMode(t, "three of them", a, b, mode)
				out, code := impl.SyncRun(a, b, mode)
				wantCode(t, "three of them", code, impl.OK)
				return out.Log
			}
			everyOrder([][]impl.Op{one, two, three}, func(logs [][]impl.Op) {
				x, y, z := logs[0], logs[1], logs[2]
				for what, got := range map[string][]impl.Op{
					"one behind the other": tell(tell(x, y, mode), z, next), "two together first": tell(x, tell(y, z, mode), next), "one twice": tell(tell(x, y, mode), tell(z, x, next), mode),
				} {
					if !sameLog(got, all) {
						t.Errorf("%s: %s, want %s", what, brief(got), brief(all))
					}
					checkText9(t, what, got, "map 1 k=two l=two\nlist 3 cba\ncount 5 111\ncount 9 1000\n")
				}
			})
		}
	}
}

// Logs that told each other are what BranchMerge tells, in each mode and both ways round, of all logs that there are.
func TestP13ToldIsMerged(t *testing.T) {
	told := 0
	logs := syncLogs()
	for _, a := range logs {
		for _, b := range logs {
			all, code := impl.BranchMerge(a, b)
			for mode := 1; mode <= 3; mode++ {
				out, outCode := impl.SyncRun(a, b, mode)
				if outCode != code || !sameLog(out.Log, all) {
					t.Errorf("mode %d of %s and %s: %s, code %d, want code %d", mode, brief(a), brief(b), toldOut(out), outCode, code)
				}
				told += len(out.Log)
			}
		}
	}
	if told < 5000 {
		t.Errorf("only %d operations were told", told)
	}
}
