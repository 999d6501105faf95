package tests

import (
	"fmt"
	"slices"
	"strings"
	"testing"

	"loop.example/g00028/impl"
)

// branchCode says what stands against two logs in all calls but BranchPick.
func branchCode(a, b []impl.Op) int {
	if !validLog(a) || !validLog(b) {
		return impl.ErrBad
	}
	if forkIn(slices.Concat(a, b)) {
		return impl.ErrFork
	}
	return impl.OK
}

// aheadOf gives what a has and b has not, asking all of b for each.
func aheadOf(a, b []impl.Op) []impl.Op {
	return slices.DeleteFunc(slices.Clone(a), func(op impl.Op) bool { return hasDeed(b, op) })
}

// baseOf counts what both have.
func baseOf(a, b []impl.Op) impl.Vector {
	v := vector()
	for _, op := range a {
		if hasDeed(b, op) {
			v.Counts[op.Actor]++
		}
	}
	return v
}

// mergeOf says by the document's words what two logs make, by another program than the project's.
func mergeOf(a, b []impl.Op) ([]impl.Op, int) {
	if code := branchCode(a, b); code != impl.OK {
		return nil, code
	}
	all := inOrder(slices.Concat(a, aheadOf(b, a)))
	if unlikeThings(all) {
		return nil, impl.ErrKind
	}
	if len(all) > 1024 {
		return nil, impl.ErrMany
	}
	return all, impl.OK
}

// A picking is what BranchPick is handed beside the logs.
type picking struct {
	actor, seq, by int
}

// pickOf says by the document's words what is picked.
func pickOf(from, onto []impl.Op, p picking) (impl.Op, int) {
	if !validLog(from) || !validLog(onto) {
		return impl.Op{}, impl.ErrBad
	}
	if !goodActor(p.by) {
		return impl.Op{}, impl.ErrRange
	}
	i := slices.IndexFunc(from, func(op impl.Op) bool { return op.Actor == p.actor && op.Seq == p.seq })
	if i < 0 {
		return impl.Op{}, impl.ErrMissing
	}
	op := from[i]
	if unlikeThings(slices.Concat(deedsOn(onto, op.Obj), []impl.Op{op})) {
		return impl.Op{}, impl.ErrKind
	}
	if op.At != start() && !slices.ContainsFunc(onto, func(other impl.Op) bool {
		return other.Kind == impl.OIns && other.Obj == op.Obj && told8(other) == op.At
	}) {
		return impl.Op{}, impl.ErrCause
	}
	if len(onto) >= 1024 || !goodTime(timeAbove(onto, p.by)) {
		return impl.Op{}, impl.ErrMany
	}
	return nextDeed(onto, p.by, undoes(0, op)), impl.OK
}

// checkBranches holds all calls but BranchPick against the other program, both ways round, and gives the merge's code.
func checkBranches(t *testing.T, what string, a, b []impl.Op) int {
	t.Helper()
	one := checkOneWay(t, what, a, b)
	other := checkOneWay(t, what+", the other way round", b, a)
	if one != other {
		t.Errorf("%s: code %d, the other way round %d", what, one, other)
	}
	return one
}

func checkOneWay(t *testing.T, what string, a, b []impl.Op) int {
	t.Helper()
	apart := branchCode(a, b)
	var base impl.Vector
	var ahead []impl.Op
	if apart == impl.OK {
		base, ahead = baseOf(a, b), aheadOf(a, b)
	}
	if got, code := impl.BranchBase(a, b); code != apart || !sameVector(got, base) {
		t.Errorf("%s: BranchBase of %s and %s: %v, code %d, want %v, code %d", what, brief(a), brief(b), got, code, base, apart)
	}
	if got, code := impl.BranchAhead(a, b); code != apart || !sameLog(got, ahead) {
		t.Errorf("%s: BranchAhead of %s and %s: %s, code %d, want %s, code %d", what, brief(a), brief(b), brief(got), code, brief(ahead), apart)
	}
	want, wantCode := mergeOf(a, b)
	got, code := impl.BranchMerge(a, b)
	if code != wantCode || !sameLog(got, want) {
		t.Errorf("%s: BranchMerge of %s and %s: %s, code %d, want %s, code %d", what, brief(a), brief(b), brief(got), code, brief(want), wantCode)
	}
	if apart == impl.OK {
		checkBackTogether(t, what, a, b)
	}
	if code == impl.OK {
		checkMerged(t, what, a, b, got)
	}
	return code
}

// checkBackTogether asks that what both have is a log, and with what is ahead the whole log again.
func checkBackTogether(t *testing.T, what string, a, b []impl.Op) {
	t.Helper()
	base, _ := impl.BranchBase(a, b)
	ahead, _ := impl.BranchAhead(a, b)
	both := slices.DeleteFunc(copyLog(a), func(op impl.Op) bool { return op.Seq > base.Counts[op.Actor] })
	if again, waits, code := impl.LogAdd(both, ahead); code != impl.OK || len(waits) != 0 || !sameLog(again, a) {
		t.Errorf("%s: %s upon %s is %s, %s wait, code %d, want %s", what, brief(ahead), brief(both), brief(again), brief(waits), code, brief(a))
	}
}

// checkMerged asks of a merge that it is a log with all of both and nothing beside, and that merging it does nothing
// twice.
func checkMerged(t *testing.T, what string, a, b, all []impl.Op) {
	t.Helper()
	if !impl.LogOK(all) {
		t.Errorf("%s: no log: %s", what, brief(all))
	}
	v, _ := impl.LogVector(a)
	w, _ := impl.LogVector(b)
	u, _ := impl.LogVector(all)
	if !sameVector(joined(t, v, w), u) {
		t.Errorf("%s: %v and %v make %v", what, v, w, u)
	}
	for name, log := range map[string][]impl.Op{"the first": a, "the second": b, "itself": all} {
		if again, code := impl.BranchMerge(all, log); code != impl.OK || !sameLog(again, all) {
			t.Errorf("%s: merged with %s once more: %s, code %d, was %s", what, name, brief(again), code, brief(all))
		}
		if again, code := impl.BranchMerge(log, all); code != impl.OK || !sameLog(again, all) {
			t.Errorf("%s: %s merged with it: %s, code %d, was %s", what, name, brief(again), code, brief(all))
		}
		if ahead, code := impl.BranchAhead(log, all); code != impl.OK || len(ahead) != 0 {
			t.Errorf("%s: %s has %s that is not in it, code %d", what, name, brief(ahead), code)
		}
		part, code := impl.LogVector(log)
		if base, baseCode := impl.BranchBase(log, all); code != impl.OK || baseCode != impl.OK || !sameVector(base, part) {
			t.Errorf("%s: %s and it have %v, code %d, want %v", what, name, base, baseCode, part)
		}
	}
}

// A parted is what is told of two logs that went apart, and the document of both (where that is not asked: empty).
type parted struct {
	base                impl.Vector
	left, right, merged []impl.Op
	text                string
}

// checkParted asks for answers that are written down, and holds them against the other program.
func checkParted(t *testing.T, what string, a, b []impl.Op, want parted) {
	t.Helper()
	checkWritten(t, what, a, b, want)
	checkBranches(t, what, a, b)
}

// checkWritten asks for answers that are written down, both ways round.
func checkWritten(t *testing.T, what string, a, b []impl.Op, want parted) {
	t.Helper()
	checkAheadOnly(t, what, a, b, want)
	for _, c := range [][2][]impl.Op{{a, b}, {b, a}} {
		got, code := impl.BranchMerge(c[0], c[1])
		if code != impl.OK || !sameLog(got, want.merged) {
			t.Errorf("%s: BranchMerge %s, code %d, want %s", what, brief(got), code, brief(want.merged))
		}
		if text, code := impl.DocText(got); want.text != "" && (text != want.text || code != impl.OK) {
			t.Errorf("%s: the merge tells %q, code %d, want %q", what, text, code, want.text)
		}
	}
}

// checkAheadOnly asks for what both have and what is ahead, which is told also where there is no merge.
func checkAheadOnly(t *testing.T, what string, a, b []impl.Op, want parted) {
	t.Helper()
	for _, c := range []struct{ a, b, left []impl.Op }{{a, b, want.left}, {b, a, want.right}} {
		if got, code := impl.BranchBase(c.a, c.b); code != impl.OK || !sameVector(got, want.base) {
			t.Errorf("%s: BranchBase %v, code %d, want %v", what, got, code, want.base)
		}
		if got, code := impl.BranchAhead(c.a, c.b); code != impl.OK || !sameLog(got, c.left) {
			t.Errorf("%s: BranchAhead %s, code %d, want %s", what, brief(got), code, brief(c.left))
		}
	}
}

// checkNotParted asks for one code of all calls but BranchPick, both ways round, and nothing beside it.
func checkNotParted(t *testing.T, what string, a, b []impl.Op, want int) {
	t.Helper()
	for _, c := range [][2][]impl.Op{{a, b}, {b, a}} {
		if got, code := impl.BranchBase(c[0], c[1]); code != want || len(got.Counts) != 0 {
			t.Errorf("%s: BranchBase %v, code %d, want code %d", what, got, code, want)
		}
		if got, code := impl.BranchAhead(c[0], c[1]); code != want || len(got) != 0 {
			t.Errorf("%s: BranchAhead %s, code %d, want code %d", what, brief(got), code, want)
		}
	}
	checkNotMerged(t, what, a, b, want)
}

// checkNotMerged asks for a code of BranchMerge, both ways round, and nothing beside it.
func checkNotMerged(t *testing.T, what string, a, b []impl.Op, want int) {
	t.Helper()
	for _, c := range [][2][]impl.Op{{a, b}, {b, a}} {
		if got, code := impl.BranchMerge(c[0], c[1]); code != want || len(got) != 0 {
			t.Errorf("%s: BranchMerge %s, code %d, want code %d", what, brief(got), code, want)
		}
	}
}

// checkPicked asks for one answer of BranchPick that is written down, and holds it against the other program.
func checkPicked(t *testing.T, what string, from, onto []impl.Op, p picking, want impl.Op) {
	t.Helper()
	checkPickedOnce(t, what, from, onto, p, want)
	checkPicking(t, what, from, onto, p)
}

// checkPickedOnce asks for one answer of BranchPick that is written down.
func checkPickedOnce(t *testing.T, what string, from, onto []impl.Op, p picking, want impl.Op) {
	t.Helper()
	if got, code := impl.BranchPick(from, p.actor, p.seq, onto, p.by); code != impl.OK || !sameDeed(got, want) {
		t.Errorf("%s: BranchPick %v: %v, code %d, want %v", what, p, got, code, want)
	}
}

// checkNotPicked asks for a code of BranchPick, and nothing beside it.
func checkNotPicked(t *testing.T, what string, from, onto []impl.Op, p picking, want int) {
	t.Helper()
	if got, code := impl.BranchPick(from, p.actor, p.seq, onto, p.by); code != want || !sameDeed(got, impl.Op{}) {
		t.Errorf("%s: BranchPick %v: %v, code %d, want code %d", what, p, got, code, want)
	}
}

// checkPicking holds BranchPick against the other program; what is picked must come into the other log, and do there
// what it did.
func checkPicking(t *testing.T, what string, from, onto []impl.Op, p picking) int {
	t.Helper()
	want, wantCode := pickOf(from, onto, p)
	got, code := impl.BranchPick(from, p.actor, p.seq, onto, p.by)
	if code != wantCode || !sameDeed(got, want) {
		t.Errorf("%s: BranchPick %v of %s onto %s: %v, code %d, want %v, code %d", what, p, brief(from), brief(onto), got, code, want, wantCode)
		return code
	}
	if code != impl.OK {
		return code
	}
	with, waits, added := impl.LogAdd(onto, []impl.Op{got})
	if added != impl.OK || len(waits) != 0 || len(with) != len(onto)+1 || !validDeed(got) || !hasDeed(with, got) {
		t.Errorf("%s: %v does not come into %s: %s wait, code %d", what, got, brief(onto), brief(waits), added)
		return code
	}
	checkDidAgain(t, what, onto, with, got)
	return code
}

// checkDidAgain asks that what was picked does what its fields say, upon what was there, and nothing else.
func checkDidAgain(t *testing.T, what string, onto, with []impl.Op, picked impl.Op) {
	t.Helper()
	before, code := impl.DocText(onto)
	after, afterCode := impl.DocText(with)
	if code != afterCode {
		t.Errorf("%s: the document has code %d, had %d", what, afterCode, code)
	}
	if code != impl.OK {
		return
	}
	old, now := linesByObj(before), linesByObj(after)
	want := againLine(onto, old[picked.Obj], picked)
	if picked.Kind == impl.OSet && !sameWords(now[picked.Obj], want) || picked.Kind != impl.OSet && now[picked.Obj] != want {
		t.Errorf("%s: %q, want %q", what, now[picked.Obj], want)
	}
	delete(old, picked.Obj)
	delete(now, picked.Obj)
	if fmt.Sprint(old) != fmt.Sprint(now) {
		t.Errorf("%s: other objects changed: %v, were %v", what, now, old)
	}
}

func linesByObj(text string) map[int]string {
	lines := map[int]string{}
	for _, line := range textLines(text) {
		lines[objNumber(line)] = line
	}
	return lines
}

// sameWords tells whether two lines of a map tell the same pairs.
func sameWords(a, b string) bool {
	x, y := strings.Fields(a), strings.Fields(b)
	slices.Sort(x)
	slices.Sort(y)
	return slices.Equal(x, y)
}

// againLine says what is told of an object when something was done to it, from what was told ahead of it; of a map
// the pairs stand in any order.
func againLine(onto []impl.Op, line string, done impl.Op) string {
	switch done.Kind {
	case impl.OSet:
		name := byNumbers(done.Key) + "="
		pairs := []string{"map", fmt.Sprint(done.Obj)}
		for _, pair := range strings.Fields(line)[min(2, len(strings.Fields(line))):] {
			if !strings.HasPrefix(pair, name) {
				pairs = append(pairs, pair)
			}
		}
		if done.Text != "" {
			pairs = append(pairs, name+byNumbers(done.Text))
		}
		return strings.Join(pairs, " ")
	case impl.OAdd:
		sum := 0
		for _, op := range deedsOn(onto, done.Obj) {
			sum += op.N
		}
		return fmt.Sprintf("count %d %d", done.Obj, sum+done.N)
	}
	return fmt.Sprintf("list %d %s", done.Obj, byNumbers(againText(onto, done)))
}

// againText is the text of a list with a character put right behind another one, or without it.
func againText(onto []impl.Op, done impl.Op) string {
	text := ""
	if done.Kind == impl.OIns && done.At == start() {
		text = string(rune(done.N))
	}
	for _, p := range row(listDeeds(onto, done.Obj)) {
		meant := p.id == done.At
		if !p.gone && !(meant && done.Kind == impl.ODel) {
			text += string(p.char)
		}
		if meant && done.Kind == impl.OIns {
			text += string(rune(done.N))
		}
	}
	return text
}

// logsAmong gives all logs that some of these operations are.
func logsAmong(pool []impl.Op) [][]impl.Op {
	var logs [][]impl.Op
	for set := range 1 << len(pool) {
		var some []impl.Op
		for i, op := range pool {
			if set&(1<<i) != 0 {
				some = append(some, op)
			}
		}
		if log := inOrder(some); validLog(log) {
			logs = append(logs, log)
		}
	}
	return logs
}
