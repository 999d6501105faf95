package tests

import (
	"math/rand"
	"slices"
	"testing"

	"loop.example/g00028/impl"
)

// A diarist does operations upon its log, and keeps those of others that wait.
type diarist struct {
	actor      int
	log, waits []impl.Op
}

// does makes the next operation of a diarist, who knows all of its log.
func (d *diarist) does(t *testing.T, random *rand.Rand) {
	t.Helper()
	knew, code := impl.LogVector(d.log)
	wantCode(t, "LogVector", code, impl.OK)
	var stamps []impl.Stamp
	for _, op := range d.log {
		stamps = append(stamps, told8(op))
	}
	next, code := impl.StampNext(stamps, d.actor)
	wantCode(t, "StampNext", code, impl.OK)
	op := by(d.actor, knew.Counts[d.actor]+1, next.Time, knew.Counts...)
	switch random.Intn(4) {
	case 0:
		op = opSet(op, 1+random.Intn(3), names()[random.Intn(3)], "text")
	case 1:
		op = opIns(op, 4+random.Intn(3), 'a'+random.Intn(26), start())
	case 2:
		op = opAdd(op, 7+random.Intn(3), random.Intn(9)-4)
	case 3:
		op = opWith(opAdd(op, 7, 1), func(op *impl.Op) { op.Undo = random.Intn(op.Seq) })
	}
	d.hears(t, []impl.Op{op})
	if !hasDeed(d.log, op) {
		t.Errorf("%s did not come in", brief(op))
	}
}

// hears adds what came, and what waits with it.
func (d *diarist) hears(t *testing.T, more []impl.Op) {
	t.Helper()
	before := d.log
	var code int
	d.log, d.waits, code = checkAdd(t, d.log, slices.Concat(d.waits, more))
	wantCode(t, "LogAdd", code, impl.OK)
	for _, op := range slices.Concat(before, more) {
		if hasDeed(d.log, op) == hasDeed(d.waits, op) {
			t.Errorf("%s is lost, or it both came in and waits", brief(op))
		}
	}
	checkWaits(t, d.log, d.waits)
}

// checkWaits asks that each that waits has a cause that is not there (diarists make no stamps that cannot be).
func checkWaits(t *testing.T, log, waits []impl.Op) {
	t.Helper()
	have, _ := impl.LogVector(log)
	for _, op := range waits {
		if notAbove(op.Deps, have) {
			t.Errorf("%s waits and has all its causes", brief(op))
		}
	}
}

// Diarists that hear of each other some operations, in any order, some twice: all that have heard all have the same
// log, and nothing waits any more.
func TestP10DiaristsInAWorld(t *testing.T) {
	waited := 0
	for seed := range 40 {
		random := rand.New(rand.NewSource(int64(seed)))
		var diarists [replicas]*diarist
		for i := range replicas {
			diarists[i] = &diarist{actor: actor(i)}
		}
		for range 60 {
			d, other := diarists[random.Intn(replicas)], diarists[random.Intn(replicas)]
			if random.Intn(2) == 0 {
				d.does(t, random)
				continue
			}
			var some []impl.Op
			for _, op := range mixed(random, other.log) {
				if random.Intn(3) > 0 {
					some = append(some, op)
				}
			}
			d.hears(t, some)
			waited += len(d.waits)
		}
		var all []impl.Op
		for _, d := range diarists {
			all = append(all, d.log...)
		}
		want, _, code := impl.LogAdd(nil, all)
		wantCode(t, "all", code, impl.OK)
		for _, d := range diarists {
			for _, i := range random.Perm(replicas) {
				d.hears(t, mixed(random, diarists[i].log))
			}
			if !sameLog(d.log, want) || len(d.waits) != 0 {
				t.Errorf("seed %d: %d operations and %d that wait, want %d", seed, len(d.log), len(d.waits), len(want))
			}
		}
	}
	if waited < 200 {
		t.Errorf("only %d waited", waited)
	}
}

// Two that tell each other what the other's vector does not count have the same log, and it comes through as bytes.
func TestP10TellingByVectors(t *testing.T) {
	for seed := range 40 {
		random := rand.New(rand.NewSource(int64(seed)))
		left, right := &diarist{actor: 15}, &diarist{actor: 0}
		for range 30 {
			d, other := left, right
			if random.Intn(2) == 0 {
				d, other = right, left
			}
			d.does(t, random)
			if random.Intn(6) > 0 {
				continue
			}
			v, _ := impl.LogVector(other.log)
			more, code := impl.LogSince(d.log, v)
			wantCode(t, "LogSince", code, impl.OK)
			other.hears(t, more)
			if len(other.waits) != 0 {
				t.Errorf("seed %d: %s waits", seed, brief(other.waits))
			}
		}
		b, _ := impl.LogBytes(left.log)
		told, code := impl.ReadLog(b)
		wantCode(t, "ReadLog", code, impl.OK)
		back, _ := impl.LogBytes(right.log)
		heard, code := impl.ReadLog(back)
		wantCode(t, "ReadLog", code, impl.OK)
		right.hears(t, told)
		left.hears(t, heard)
		if !sameLog(left.log, right.log) || !sameLog(left.log, inOrder(left.log)) {
			t.Errorf("seed %d: %s and %s", seed, brief(left.log), brief(right.log))
		}
		checkBytes(t, "heard", left.log)
	}
}

// Operations at random, valid ones of which many have no causes, others counted and stamps that do not fit.
func TestP10AnyOperations(t *testing.T) {
	random := rand.New(rand.NewSource(84))
	codes := map[int]int{}
	came, waited := 0, 0
	for range 4000 {
		var pool []impl.Op
		for range 10 {
			op := by(random.Intn(3), 1+random.Intn(3), 1+random.Intn(12), random.Intn(2), random.Intn(2)*random.Intn(3), random.Intn(2))
			if random.Intn(12) > 0 {
				op = opAdd(op, 1+random.Intn(2), 1)
			} else {
				op = opSet(op, 1+random.Intn(2), "k", "t")
			}
			if !slices.ContainsFunc(pool, func(other impl.Op) bool { return other.Actor == op.Actor && other.Seq == op.Seq }) || random.Intn(40) == 0 {
				pool = append(pool, op)
			}
		}
		log, waits, code := checkAdd(t, nil, pool)
		codes[code]++
		came, waited = came+len(log), waited+len(waits)
		if code == impl.OK {
			checkAdd(t, log, mixed(random, pool))
			checkLog(t, "what came", log, true)
			// In another order the same comes in, and the same waits.
			turned := mixed(random, pool)
			checkAdded(t, "mixed", nil, turned, log, inTurn(turned, waits))
		}
	}
	if came < 2000 || waited < 2000 || codes[impl.ErrKind] < 50 || codes[impl.ErrFork] < 50 {
		t.Errorf("%d came, %d waited, codes %v", came, waited, codes)
	}
}

// inTurn gives operations as they first stand in a list.
func inTurn(list, ops []impl.Op) []impl.Op {
	var turned []impl.Op
	for _, op := range list {
		if hasDeed(ops, op) && !hasDeed(turned, op) {
			turned = append(turned, op)
		}
	}
	return turned
}
