package tests

import (
	"fmt"
	"math/rand"
	"strconv"
	"strings"
	"testing"

	"loop.example/g00028/impl"
)

// A keeping is one device alone, whose lines are done by the calls of the other chapters: all that it does is a run of
// StoreRun.
type keeping struct {
	number int
	off    bool
	run    []impl.StoreOp
	log    []impl.Op
}

// does gives what StoreRun tells behind one operation more.
func (k *keeping) does(t *testing.T, op impl.StoreOp) impl.StoreObs {
	t.Helper()
	k.run = append(k.run, op)
	told, code := impl.StoreRun(k.run)
	wantCode(t, "StoreRun", code, impl.OK)
	return told[len(told)-1]
}

// writes writes operations, syncs them, and gives the line that answers.
func (k *keeping) writes(t *testing.T, ops []func() impl.Op) string {
	t.Helper()
	code := impl.OK
	for _, op := range ops {
		deed := op()
		obs := k.does(t, written(deed))
		if code = obs.Code; code != impl.OK {
			break
		}
		k.log, _, code = impl.LogAdd(k.log, []impl.Op{deed})
		wantCode(t, "LogAdd", code, impl.OK)
	}
	obs := k.does(t, synced())
	if code == impl.OK {
		code = obs.Code
	}
	if code != impl.OK {
		return failed(code)
	}
	if obs.Ops != len(k.log) || obs.Synced != obs.Bytes {
		t.Errorf("%+v with %d operations", obs, len(k.log))
	}
	return fmt.Sprintf("ok %d\n", obs.Ops)
}

// types gives what ListEdit tells as operations of the log, each to be told when those ahead are written.
func (k *keeping) types(obj int, e edit) ([]func() impl.Op, int) {
	var list []impl.LOp
	for _, op := range k.log {
		if op.Obj == obj && (op.Kind == impl.OIns || op.Kind == impl.ODel) {
			list = append(list, impl.LOp{Kind: op.Kind - 1, Char: op.N, Id: told8(op), At: op.At})
		}
	}
	more, code := e.of(list)
	stamps := map[impl.Stamp]impl.Stamp{}
	var ops []func() impl.Op
	for _, op := range more {
		ops = append(ops, func() impl.Op {
			at := op.At
			if there, found := stamps[at]; found {
				at = there
			}
			deed := nextHere(k.log, k.number, impl.Op{Kind: op.Kind + 1, Obj: obj, N: op.Char, At: at})
			stamps[op.Id] = told8(deed)
			return deed
		})
	}
	return ops, code
}

// answers does a line and gives what answers it.
func (k *keeping) answers(t *testing.T, line string) string {
	t.Helper()
	words := strings.Split(strings.TrimSuffix(line, " "), " ")
	n := func(i int) int {
		number, err := strconv.Atoi(words[i])
		if err != nil {
			t.Fatal(err)
		}
		return number
	}
	turn := func(op impl.StoreOp) string {
		if code := k.does(t, op).Code; code != impl.OK {
			return failed(code)
		}
		k.off = !k.off
		return "ok\n"
	}
	one := func(op func() impl.Op) string { return k.writes(t, []func() impl.Op{op}) }
	switch {
	case words[0] == "show":
		obs := k.does(t, asked())
		if obs.Code != impl.OK {
			return failed(obs.Code)
		}
		if page, code := impl.DocText(k.log); page != obs.Text || code != impl.OK {
			t.Errorf("DocText %s, code %d, StoreRun %s", brief(page), code, brief(obs.Text))
		}
		return obs.Text + "end\n"
	case words[0] == "crash":
		return turn(crashed(n(2)))
	case words[0] == "start":
		return turn(started())
	case k.off:
		return failed(impl.ErrDown)
	case words[0] == "set":
		return one(func() impl.Op { return nextHere(k.log, k.number, writes(n(2), words[3], words[4])) })
	case words[0] == "add":
		return one(func() impl.Op { return nextHere(k.log, k.number, counts(n(2), n(3))) })
	case words[0] == "undo":
		op, code := impl.UndoOf(k.log, k.number)
		if code != impl.OK {
			return failed(code)
		}
		return one(func() impl.Op { return op })
	}
	ops, code := k.types(n(2), edit{actor: k.number, place: n(3), gone: n(4), text: strings.Join(words[5:], "")})
	if code != impl.OK {
		return failed(code)
	}
	return k.writes(t, ops)
}

// ownLine is a line of the device with this number, of all kinds that ask no other one.
func ownLine(random *rand.Rand, number int) string {
	obj := []int{1, 1, 2, 3, 3, 3, 3, 4, 5, 0, 101}[random.Intn(11)]
	switch random.Intn(16) {
	case 0, 1, 2:
		return fmt.Sprintf("set %d %d %c %s", number, []int{1, 2, obj}[random.Intn(3)], 'a'+random.Intn(3), []string{"x", "y", "\u00e9=", letters(201)}[random.Intn(4)])
	case 3, 4:
		return fmt.Sprintf("add %d %d %d", number, []int{5, 6, obj}[random.Intn(3)], random.Intn(21)-10)
	case 5, 6, 7, 8, 9:
		text := []string{"", "x", "yz", "\u00e9\u20ac", "abcd", "\xff", "x\xff"}[random.Intn(7)]
		return fmt.Sprintf("type %d %d %d %d %s", number, []int{3, 4, obj}[random.Intn(3)], random.Intn(5)-random.Intn(2), random.Intn(4)-random.Intn(2), text)
	case 10, 11:
		return fmt.Sprint("undo ", number)
	case 12:
		return fmt.Sprintf("crash %d %d", number, random.Intn(90)-9)
	case 13:
		return fmt.Sprint("start ", number)
	}
	return fmt.Sprint("show ", number)
}

// The lines of one device alone are held against StoreRun, ListEdit, UndoOf and DocText.
func TestP20LinesAreCalls(t *testing.T) {
	codes := map[string]int{}
	for seed := range 24 {
		random := rand.New(rand.NewSource(int64(180 + seed)))
		k := &keeping{number: seed % 4}
		script, want := "", ""
		for lines := 0; len(k.run) < 150 && lines < 200; lines++ {
			line := ownLine(random, k.number)
			if k.off && random.Intn(3) == 0 {
				line = fmt.Sprint("start ", k.number)
			}
			answer := k.answers(t, line)
			script, want = script+line+"\n", want+answer
			codes[strings.Fields(answer)[0]+strings.Fields(answer + " -")[1]]++
		}
		checkAnswer(t, fmt.Sprint("seed ", seed), script, want)
	}
	for _, answer := range []string{"error1", "error3", "error4", "error7", "error8", "error12"} {
		if codes[answer] < 10 {
			t.Errorf("%s came %d times", answer, codes[answer])
		}
	}
}

// A sync is held against SyncRun and BranchMerge: what it tells, and what both have behind it.
func TestP20SyncIsSyncRun(t *testing.T) {
	for mode := 1; mode <= 3; mode++ {
		for seed := range 25 {
			random := rand.New(rand.NewSource(int64(1800 + seed)))
			one, other := &keeping{number: seed % 4}, &keeping{number: (seed + 1 + seed%3) % 4}
			script, want := "", ""
			for range random.Intn(12) {
				for _, k := range []*keeping{one, other} {
					line := ownLine(random, k.number)
					if line[0] != 'c' {
						script, want = script+line+"\n", want+k.answers(t, line)
					}
				}
			}
			out, code := impl.SyncRun(one.log, other.log, mode)
			answer := failed(code)
			if code == impl.OK {
				answer = fmt.Sprintf("ok %d %d %d\n", out.Ops, out.Bytes, out.Rounds)
				one.log, other.log = out.Log, out.Log
			}
			script, want = script+fmt.Sprintf("sync %d %d %d\n", one.number, other.number, mode), want+answer
			for _, k := range []*keeping{one, other} {
				page, code := impl.DocText(k.log)
				wantCode(t, "DocText", code, impl.OK)
				script, want = script+fmt.Sprintf("show %[1]d\nadd %[1]d 77 1\n", k.number), want+fmt.Sprintf("%send\nok %d\n", page, len(k.log)+1)
			}
			checkAnswer(t, fmt.Sprint("mode ", mode, ", seed ", seed), script, want)
		}
	}
}
