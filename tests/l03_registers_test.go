package tests

import (
	"testing"

	"loop.example/g00028/impl"
)

func reg(time, actor int, text string) impl.Reg {
	return impl.Reg{Stamp: stamp(time, actor), Text: text}
}

// risingRegs are valid, each above the one ahead.
func risingRegs() []impl.Reg {
	return []impl.Reg{
		{}, reg(1, 0, ""), reg(1, 0, "\x00"), reg(1, 0, "A"), reg(1, 0, "a"), reg(1, 0, "a\x00"), reg(1, 0, "ab"), reg(1, 0, "b"), reg(1, 0, "\xff"),
		reg(1, 1, ""), reg(1, 1, letters(199)), reg(1, 1, letters(200)), reg(1, 15, "a"), reg(2, 0, ""), reg(2, 0, "a"), reg(10, 3, "z"),
		reg(impl.MaxTime-1, 15, "z"), reg(impl.MaxTime, 0, ""), reg(impl.MaxTime, 15, ""), reg(impl.MaxTime, 15, letters(200)),
	}
}

func wrongRegs() []impl.Reg {
	var list []impl.Reg
	for _, e := range wrongEntries() {
		if e != (impl.Entry{}) {
			list = append(list, impl.Reg(e))
		}
	}
	return list
}

func joinedRegs(t *testing.T, a, b impl.Reg) impl.Reg {
	t.Helper()
	r, code := impl.RegJoin(a, b)
	if code != impl.OK {
		t.Fatalf("RegJoin(%v, %v): code %d", a, b, code)
	}
	return r
}

func TestP4ValueLimits(t *testing.T) {
	if impl.MaxEntries != 256 || impl.MaxWord != 200 {
		t.Errorf("MaxEntries %d, MaxWord %d", impl.MaxEntries, impl.MaxWord)
	}
}

func TestP4GreaterRegisterStays(t *testing.T) {
	list := risingRegs()
	for i, a := range list {
		for j, b := range list {
			if got := joinedRegs(t, a, b); got != list[max(i, j)] {
				t.Errorf("RegJoin(%v, %v): %v", a, b, got)
			}
		}
	}
}

func TestP4RegistersWhateverFirst(t *testing.T) {
	list := risingRegs()
	for _, a := range list {
		for _, b := range list {
			for _, c := range list {
				left := joinedRegs(t, joinedRegs(t, a, b), c)
				right := joinedRegs(t, a, joinedRegs(t, c, b))
				if left != right || joinedRegs(t, left, a) != left || joinedRegs(t, b, right) != left {
					t.Errorf("%v, %v, %v: %v and %v", a, b, c, left, right)
				}
			}
		}
	}
}

// A register that is all zero is one that was never written.
func TestP4ZeroRegister(t *testing.T) {
	for _, r := range risingRegs() {
		if joinedRegs(t, impl.Reg{}, r) != r || joinedRegs(t, r, impl.Reg{}) != r {
			t.Errorf("the zero register takes %v away", r)
		}
	}
}

func TestP4WrongRegisters(t *testing.T) {
	wrong := append(wrongRegs(), impl.Reg{Text: "x"}, impl.Reg{Text: letters(201)}, reg(0, 1, ""), reg(1, 16, ""), reg(2, 2, letters(201)))
	for _, w := range wrong {
		for _, r := range append(risingRegs(), w) {
			if got, code := impl.RegJoin(w, r); got != (impl.Reg{}) || code != impl.ErrBad {
				t.Errorf("RegJoin(%.20v, %.20v): %.20v, code %d", w, r, got, code)
			}
			if got, code := impl.RegJoin(r, w); got != (impl.Reg{}) || code != impl.ErrBad {
				t.Errorf("RegJoin(%.20v, %.20v): %.20v, code %d", r, w, got, code)
			}
		}
	}
}
