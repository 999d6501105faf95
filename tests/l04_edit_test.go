package tests

import (
	"math"
	"math/rand"
	"slices"
	"strings"
	"testing"

	"loop.example/g00028/impl"
)

// editOps writes down what the document says of an edit that has no fault.
func editOps(t *testing.T, ops []impl.LOp, e edit) []impl.LOp {
	t.Helper()
	seen := seenOf(row(ops))
	var ids []impl.Stamp
	for _, op := range ops {
		ids = append(ids, op.Id)
	}
	id, code := impl.StampNext(ids, e.actor)
	wantCode(t, "StampNext", code, impl.OK)
	var list []impl.LOp
	for i := range e.gone {
		list = append(list, del(id.Time+i, e.actor, seen[e.place+i].id))
	}
	at := start()
	if e.place > 0 {
		at = seen[e.place-1].id
	}
	for i, char := range []rune(e.text) {
		list = append(list, ins(id.Time+e.gone+i, e.actor, at, int(char)))
		at = list[e.gone+i].Id
	}
	return list
}

// exchanged is a text with a piece of it exchanged.
func exchanged(text string, e edit) string {
	runes := []rune(text)
	return string(runes[:e.place]) + e.text + string(runes[e.place+e.gone:])
}

// checkExchange checks the operations of an edit, and that they do to the text just what the edit says.
func checkExchange(t *testing.T, ops []impl.LOp, e edit) {
	t.Helper()
	want := editOps(t, ops, e)
	checkEdit(t, ops, e, want, impl.OK)
	with := slices.Concat(ops, want)
	checkText(t, "with the edit", with, exchanged(listText(t, ops), e))
	checkText(t, "the edit ahead", slices.Concat(want, ops), exchanged(listText(t, ops), e))
	checkMerge(t, ops, with, once(with), impl.OK)
}

// lists are some to be edited: with characters that were taken away at the beginning, in the middle, at the end, and all.
func lists() [][]impl.LOp {
	a, b, c, d := stamp(1, 0), stamp(2, 0), stamp(2, 15), stamp(4, 7)
	four := []impl.LOp{ins(1, 0, start(), 'a'), ins(2, 0, a, 0x20ac), ins(2, 15, a, 0x1f600), ins(4, 7, b, 'd')}
	var all [][]impl.LOp
	for gone := range 16 {
		list := slices.Clone(four)
		for i, at := range []impl.Stamp{a, b, c, d} {
			if gone>>i%2 == 1 {
				list = append(list, del(5+i, 9, at))
			}
		}
		all = append(all, list, append(slices.Clone(list), ins(10, 3, c, 'e'), ins(10, 4, start(), 'f'), four[1]))
	}
	return append(all, nil, lined(5, 15))
}

func TestP6EveryEdit(t *testing.T) {
	for _, ops := range lists() {
		size := len([]rune(listText(t, ops)))
		for place := range size + 1 {
			for gone := range size - place + 1 {
				for _, text := range []string{"", "x", "\u00e9\x00z", "\U0010ffff\ufffd\ud7ff\ue000\u0800"} {
					for _, actor := range []int{0, 7, 15} {
						checkExchange(t, ops, edit{actor, place, gone, text})
					}
				}
			}
		}
	}
}

func TestP6AnyEdits(t *testing.T) {
	random := rand.New(rand.NewSource(9))
	for range 1500 {
		ops := anyList(random, random.Intn(20))
		size := len([]rune(listText(t, ops)))
		e := edit{actor: random.Intn(16), place: random.Intn(size + 1), text: strings.Repeat("\u00e9x", random.Intn(4))}
		e.gone = random.Intn(size - e.place + 1)
		checkExchange(t, ops, e)
	}
}

// One edit behind the other, each upon what came of the one ahead.
func TestP6ManyEdits(t *testing.T) {
	random := rand.New(rand.NewSource(10))
	for range 30 {
		var ops []impl.LOp
		text := ""
		for range 40 {
			size := len([]rune(text))
			e := edit{actor: random.Intn(3), place: random.Intn(size + 1), text: []string{"", "\u00e9", "word", "\n\n"}[random.Intn(4)]}
			e.gone = random.Intn(min(size-e.place, 5) + 1)
			ops = edited(t, ops, e)
			text = exchanged(text, e)
			checkText(t, "edited", ops, text)
		}
	}
}

func TestP6WrongPlaces(t *testing.T) {
	ops := append(lined(4, 2), del(9, 9, stamp(2, 2)))
	for _, e := range []edit{
		{actor: -1}, {actor: 16}, {actor: math.MinInt}, {actor: math.MaxInt},
		{place: -1}, {place: 4}, {place: math.MinInt}, {place: math.MaxInt}, {gone: -1}, {gone: 4}, {gone: math.MinInt}, {gone: math.MaxInt},
		{place: 1, gone: 3}, {place: 3, gone: 1}, {place: 2, gone: math.MaxInt}, {place: math.MaxInt, gone: math.MaxInt}, {place: -1, gone: 2}, {place: 3, gone: -1},
		{place: math.MaxInt, gone: 1}, {place: 1, gone: math.MaxInt}, {place: math.MinInt, gone: math.MinInt},
	} {
		for _, text := range []string{"", "x", "\xff", letters(impl.MaxBytes)} {
			e.text = text
			checkEdit(t, ops, e, nil, impl.ErrRange)
		}
	}
	checkExchange(t, ops, edit{place: 3})
	checkExchange(t, ops, edit{gone: 3, text: "all"})
	checkEdit(t, nil, edit{place: 1}, nil, impl.ErrRange)
	checkEdit(t, nil, edit{gone: 1}, nil, impl.ErrRange)
	checkExchange(t, nil, edit{actor: 15, text: "x"})
}

func TestP6Forms(t *testing.T) {
	for _, text := range []string{
		"\xff", "\xfe", "\x80", "\xbf", "\xc3", "\xe2\x82", "\xf0\x9f\x98", "\xe2", "\xf0", "a\xc3", "\xc3(", "\xe2\x82(",
		"\xc0\x80", "\xc1\xbf", "\xe0\x80\x80", "\xe0\x9f\xbf", "\xf0\x80\x80\x80", "\xf0\x8f\xbf\xbf", "\xf8\x88\x80\x80\x80", "\xfc\x84\x80\x80\x80\x80",
		"\xed\xa0\x80", "\xed\xbf\xbf", "\xed\xa0\xbd\xed\xb8\x80", "\xf4\x90\x80\x80", "\xf5\x80\x80\x80", "\xf7\xbf\xbf\xbf",
	} {
		for _, whole := range []string{text, "ab" + text, text + "ab", "\ufffd" + text} {
			checkEdit(t, goodOps(), edit{actor: 1, text: whole}, nil, impl.ErrForm)
		}
	}
	for _, text := range []string{
		"\x00", "\x7f", "\u0080", "\u07ff", "\u0800", "\ud7ff", "\ue000", "\ufffd", "\ufffe", "\uffff", "\U00010000", "\U0010ffff", "\xed\x9f\xbf", "\xee\x80\x80", "\xf4\x8f\xbf\xbf",
	} {
		checkExchange(t, goodOps(), edit{actor: 1, place: 1, text: "a" + text + "b" + text})
	}
	// All that is well-formed comes back.
	for low := 0; low <= 1114111; low += 1024 {
		var runes []rune
		for char := low; char < low+1024 && char <= 1114111; char++ {
			if char < 55296 || char > 57343 {
				runes = append(runes, rune(char))
			}
		}
		checkText(t, "of every character", edited(t, nil, edit{text: string(runes)}), string(runes))
	}
}

func TestP6Limit(t *testing.T) {
	ops := lined(1000, 4)
	checkText(t, "just MaxOps", edited(t, ops, edit{text: letters(1048)}), letters(1048)+listText(t, ops))
	checkEdit(t, ops, edit{text: letters(1049)}, nil, impl.ErrMany)
	checkText(t, "just MaxOps, some of them taken away", edited(t, ops, edit{gone: 1000, text: letters(48)}), letters(48))
	checkEdit(t, ops, edit{gone: 1000, text: letters(49)}, nil, impl.ErrMany)
	checkEdit(t, ops, edit{gone: 999, place: 1, text: letters(50)}, nil, impl.ErrMany)
	// Characters are counted, not bytes.
	checkText(t, "long characters", edited(t, ops, edit{text: strings.Repeat("\U0001f600", 1048)}), strings.Repeat("\U0001f600", 1048)+listText(t, ops))
	checkEdit(t, ops, edit{text: strings.Repeat("\U0001f600", 1049)}, nil, impl.ErrMany)
	full := lined(impl.MaxOps, 4)
	checkEdit(t, full, edit{place: 7}, nil, impl.OK)
	checkEdit(t, full, edit{gone: 1}, nil, impl.ErrMany)
	checkEdit(t, full, edit{text: "x"}, nil, impl.ErrMany)
	checkText(t, "nothing at first", edited(t, nil, edit{text: letters(impl.MaxOps)}), letters(impl.MaxOps))
	checkEdit(t, nil, edit{text: letters(impl.MaxOps + 1)}, nil, impl.ErrMany)
	// What came twice counts once.
	twice := slices.Concat(ops, ops)
	checkEdit(t, twice, edit{text: letters(1048)}, editOps(t, ops, edit{text: letters(1048)}), impl.OK)
	checkEdit(t, twice, edit{text: letters(1049)}, nil, impl.ErrMany)
}

func TestP6LastStamps(t *testing.T) {
	last := func(time, actor int) []impl.LOp {
		return []impl.LOp{ins(time, actor, start(), 'a'), ins(1, 0, start(), 'b')}
	}
	for _, c := range []struct {
		ops         []impl.LOp
		actor, room int
	}{
		{last(impl.MaxTime-3, 5), 5, 3}, {last(impl.MaxTime-3, 5), 6, 4}, {last(impl.MaxTime-3, 5), 4, 3}, {last(impl.MaxTime-1, 0), 0, 1},
		{last(impl.MaxTime, 5), 6, 1}, {last(impl.MaxTime, 5), 5, 0}, {last(impl.MaxTime, 5), 0, 0}, {last(impl.MaxTime, 15), 15, 0}, {last(impl.MaxTime-1, 15), 15, 1},
		// The stamp of what takes away counts as well.
		{append(last(3, 3), del(impl.MaxTime-1, 9, stamp(1, 0))), 9, 1}, {append(last(3, 3), del(impl.MaxTime-1, 9, stamp(1, 0))), 10, 2},
	} {
		for size := range 6 {
			e := edit{actor: c.actor, text: letters(size)}
			other := edit{actor: c.actor, gone: min(size, 1), text: letters(size - min(size, 1))}
			if size > c.room {
				checkEdit(t, c.ops, e, nil, impl.ErrMany)
				checkEdit(t, c.ops, other, nil, impl.ErrMany)
			} else if size == 0 {
				// Nothing is done, so no stamp is needed.
				checkEdit(t, c.ops, e, nil, impl.OK)
			} else {
				checkExchange(t, c.ops, e)
				checkExchange(t, c.ops, other)
			}
		}
	}
}

// Two faults at once: that of the operations goes first, then places, forms and numbers.
func TestP6OrderOfCodes(t *testing.T) {
	full, late := lined(impl.MaxOps, 4), []impl.LOp{ins(impl.MaxTime, 15, start(), 'a')}
	bad := []impl.LOp{{}}
	long := letters(impl.MaxBytes + 1)
	for _, ops := range [][]impl.LOp{nil, goodOps(), bad, full, {ins(2, 0, stamp(1, 0), 'a')}} {
		checkEdit(t, ops, edit{text: long}, nil, impl.ErrLong)
		checkEdit(t, ops, edit{actor: -1, place: -1, text: long}, nil, impl.ErrLong)
		checkEdit(t, ops, edit{text: long[1:] + "\xff"}, nil, impl.ErrLong)
	}
	checkEdit(t, bad, edit{text: long[1:]}, nil, impl.ErrBad)
	checkEdit(t, goodOps(), edit{text: long[1:]}, nil, impl.ErrMany)
	checkEdit(t, goodOps(), edit{text: long[2:] + "\xff"}, nil, impl.ErrForm)
	checkEdit(t, bad, edit{actor: -1}, nil, impl.ErrBad)
	for _, ops := range [][]impl.LOp{full, late} {
		checkEdit(t, ops, edit{actor: 16, text: "\xff"}, nil, impl.ErrRange)
		checkEdit(t, ops, edit{place: -1, text: "x"}, nil, impl.ErrRange)
		checkEdit(t, ops, edit{text: "\xff"}, nil, impl.ErrForm)
		checkEdit(t, ops, edit{text: "x"}, nil, impl.ErrMany)
	}
}
