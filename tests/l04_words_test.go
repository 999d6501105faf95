package tests

import (
	"math/rand"
	"slices"
	"strings"
	"testing"

	"loop.example/g00028/impl"
)

// A typedWord is a word that was typed: by which Id it begins, and the list with it.
type typedWord struct {
	word  string
	first impl.Stamp
	ops   []impl.LOp
}

// Words that several actors type at one place, none seeing the others', stand each in one piece, whoever hears whom
// first: the one that begins with the greatest Id ahead.
func TestP6WordsAtOnePlace(t *testing.T) {
	for _, ops := range lists() {
		text := listText(t, ops)
		for place := range len([]rune(text)) + 1 {
			var words []typedWord
			for i, word := range []string{"<one>", "<two>", "<seven>", "<x>"} {
				with := edited(t, ops, edit{actor: actor(i), place: place, text: word})
				words = append(words, typedWord{word, with[len(ops)].Id, with})
			}
			want := exchanged(text, edit{place: place, text: fallingWords(words)})
			everyOrder(words, func(w []typedWord) {
				all := merged(t, merged(t, w[0].ops, w[1].ops), merged(t, w[2].ops, w[3].ops))
				checkText(t, "words at one place", all, want)
			})
		}
	}
}

func fallingWords(words []typedWord) string {
	words = slices.Clone(words)
	slices.SortFunc(words, func(a, b typedWord) int {
		if impl.StampLess(b.first, a.first) {
			return -1
		}
		return 1
	})
	text := ""
	for _, w := range words {
		text += w.word
	}
	return text
}

// A typist types a word, a character at a time, behind its last one, wherever that has got to.
type typist struct {
	ops  []impl.LOp
	last impl.Stamp
	left []rune
}

func (p *typist) types(t *testing.T, actor int) {
	t.Helper()
	if len(p.left) == 0 {
		return
	}
	place := 1 + slices.IndexFunc(seenOf(row(p.ops)), func(c placed) bool { return c.id == p.last })
	more, code := impl.ListEdit(p.ops, actor, place, 0, string(p.left[:1]))
	wantCode(t, "ListEdit", code, impl.OK)
	p.ops = append(p.ops, more...)
	p.last = more[0].Id
	p.left = p.left[1:]
}

// Words typed by the character while others do so at the same place: what is heard in between does not part them.
func TestP6WordsTypedAtTheSameTime(t *testing.T) {
	words := []string{"<one>", "<\u00e9\u00e9>", "<seven>", "<four>", "<five>"}
	for seed := range 60 {
		random := rand.New(rand.NewSource(int64(seed)))
		base := edited(t, nil, edit{actor: 9, text: "base"})
		at := random.Intn(4)
		var typists [replicas]*typist
		for i := range replicas {
			typists[i] = &typist{ops: base, last: base[at].Id, left: []rune(words[i])}
		}
		for range 60 {
			i, other := random.Intn(replicas), random.Intn(replicas)
			if random.Intn(2) == 0 {
				typists[i].types(t, actor(i))
			} else {
				typists[i].ops = merged(t, typists[i].ops, typists[other].ops)
			}
		}
		checkTypists(t, typists[:], "base"[:at+1], "base"[at+1:], words)
	}
}

// checkTypists has all of them end their words and hear each other.
func checkTypists(t *testing.T, typists []*typist, ahead, behind string, words []string) {
	t.Helper()
	var all []impl.LOp
	for i, p := range typists {
		for len(p.left) > 0 {
			p.types(t, actor(i))
		}
		all = merged(t, all, p.ops)
	}
	text := listText(t, all)
	for _, p := range typists {
		checkText(t, "heard all", merged(t, p.ops, all), text)
	}
	if !strings.HasPrefix(text, ahead+"<") || !strings.HasSuffix(text, ">"+behind) {
		t.Errorf("%q does not begin with %q, or end with %q", text, ahead, behind)
	}
	for _, word := range words {
		if strings.Count(text, word) != 1 {
			t.Errorf("%q does not stand in one piece in %q", word, text)
		}
	}
}

// A world of replicas that edit and hear each other: each edit does what it says where it is made, and all that have
// heard all have the same operations and the same text.
func TestP5ListsInAWorld(t *testing.T) {
	for seed := range 40 {
		random := rand.New(rand.NewSource(int64(seed)))
		var held [replicas][]impl.LOp
		for range 50 {
			i, other := random.Intn(replicas), random.Intn(replicas)
			if random.Intn(3) == 0 {
				held[i] = merged(t, held[i], mixed(random, held[other]))
				continue
			}
			text := listText(t, held[i])
			e := edit{actor: actor(i), place: random.Intn(len(text) + 1), text: []string{"", "a", "bc", "def"}[random.Intn(4)]}
			e.gone = random.Intn(min(len(text)-e.place, 3) + 1)
			held[i] = edited(t, held[i], e)
			checkText(t, "with the edit", held[i], exchanged(text, e))
		}
		all := once(slices.Concat(held[:]...))
		want := textOf(seenOf(row(all)))
		for i := range replicas {
			for _, other := range append(random.Perm(replicas), random.Intn(replicas)) {
				held[i] = merged(t, held[i], held[other])
			}
			if !slices.Equal(held[i], all) {
				t.Errorf("seed %d: replica %d has %d operations of %d", seed, i, len(held[i]), len(all))
			}
			checkText(t, "at the end", held[i], want)
		}
	}
}

// What one takes away and another types behind at the same time stays, just where it was typed.
func TestP5TypedBehindWhatIsTakenAway(t *testing.T) {
	base := edited(t, nil, edit{text: "abcdef"})
	for place := range 7 {
		for from := range 7 {
			for gone := range 7 - from {
				typed := edited(t, base, edit{actor: 1, place: place, text: "XY"})
				taken := edited(t, base, edit{actor: 2, place: from, gone: gone})
				ahead := min(place, from) + max(0, place-from-gone)
				want := exchanged(exchanged("abcdef", edit{place: from, gone: gone}), edit{place: ahead, text: "XY"})
				checkText(t, "typed and taken", merged(t, typed, taken), want)
				checkText(t, "taken and typed", merged(t, taken, typed), want)
			}
		}
	}
}
