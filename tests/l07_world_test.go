package tests

import (
	"math/rand"
	"slices"
	"testing"

	"loop.example/g00028/impl"
)

// A keeper sets values of a table, and hears of others what they did.
type keeper struct {
	ops []impl.RowOp
}

func (k *keeper) does(t *testing.T, s setting) {
	t.Helper()
	k.ops = withSet(t, fourColumns(), k.ops, s)
}

// holds tells whether a keeper knows of no clash.
func (k *keeper) holds() bool {
	_, clashes := sheetOf(fourColumns(), k.ops)
	return len(clashes) == 0
}

// careful does one thing, and takes it back if the keeper sees it clash where nothing did.
func (k *keeper) careful(t *testing.T, random *rand.Rand, actor int) {
	t.Helper()
	s := setting{actor: actor, row: someKeys()[random.Intn(3)], text: []string{"+", "+", "-"}[random.Intn(3)]}
	if random.Intn(3) > 0 {
		s.column, s.text = fourColumns()[random.Intn(4)].Name, someKeys()[random.Intn(3)]
	}
	checkSetting(t, fourColumns(), k.ops, s)
	before := k.ops
	held := k.holds()
	k.does(t, s)
	if held && !k.holds() {
		k.ops = before
	}
}

// hears takes all that another has, and what it has itself comes behind that.
func (k *keeper) hears(other *keeper) {
	heard := slices.Clone(other.ops)
	for _, op := range k.ops {
		if !slices.Contains(heard, op) {
			heard = append(heard, op)
		}
	}
	k.ops = heard
}

// Keepers that are careful by themselves and clash together: all that have heard all tell the same table, in which the
// promise holds, whatever came first.
func TestP9KeepersInAWorld(t *testing.T) {
	kinds := map[int]int{}
	for seed := range 60 {
		random := rand.New(rand.NewSource(int64(seed)))
		var keepers [replicas]*keeper
		for i := range replicas {
			keepers[i] = &keeper{}
		}
		for range 50 {
			i, other := random.Intn(replicas), random.Intn(replicas)
			if random.Intn(5) == 0 {
				keepers[i].hears(keepers[other])
			} else {
				keepers[i].careful(t, random, actor(i))
			}
		}
		all := &keeper{}
		for _, k := range keepers {
			all.hears(k)
		}
		rows, clashes := sheetOf(fourColumns(), all.ops)
		for _, c := range clashes {
			kinds[c.Kind]++
		}
		for _, k := range keepers {
			for _, i := range random.Perm(replicas) {
				k.hears(keepers[i])
			}
			checkTableOf(t, "heard all", fourColumns(), k.ops, rows, clashes...)
			checkTable(t, fourColumns(), mixed(random, k.ops))
		}
	}
	if kinds[impl.Twice] < 20 || kinds[impl.Loose] < 20 {
		t.Errorf("only %d and %d clashes", kinds[impl.Twice], kinds[impl.Loose])
	}
}

// Two take the same name at the same time: on both sides the one with the lesser Id has it, which the actors decide.
// When that one lets it go, the other one has it without doing anything.
func TestP9SetAtTheSameTime(t *testing.T) {
	base := &keeper{}
	base.does(t, setting{actor: 7, row: "a", text: "+"})
	base.does(t, setting{actor: 7, row: "b", text: "+"})
	for _, pair := range [][2]int{{8, 9}, {9, 8}, {0, 15}, {15, 0}, {3, 8}, {8, 3}} {
		left, right := &keeper{ops: base.ops}, &keeper{ops: base.ops}
		left.does(t, setting{actor: pair[0], row: "a", column: "one", text: "x"})
		right.does(t, setting{actor: pair[1], row: "b", column: "one", text: "x"})
		first, second := left.ops[2], right.ops[2]
		if impl.StampLess(second.Id, first.Id) {
			first, second = second, first
		}
		show := map[string]string{first.Row: "x"}
		want := []impl.Row{shown("a", "", "", show["a"], ""), shown("b", "", "", show["b"], "")}
		checkEveryTable(t, "at the same time", fourColumns(), slices.Concat(left.ops, right.ops[2:]), want, twice(second.Row, "one"))
		left.hears(right)
		left.does(t, setting{actor: 1, row: first.Row, column: "one", text: ""})
		show = map[string]string{second.Row: "x"}
		checkTableOf(t, "let go", fourColumns(), left.ops, []impl.Row{shown("a", "", "", show["a"], ""), shown("b", "", "", show["b"], "")})
	}
}

// One links to a row that another one takes away at the same time: the Link shows nothing, until the row is back.
func TestP9TakenAwayAtTheSameTime(t *testing.T) {
	base := &keeper{}
	base.does(t, setting{actor: 7, row: "a", text: "+"})
	base.does(t, setting{actor: 7, row: "b", text: "+"})
	for _, pair := range [][2]int{{8, 9}, {9, 8}, {0, 15}, {15, 0}} {
		left, right := &keeper{ops: base.ops}, &keeper{ops: base.ops}
		left.does(t, setting{actor: pair[0], row: "a", column: "link", text: "b"})
		right.does(t, setting{actor: pair[1], row: "b", text: "-"})
		checkEveryTable(t, "taken away", fourColumns(), slices.Concat(left.ops, right.ops[2:]), []impl.Row{shown("a", "", "", "", "")}, loose("a", "link"))
		right.hears(left)
		right.does(t, setting{actor: 3, row: "b", text: "+"})
		checkTableOf(t, "back", fourColumns(), right.ops, []impl.Row{shown("a", "", "b", "", ""), shown("b", "", "", "", "")})
	}
}
