package tests

import (
	"reflect"
	"slices"
	"testing"

	"loop.example/g00028/impl"
)

// given is an AGive; knew are the counts of what its actor knew, its own aside.
func given(actor, seq, to, rights int, knew ...int) impl.AccessOp {
	op := by(actor, seq, 1, knew...)
	return impl.AccessOp{Actor: actor, Seq: seq, Deps: op.Deps, Kind: impl.AGive, To: to, Rights: rights}
}

// taken is an ATake of the operation of of the actor to.
func taken(actor, seq, to, of int, knew ...int) impl.AccessOp {
	op := by(actor, seq, 1, knew...)
	return impl.AccessOp{Actor: actor, Seq: seq, Deps: op.Deps, Kind: impl.ATake, To: to, Of: of}
}

// accessWith is a copy of an operation, changed.
func accessWith(op impl.AccessOp, change func(op *impl.AccessOp)) impl.AccessOp {
	op.Deps.Counts = slices.Clone(op.Deps.Counts)
	change(&op)
	return op
}

func copyAccess(list []impl.AccessOp) []impl.AccessOp {
	var copied []impl.AccessOp
	for _, op := range list {
		copied = append(copied, accessWith(op, func(*impl.AccessOp) {}))
	}
	return copied
}

// accessListWith is a list in new memory, one operation of which is changed.
func accessListWith(list []impl.AccessOp, i int, change func(op *impl.AccessOp)) []impl.AccessOp {
	copied := copyAccess(list)
	change(&copied[i])
	return copied
}

func sameAccess(a, b []impl.AccessOp) bool {
	return slices.EqualFunc(a, b, func(x, y impl.AccessOp) bool { return reflect.DeepEqual(x, y) })
}

// A book has operations of rights, and what each actor knows: what it wrote itself, and what it was told.
type book struct {
	ops   [16][]impl.AccessOp
	knows [16][16]int
}

// writes puts an operation down as the next one of its actor, upon what that one knows, and gives its Seq.
func (b *book) writes(op impl.AccessOp) int {
	op.Seq = len(b.ops[op.Actor]) + 1
	op.Deps = b.knownTo(op.Actor)
	b.ops[op.Actor] = append(b.ops[op.Actor], op)
	b.knows[op.Actor][op.Actor]++
	return op.Seq
}

func (b *book) gives(actor, to, rights int) int {
	return b.writes(given(actor, 1, to, rights))
}

func (b *book) takes(actor, to, of int) int {
	return b.writes(taken(actor, 1, to, of))
}

// tells lets actors know what one knows.
func (b *book) tells(from int, to ...int) {
	for _, actor := range to {
		for i, n := range b.knows[from] {
			b.knows[actor][i] = max(b.knows[actor][i], n)
		}
	}
}

// tellsAll lets everyone know all.
func (b *book) tellsAll() {
	for actor := range 16 {
		b.tells(actor, 0)
	}
	for actor := range 16 {
		b.tells(0, actor)
	}
}

func (b *book) knownTo(actor int) impl.Vector {
	return vector(b.knows[actor][:]...)
}

func (b *book) now() impl.Vector {
	v := vector()
	for actor, ops := range b.ops {
		v.Counts[actor] = len(ops)
	}
	return v
}

func (b *book) list() []impl.AccessOp {
	return copyAccess(slices.Concat(b.ops[:]...))
}

// sizesOf says how many operations of each actor there are.
func sizesOf(list []impl.AccessOp) impl.Vector {
	v := vector()
	for _, op := range list {
		if goodActor(op.Actor) {
			v.Counts[op.Actor]++
		}
	}
	return v
}

func countsIn(v impl.Vector, op impl.AccessOp) bool {
	return op.Seq <= v.Counts[op.Actor]
}

// goodVector asks by numbers what makes a vector valid.
func goodVector(v impl.Vector) bool {
	for _, n := range v.Counts {
		if n < 0 || n > 1000000000000 {
			return false
		}
	}
	return len(v.Counts) == 16
}

// validClaim asks what the document asks of an operation by itself.
func validClaim(op impl.AccessOp) bool {
	if !goodActor(op.Actor) || !goodVector(op.Deps) || op.Seq < 1 || op.Deps.Counts[op.Actor] != op.Seq-1 || !goodActor(op.To) {
		return false
	}
	if op.Kind == 1 {
		return op.Rights > 0 && op.Rights < 8 && op.Of == 0
	}
	return op.Kind == 2 && op.Rights == 0 && op.Of > 0
}

// validAccess asks what the document asks of a list, each operation held against each.
func validAccess(list []impl.AccessOp) bool {
	if len(list) > 256 {
		return false
	}
	seqs, last := map[int]int{}, 0
	for _, op := range list {
		seqs[op.Actor]++
		if !validClaim(op) || op.Seq != seqs[op.Actor] || op.Actor < last {
			return false
		}
		last = op.Actor
	}
	for _, op := range list {
		if !isMoment(list, op.Deps) {
			return false
		}
		for _, other := range list {
			if countsIn(op.Deps, other) && countsIn(other.Deps, op) {
				return false
			}
		}
	}
	return true
}

// isMoment tells whether a vector counts no more than there is, and with each operation all that its Deps count.
func isMoment(list []impl.AccessOp, v impl.Vector) bool {
	if !notAbove(v, sizesOf(list)) {
		return false
	}
	for _, op := range list {
		if countsIn(v, op) && !notAbove(op.Deps, v) {
			return false
		}
	}
	return true
}

// A court finds out by the document's words who had which rights when.
type court struct {
	list  []impl.AccessOp
	found map[[16]int][16]int
}

func newCourt(list []impl.AccessOp) *court {
	return &court{list: list, found: map[[16]int][16]int{}}
}

// hadGive tells whether the actor of an operation had MayGive at its Deps.
func (c *court) hadGive(op impl.AccessOp) bool {
	return c.rights(op.Deps)[op.Actor] >= 4
}

// canHold tells whether an operation holds at the vectors that know it, as long as nobody takes it back.
func (c *court) canHold(op impl.AccessOp) bool {
	if op.Kind == impl.AGive {
		return c.hadGive(op)
	}
	for _, other := range c.list {
		if other.Actor == op.To && other.Seq == op.Of && countsIn(op.Deps, other) && other.Kind == impl.AGive {
			return op.Actor == op.To || c.hadGive(op)
		}
	}
	return false
}

func (c *court) isTakenBack(gift impl.AccessOp, v impl.Vector) bool {
	for _, op := range c.list {
		if op.Kind == impl.ATake && op.To == gift.Actor && op.Of == gift.Seq && countsIn(v, op) && c.canHold(op) {
			return true
		}
	}
	return false
}

// rights follows each right by itself along the gifts that hold: first the right to give, then the others among those
// who may give.
func (c *court) rights(v impl.Vector) [16]int {
	key := [16]int(v.Counts)
	if has, ok := c.found[key]; ok {
		return has
	}
	var gifts []impl.AccessOp
	for _, op := range c.list {
		if op.Kind == impl.AGive && countsIn(v, op) && c.canHold(op) && !c.isTakenBack(op, v) {
			gifts = append(gifts, op)
		}
	}
	everyone := [16]bool(slices.Repeat([]bool{true}, 16))
	givers := follow15(gifts, 2, everyone)
	var has [16]int
	for bit := range 3 {
		for actor, reached := range follow15(gifts, bit, givers) {
			if reached {
				has[actor] += []int{1, 2, 4}[bit]
			}
		}
	}
	c.found[key] = has
	return has
}

// follow15 tells whom chains of gifts with a right reach from actor 0, if all who give are among givers.
func follow15(gifts []impl.AccessOp, bit int, givers [16]bool) [16]bool {
	var reached [16]bool
	var visit func(actor int)
	visit = func(actor int) {
		if reached[actor] {
			return
		}
		reached[actor] = true
		for _, gift := range gifts {
			if gift.Actor == actor && givers[actor] && gift.Rights/[]int{1, 2, 4}[bit]%2 == 1 {
				visit(gift.To)
			}
		}
	}
	visit(0)
	return reached
}

// rightsOf says what RightsAt answers.
func rightsOf(list []impl.AccessOp, v impl.Vector) ([]int, int) {
	if !validAccess(list) || !goodVector(v) {
		return nil, impl.ErrBad
	}
	if !isMoment(list, v) {
		return nil, impl.ErrCause
	}
	has := newCourt(list).rights(v)
	return has[:], impl.OK
}

// voidOf says what Void answers.
func voidOf(list []impl.AccessOp) ([]impl.Stamp, int) {
	if !validAccess(list) {
		return nil, impl.ErrBad
	}
	c := newCourt(list)
	var void []impl.Stamp
	for _, op := range list {
		if !c.canHold(op) {
			void = append(void, stamp(op.Seq, op.Actor))
		}
	}
	return void, impl.OK
}

func checkRights(t *testing.T, what string, list []impl.AccessOp, v impl.Vector, want []int, code int) {
	t.Helper()
	got, gotCode := impl.RightsAt(list, v)
	if gotCode != code || !slices.Equal(got, want) {
		t.Errorf("%s: RightsAt %v: %v, code %d, want %v, code %d: %s", what, v.Counts, got, gotCode, want, code, brief(list))
	}
}

// checkHas asks for the rights of actors 1, 2, ..; those behind have none, and actor 0 has all. The other program must
// say the same.
func checkHas(t *testing.T, what string, list []impl.AccessOp, v impl.Vector, rights ...int) {
	t.Helper()
	want := vector(append([]int{7}, rights...)...).Counts
	if said, code := rightsOf(list, v); code != impl.OK || !slices.Equal(said, want) {
		t.Fatalf("%s: the test is at odds with itself: %v, code %d, want %v: %s", what, said, code, want, brief(list))
	}
	checkRights(t, what, list, v, want, impl.OK)
}

func checkVoid(t *testing.T, what string, list []impl.AccessOp, want []impl.Stamp, code int) {
	t.Helper()
	got, gotCode := impl.Void(list)
	if gotCode != code || !slices.Equal(got, want) {
		t.Errorf("%s: Void: %v, code %d, want %v, code %d: %s", what, got, gotCode, want, code, brief(list))
	}
}

// checkVoids asks for just these operations that hold nowhere; the other program must say the same.
func checkVoids(t *testing.T, what string, list []impl.AccessOp, want ...impl.Stamp) {
	t.Helper()
	if said, code := voidOf(list); code != impl.OK || !slices.Equal(said, want) {
		t.Fatalf("%s: the test is at odds with itself: %v, code %d, want %v: %s", what, said, code, want, brief(list))
	}
	checkVoid(t, what, list, want, impl.OK)
}

// checkAccess holds what is answered of a list, and of it at a vector, against the other program, and gives the codes.
func checkAccess(t *testing.T, what string, list []impl.AccessOp, v impl.Vector) (int, int) {
	t.Helper()
	has, code := rightsOf(list, v)
	checkRights(t, what, list, v, has, code)
	void, voidCode := voidOf(list)
	checkVoid(t, what, list, void, voidCode)
	return code, voidCode
}

// everyVector calls use with each vector that counts no more than there is.
func everyVector(sizes impl.Vector, use func(v impl.Vector)) {
	v := vector()
	var fix func(actor int)
	fix = func(actor int) {
		if actor == 16 {
			use(vector(v.Counts...))
			return
		}
		for n := 0; n <= sizes.Counts[actor]; n++ {
			v.Counts[actor] = n
			fix(actor + 1)
		}
	}
	fix(0)
}

// checkCourt holds a valid list against the other program at all vectors, and gives how many of them were times.
func checkCourt(t *testing.T, what string, list []impl.AccessOp) int {
	t.Helper()
	if !validAccess(list) {
		t.Fatalf("%s: the test is at odds with itself: %s", what, brief(list))
	}
	times := 0
	c := newCourt(list)
	everyVector(sizesOf(list), func(v impl.Vector) {
		if !isMoment(list, v) {
			checkRights(t, what, list, v, nil, impl.ErrCause)
			return
		}
		times++
		has := c.rights(v)
		checkRights(t, what, list, v, has[:], impl.OK)
	})
	void, _ := voidOf(list)
	checkVoid(t, what, list, void, impl.OK)
	return times
}

// checkBadAccess asks that a list is not valid, at whatever vector.
func checkBadAccess(t *testing.T, what string, list []impl.AccessOp) {
	t.Helper()
	if validAccess(list) {
		t.Fatalf("%s: the test is at odds with itself: %s", what, brief(list))
	}
	for _, v := range []impl.Vector{vector(), sizesOf(list), fullVector(1), vector(1000), {}, vectorOf(15, -1)} {
		checkRights(t, what, list, v, nil, impl.ErrBad)
	}
	checkVoid(t, what, list, nil, impl.ErrBad)
}

// checkGoodAccess asks that a list is valid, and for all that is told of it at the vectors that count nothing, and all.
func checkGoodAccess(t *testing.T, what string, list []impl.AccessOp) {
	t.Helper()
	if !validAccess(list) {
		t.Fatalf("%s: the test is at odds with itself: %s", what, brief(list))
	}
	checkAccess(t, what, list, vector())
	checkAccess(t, what, list, sizesOf(list))
}
