package tests

import (
	"bytes"
	"encoding/binary"
	"maps"
	"slices"
	"testing"

	"loop.example/g00028/impl"
)

// wide is a number in eight bytes.
func wide(n int) []byte { return binary.BigEndian.AppendUint64(nil, uint64(n)) }

// xoredOf xors bytes with the blocks of a stream, all of which are made ahead.
func xoredOf(key []byte, n int, b []byte) []byte {
	var blocks []byte
	for i := range len(b)/8 + 1 {
		blocks = append(blocks, keySumOf(key, slices.Concat(wide(n), wide(i)))...)
	}
	out := slices.Clone(b)
	for i := range out {
		out[i] ^= blocks[i]
	}
	return out
}

func sealBehind(key []byte, n int, body []byte) []byte {
	return keySumOf(key, slices.Concat(wide(n), body))
}

func goodSeal(key []byte, n int) bool { return len(key) == 8 && n >= 0 && n <= 1000000000000 }

// sealOf says by the document's words what SealText answers.
func sealOf(key []byte, n int, text string) ([]byte, int) {
	if !goodSeal(key, n) || len(text) > 200 {
		return nil, impl.ErrRange
	}
	body := xoredOf(key, n, []byte(text))
	return slices.Concat(body, sealBehind(key, n, body)), impl.OK
}

// openOf says by the document's words what OpenText answers.
func openOf(key []byte, n int, sealed []byte) (string, int) {
	if !goodSeal(key, n) {
		return "", impl.ErrRange
	}
	if len(sealed) < 8 || len(sealed) > 208 {
		return "", impl.ErrForm
	}
	body := sealed[:len(sealed)-8]
	if !bytes.Equal(sealed[len(body):], sealBehind(key, n, body)) {
		return "", impl.ErrSum
	}
	return string(xoredOf(key, n, body)), impl.OK
}

// checkSeal holds SealText against the other program, and OpenText of what it answers.
func checkSeal(t *testing.T, what string, key []byte, n int, text string) []byte {
	t.Helper()
	want, wantCode := sealOf(key, n, text)
	got, code := impl.SealText(key, n, text)
	if code != wantCode || !bytes.Equal(got, want) {
		t.Errorf("%s: SealText(%v, %d, %q) = %v, code %d, want %v, code %d", what, key, n, text, got, code, want, wantCode)
	}
	if code == impl.OK {
		if back, code := impl.OpenText(key, n, got); back != text || code != impl.OK {
			t.Errorf("%s: OpenText(%v, %d, %v) = %q, code %d, want %q", what, key, n, got, back, code, text)
		}
	}
	return got
}

// checkOpen holds OpenText against the other program, and gives its code.
func checkOpen(t *testing.T, what string, key []byte, n int, sealed []byte) int {
	t.Helper()
	want, wantCode := openOf(key, n, sealed)
	got, code := impl.OpenText(key, n, sealed)
	if got != want || code != wantCode {
		t.Errorf("%s: OpenText(%v, %d, %v) = %q, code %d, want %q, code %d", what, key, n, sealed, got, code, want, wantCode)
	}
	return code
}

// checkNotOpened asks for a code that is written down.
func checkNotOpened(t *testing.T, what string, key []byte, n int, sealed []byte, want int) {
	t.Helper()
	wantCode(t, what, checkOpen(t, what, key, n, sealed), want)
}

// What a group can be told.
func enters(actor int) impl.GroupOp { return impl.GroupOp{Kind: impl.GAdd, Actor: actor} }

func leaves(actor int) impl.GroupOp { return impl.GroupOp{Kind: impl.GRemove, Actor: actor} }

func heals(actor int) impl.GroupOp { return impl.GroupOp{Kind: impl.GHeal, Actor: actor} }

func says(actor int, text string) impl.GroupOp {
	return impl.GroupOp{Kind: impl.GSend, Actor: actor, Text: text}
}

func reads(actor, n int) impl.GroupOp { return impl.GroupOp{Kind: impl.GRead, Actor: actor, N: n} }

func robs(actor int) impl.GroupOp { return impl.GroupOp{Kind: impl.GSteal, Actor: actor} }

func spies(n int) impl.GroupOp { return impl.GroupOp{Kind: impl.GSpy, N: n} }

// A bundle is the keys that somebody has, and nothing else: whether a text can be read is found out by trying them all.
type bundle map[string]bool

func (b bundle) opens(n int, sealed []byte) (string, int) {
	for key := range b {
		if text, code := openOf([]byte(key), n, sealed); code == impl.OK {
			return text, code
		}
	}
	return "", impl.ErrDenied
}

// A vault is a group in which all is really sealed. It remembers the keys of the epochs, and which of them an adding
// made of the one ahead.
type vault struct {
	seed    []byte
	secrets int
	members map[int]bool
	keys    []string
	added   []bool
	bundles [16]bundle
	thief   bundle
	sealed  [][]byte
}

func newVault(seed []byte) *vault {
	v := &vault{seed: seed, members: map[int]bool{0: true}, thief: bundle{}}
	for actor := range v.bundles {
		v.bundles[actor] = bundle{}
	}
	v.turns(keySumOf(seed, []byte{0}), false)
	return v
}

// turns goes to the next epoch.
func (v *vault) turns(key []byte, added bool) {
	v.keys, v.added = append(v.keys, string(key)), append(v.added, added)
	for actor := range v.members {
		v.bundles[actor][string(key)] = true
	}
}

func (v *vault) key() []byte { return []byte(v.keys[len(v.keys)-1]) }

func (v *vault) turnsFresh() {
	secret := keySumOf(v.seed, slices.Concat([]byte{2}, wide(v.secrets)))
	v.secrets++
	v.turns(keySumOf(v.key(), slices.Concat([]byte{3}, secret)), false)
}

// loot is all that the thief can make of what it got, found out anew until nothing comes on top.
func (v *vault) loot() bundle {
	all := maps.Clone(v.thief)
	for size := -1; size != len(all); {
		size = len(all)
		for i := 1; i < len(v.keys); i++ {
			if v.added[i] && all[v.keys[i-1]] {
				all[v.keys[i]] = true
			}
		}
	}
	return all
}

func (v *vault) opens(b bundle, n int) (string, int) {
	if n < 1 || n > len(v.sealed) {
		return "", impl.ErrRange
	}
	return b.opens(n, v.sealed[n-1])
}

func (v *vault) changes(op impl.GroupOp) int {
	isMember := v.members[op.Actor]
	switch {
	case op.Kind == impl.GAdd && isMember:
		return impl.ErrExists
	case op.Kind == impl.GAdd:
		v.members[op.Actor] = true
		v.turns(keySumOf(v.key(), []byte{1, byte(op.Actor)}), true)
	case !isMember:
		return impl.ErrMissing
	case op.Kind == impl.GRemove && len(v.members) == 1:
		return impl.ErrRange
	case op.Kind == impl.GRemove:
		delete(v.members, op.Actor)
		v.turnsFresh()
	case op.Kind == impl.GHeal:
		v.turnsFresh()
	}
	return impl.OK
}

func (v *vault) does(op impl.GroupOp) (obs impl.GroupObs) {
	if op.Actor < 0 || op.Actor > 15 || op.Kind < 1 || op.Kind > 7 {
		return impl.GroupObs{Code: impl.ErrBad}
	}
	switch op.Kind {
	case impl.GSend:
		if !v.members[op.Actor] {
			return impl.GroupObs{Code: impl.ErrMissing}
		}
		sealed, code := sealOf(v.key(), len(v.sealed)+1, op.Text)
		if code != impl.OK {
			return impl.GroupObs{Code: code}
		}
		v.sealed = append(v.sealed, sealed)
		obs.Id = len(v.sealed)
	case impl.GRead:
		obs.Text, obs.Code = v.opens(v.bundles[op.Actor], op.N)
	case impl.GSteal:
		maps.Copy(v.thief, v.bundles[op.Actor])
	case impl.GSpy:
		obs.Text, obs.Code = v.opens(v.loot(), op.N)
	default:
		obs.Code = v.changes(op)
	}
	return obs
}

// groupOf says by the document's words what GroupRun answers.
func groupOf(seed []byte, ops []impl.GroupOp) ([]impl.GroupObs, int) {
	if len(ops) > 200 {
		return nil, impl.ErrMany
	}
	if len(seed) == 0 || len(seed) > 64 {
		return nil, impl.ErrRange
	}
	v := newVault(seed)
	var told []impl.GroupObs
	for _, op := range ops {
		obs := v.does(op)
		obs.Epoch = len(v.keys) - 1
		told = append(told, obs)
	}
	return told, impl.OK
}

// checkTold asks for an answer of GroupRun that is written down.
func checkTold(t *testing.T, what string, seed []byte, ops []impl.GroupOp, want []impl.GroupObs, wantCode int) {
	t.Helper()
	got, code := impl.GroupRun(seed, ops)
	if code != wantCode || len(got) != len(want) {
		t.Errorf("%s: GroupRun of %d operations: %d told, code %d, want %d, code %d", what, len(ops), len(got), code, len(want), wantCode)
		return
	}
	for i := range got {
		if got[i] != want[i] {
			t.Errorf("%s: operation %d %s of %s: %s, want %s", what, i, brief(ops[i]), brief(ops[:i]), brief(got[i]), brief(want[i]))
			return
		}
	}
}

// checkGroup holds GroupRun against the other program, and gives what it told.
func checkGroup(t *testing.T, what string, ops ...impl.GroupOp) []impl.GroupObs {
	t.Helper()
	seed := []byte("a seed")
	want, code := groupOf(seed, ops)
	checkTold(t, what, seed, ops, want, code)
	return want
}

// checkEnd asks for a written answer of the last operation.
func checkEnd(t *testing.T, what string, want impl.GroupObs, ops ...impl.GroupOp) {
	t.Helper()
	told := checkGroup(t, what, ops...)
	if len(told) == 0 || told[len(told)-1] != want {
		t.Errorf("%s: %s: %s, want %s", what, brief(ops), brief(told), brief(want))
	}
}

// checkSpied asks which of the messages from 1 on the thief reads behind some operations, told by their numbers.
func checkSpied(t *testing.T, what string, ops []impl.GroupOp, want ...int) {
	t.Helper()
	checkSeen(t, what, ops, func(n int) impl.GroupOp { return spies(n) }, want)
}

// checkReads asks the same of an actor.
func checkReads(t *testing.T, what string, ops []impl.GroupOp, actor int, want ...int) {
	t.Helper()
	checkSeen(t, what, ops, func(n int) impl.GroupOp { return reads(actor, n) }, want)
}

func checkSeen(t *testing.T, what string, ops []impl.GroupOp, ask func(int) impl.GroupOp, want []int) {
	t.Helper()
	var texts []string
	for i, obs := range checkGroup(t, what, ops...) {
		if obs.Id > 0 {
			texts = append(texts, ops[i].Text)
		}
	}
	var seen []int
	for i, text := range texts {
		told, _ := impl.GroupRun([]byte("a seed"), append(slices.Clone(ops), ask(i+1)))
		last := told[len(told)-1]
		switch last.Code {
		case impl.OK:
			seen = append(seen, i+1)
			if last.Text != text {
				t.Errorf("%s: message %d is %q, want %q", what, i+1, last.Text, text)
			}
		case impl.ErrDenied:
			if last.Text != "" {
				t.Errorf("%s: message %d is denied with %q", what, i+1, last.Text)
			}
		default:
			t.Errorf("%s: message %d: code %d", what, i+1, last.Code)
		}
	}
	if !slices.Equal(seen, want) {
		t.Errorf("%s: behind %s seen are %v of %d, want %v", what, brief(ops), seen, len(texts), want)
	}
}
