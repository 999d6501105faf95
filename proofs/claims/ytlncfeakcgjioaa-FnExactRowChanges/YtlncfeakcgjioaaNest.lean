/- Rows of structs that hold lists of texts besides: a row that the call owns, and the lists of texts, each in a block of its own. No condition: they are lemmas. -/
import Derived.Test.YtlncfeakcgjioaaRowsM
namespace Go.Proofs.Ytlncfeakcgjioaa
open Go.RowKit
set_option linter.unusedVariables false

/-- All that lies outside the blocks from B up to E is as it was. -/
structure Fr (B E : Nat) (w w' : World) : Prop where
  os : w'.os = w.os
  tape : w'.tape = w.tape
  output : w'.output = w.output
  size : w.heap.size ≤ w'.heap.size
  block : ∀ k, k < w.heap.size → (k < B ∨ E ≤ k) → w'.heap[k]? = w.heap[k]?
theorem Fr.refl (B E : Nat) (w : World) : Fr B E w w := ⟨rfl, rfl, rfl, Nat.le_refl _, fun _ _ _ => rfl⟩
theorem Fr.trans {B E : Nat} {w w1 w2 : World} (h : Fr B E w w1) (k : Fr B E w1 w2) : Fr B E w w2 := ⟨k.os.trans h.os, k.tape.trans h.tape, k.output.trans h.output, Nat.le_trans h.size k.size, fun i hi hr => (k.block i (Nat.lt_of_lt_of_le hi h.size) hr).trans (h.block i hi hr)⟩
theorem Fr.of_below {B E : Nat} {w w' : World} (h : Below w.heap.size w w') : Fr B E w w' := ⟨h.os, h.tape, h.output, h.size, fun k hk _ => h.block k hk⟩
theorem Fr.of_grown {B E : Nat} {w w' : World} {row : Option Nat} (h : w.grownBy w' row) (hr : ∀ k, row = some k → B ≤ k ∧ k < E) : Fr B E w w' := ⟨h.os, h.tape, h.output, h.size, fun k hk ho => h.block k hk (fun e => by have := hr k e.symm; omega)⟩
theorem Fr.below {B E : Nat} {w w' : World} (h : Fr B E w w') (hB : B ≤ w.heap.size) : Below B w w' := ⟨h.os, h.tape, h.output, h.size, fun k hk => h.block k (by omega) (.inl hk)⟩
theorem Fr.wide {B E B' E' : Nat} {w w' : World} (h : Fr B E w w') (hB : B' ≤ B) (hE : E ≤ E') : Fr B' E' w w' := ⟨h.os, h.tape, h.output, h.size, fun k hk ho => h.block k hk (by omega)⟩

theorem owns_same {w w' : World} {B : Nat} {e : TypeId} {s n : Nat} {v : Value} {xs : List Value} (h : w.ownsRow B e s v n xs) (hb : ∀ k, v.ownBlock = some k → k < w.heap.size → w'.heap[k]? = w.heap[k]?) : w'.ownsRow B e s v n xs := by
  obtain ⟨h1, h2⟩ := h
  refine ⟨h1, ?_⟩
  rcases h2 with h2 | ⟨g, cap, cur, rfl, hg, hh, r⟩
  · exact .inl h2
  · exact .inr ⟨g, cap, cur, rfl, hg, (hb g rfl (Array.getElem?_eq_some_iff.1 hh).1).trans hh, r⟩
theorem owns_lt {w : World} {B : Nat} {e : TypeId} {s n : Nat} {v : Value} {xs : List Value} (h : w.ownsRow B e s v n xs) : ∀ k, v.ownBlock = some k → B ≤ k ∧ k < w.heap.size := fun k hk => World.ownsRow.lt h k hk
theorem owns_type {w : World} {B B' : Nat} {e e' : TypeId} {s s' n n' : Nat} {v v' : Value} {xs xs' : List Value} (h : w.ownsRow B e s v n xs) (h' : w.ownsRow B' e' s' v' n' xs') (hne : e ≠ e') : ∀ k, v.ownBlock = some k → v'.ownBlock ≠ some k := by
  intro k hk hk'
  obtain ⟨_, h2⟩ := h
  obtain ⟨_, h2'⟩ := h'
  rcases h2 with ⟨rfl, _⟩ | ⟨g, cap, cur, rfl, _, hh, _⟩
  · cases hk
  · rcases h2' with ⟨rfl, _⟩ | ⟨g', cap', cur', rfl, _, hh', _⟩
    · cases hk'
    · have e1 : g = k := by simpa [Value.ownBlock] using hk
      have e2 : g' = k := by simpa [Value.ownBlock] using hk'
      subst e1
      subst e2
      rw [hh] at hh'
      injection hh' with e3
      injection e3 with _ e4 _
      exact hne e4

/-- The blocks of two slices are two. -/
def Apt (a b : Value) : Prop := ∀ k, a.ownBlock = some k → b.ownBlock ≠ some k

/-- A row of the call's own, in blocks from B up to E, with the lists of texts that its cells hold, each in a block of its own. -/
structure Nest (T : TypeId) (m : Nat) (w : World) (B E : Nat) (v : Value) (n : Nat) (cs : List Value) (subs : List (Value × List ByteArray)) : Prop where
  ty : T ≠ 9
  row : w.ownsRow B T m v n cs
  rlt : ∀ k, v.ownBlock = some k → k < E
  sub : ∀ p ∈ subs, Own 9 w B p.1 (p.2.map Value.string)
  slt : ∀ p ∈ subs, ∀ k, p.1.ownBlock = some k → k < E
  dis : (subs.map Prod.fst).Pairwise Apt
theorem Nest.apt {T : TypeId} {m : Nat} {w : World} {B E : Nat} {v : Value} {n : Nat} {cs : List Value} {subs : List (Value × List ByteArray)} (h : Nest T m w B E v n cs subs) {p : Value × List ByteArray} (hp : p ∈ subs) : Apt v p.1 := owns_type h.row (h.sub p hp) h.ty
theorem Nest.same {T : TypeId} {m : Nat} {w w' : World} {B E : Nat} {v : Value} {n : Nat} {cs : List Value} {subs : List (Value × List ByteArray)} (h : Nest T m w B E v n cs subs) (hb : ∀ k, B ≤ k → k < E → k < w.heap.size → w'.heap[k]? = w.heap[k]?) : Nest T m w' B E v n cs subs :=
  ⟨h.ty, owns_same h.row fun k hk hl => hb k (owns_lt h.row k hk).1 (h.rlt k hk) hl, h.rlt, fun p hp => owns_same (h.sub p hp) fun k hk hl => hb k (owns_lt (h.sub p hp) k hk).1 (h.slt p hp k hk) hl, h.slt, h.dis⟩
theorem Nest.below {T : TypeId} {m : Nat} {w w' : World} {B E : Nat} {v : Value} {n : Nat} {cs : List Value} {subs : List (Value × List ByteArray)} (h : Nest T m w B E v n cs subs) (hb : Below w.heap.size w w') : Nest T m w' B E v n cs subs := h.same fun k _ _ hl => hb.block k hl
theorem Nest.now {T : TypeId} {m : Nat} {w : World} {B E : Nat} {v : Value} {n : Nat} {cs : List Value} {subs : List (Value × List ByteArray)} (h : Nest T m w B E v n cs subs) : Nest T m w B w.heap.size v n cs subs := ⟨h.ty, h.row, fun k hk => (owns_lt h.row k hk).2, h.sub, fun p hp k hk => (owns_lt (h.sub p hp) k hk).2, h.dis⟩
theorem Nest.wide {T : TypeId} {m : Nat} {w : World} {B E B' : Nat} {v : Value} {n : Nat} {cs : List Value} {subs : List (Value × List ByteArray)} (h : Nest T m w B E v n cs subs) (hB : B' ≤ B) : Nest T m w B' E v n cs subs := by
  have mono : ∀ {e : TypeId} {s n : Nat} {v : Value} {xs : List Value}, w.ownsRow B e s v n xs → w.ownsRow B' e s v n xs := by
    intro e s n v xs h
    obtain ⟨h1, h2⟩ := h
    refine ⟨h1, ?_⟩
    rcases h2 with h2 | ⟨g, cap, cur, rfl, hg, r⟩
    · exact .inl h2
    · exact .inr ⟨g, cap, cur, rfl, by omega, r⟩
  exact ⟨h.ty, mono h.row, h.rlt, fun p hp => mono (h.sub p hp), h.slt, h.dis⟩
/-- A cell of the row is written over. -/
theorem Nest.put {T : TypeId} {m : Nat} {w : World} {B E g n c : Nat} {cs : List Value} {subs : List (Value × List ByteArray)} (h : Nest T m w B E (.slice (some ⟨g, 0, none⟩) n c) n cs subs) (j : Nat) (u : Value) : Nest T m (w.setCell ⟨g, j, none⟩ u) B E (.slice (some ⟨g, 0, none⟩) n c) n (cs.set j u) subs :=
  ⟨h.ty, (World.ownsRow.stored h.row j u).1, h.rlt, fun p hp => ownM_kept (h.sub p hp) (grownBy_set w g j u) fun k hk e => h.apt hp k (by simpa [Value.ownBlock] using e) hk, h.slt, h.dis⟩
theorem Nest.putFr {T : TypeId} {m : Nat} {w : World} {B E g n c : Nat} {cs : List Value} {subs : List (Value × List ByteArray)} (h : Nest T m w B E (.slice (some ⟨g, 0, none⟩) n c) n cs subs) (j : Nat) (u : Value) : Fr B E w (w.setCell ⟨g, j, none⟩ u) :=
  Fr.of_grown (grownBy_set w g j u) fun k hk => by
    have : (Value.slice (some ⟨g, 0, none⟩) n c).ownBlock = some k := by simpa [Value.ownBlock] using hk
    exact ⟨(owns_lt h.row k this).1, h.rlt k this⟩
theorem Nest.free {T : TypeId} {m : Nat} {w : World} {B E g n c : Nat} {cs : List Value} {subs : List (Value × List ByteArray)} (h : Nest T m w B E (.slice (some ⟨g, 0, none⟩) n c) n cs subs) (j : Nat) : w.frozen? ⟨g, j, none⟩ = false := World.ownsRow.frozenAt h.row j
theorem Nest.cell {T : TypeId} {m : Nat} {w : World} {B E g n c : Nat} {cs : List Value} {subs : List (Value × List ByteArray)} (h : Nest T m w B E (.slice (some ⟨g, 0, none⟩) n c) n cs subs) {j : Nat} {u : Value} (hu : cs[j]? = some u) : w.cell? ⟨g, j, none⟩ = some u := by
  have hl := h.row.1
  have := (List.getElem?_eq_some_iff.1 hu).1
  rw [World.ownsRow.cellAt h.row j (by omega), hu]
/-- A list of texts is written over. -/
theorem Nest.over {T : TypeId} {m : Nat} {w w' : World} {B E : Nat} {v : Value} {n : Nat} {cs : List Value} {A R : List (Value × List ByteArray)} {u : Value} {a b : List ByteArray} (h : Nest T m w B E v n cs (A ++ (u, a) :: R)) (ho : Own 9 w' B u (b.map Value.string)) (hg : w.grownBy w' u.ownBlock) : Nest T m w' B E v n cs (A ++ (u, b) :: R) := by
  have hu : (u, a) ∈ A ++ (u, a) :: R := List.mem_append_right _ (List.mem_cons_self ..)
  have hd := h.dis
  rw [List.map_append, List.map_cons] at hd
  obtain ⟨_, hd2, hd3⟩ := List.pairwise_append.1 hd
  obtain ⟨hd4, _⟩ := List.pairwise_cons.1 hd2
  have keep : ∀ p : Value × List ByteArray, Apt u p.1 → Own 9 w B p.1 (p.2.map Value.string) → Own 9 w' B p.1 (p.2.map Value.string) := fun p ha hp => ownM_kept hp hg fun k hk e => ha k e hk
  have mem : ∀ p ∈ A ++ (u, b) :: R, p = (u, b) ∨ (p ∈ A ++ (u, a) :: R ∧ Apt u p.1) := by
    intro p hp
    rcases List.mem_append.1 hp with hp | hp
    · refine .inr ⟨List.mem_append_left _ hp, fun k hk hk' => ?_⟩
      exact hd3 p.1 (List.mem_map_of_mem hp) u (List.mem_cons_self ..) k hk' hk
    · rcases List.mem_cons.1 hp with rfl | hp
      · exact .inl rfl
      · exact .inr ⟨List.mem_append_right _ (List.mem_cons_of_mem _ hp), hd4 p.1 (List.mem_map_of_mem hp)⟩
  refine ⟨h.ty, ownM_kept h.row hg fun k hk e => h.apt hu k hk e, h.rlt, fun p hp => ?_, fun p hp => ?_, ?_⟩
  · rcases mem p hp with rfl | ⟨hm, ha⟩
    · exact ho
    · exact keep p ha (h.sub p hm)
  · rcases mem p hp with rfl | ⟨hm, ha⟩
    · exact h.slt (u, a) hu
    · exact h.slt p hm
  · rw [List.map_append, List.map_cons]
    exact hd
theorem Nest.overFr {T : TypeId} {m : Nat} {w w' : World} {B E : Nat} {v : Value} {n : Nat} {cs : List Value} {subs : List (Value × List ByteArray)} {p : Value × List ByteArray} (h : Nest T m w B E v n cs subs) (hp : p ∈ subs) (hg : w.grownBy w' p.1.ownBlock) : Fr B E w w' :=
  Fr.of_grown hg fun k hk => ⟨(owns_lt (h.sub p hp) k hk).1, h.slt p hp k hk⟩
/-- The row has grown, and what it holds more stands in blocks of its own. -/
theorem Nest.grow {T : TypeId} {m : Nat} {w w1 w' : World} {B E E' : Nat} {v v' : Value} {n n' : Nat} {cs cs' : List Value} {subs news : List (Value × List ByteArray)} (h : Nest T m w B E v n cs subs) (hE : E ≤ w.heap.size) (hb : Below w.heap.size w w1)
    (hn : ∀ p ∈ news, Own 9 w1 w.heap.size p.1 (p.2.map Value.string)) (hd : (news.map Prod.fst).Pairwise Apt) (hB : B ≤ w.heap.size)
    (hr : w'.ownsRow B T m v' n' cs') (hg : w1.grownBy w' v.ownBlock) (hE' : E' = w'.heap.size) : Nest T m w' B E' v' n' cs' (subs ++ news) := by
  subst hE'
  have h1 := h.below hb
  have hs := hb.size
  have wide : ∀ {e : TypeId} {s n : Nat} {v : Value} {xs : List Value}, w1.ownsRow w.heap.size e s v n xs → w1.ownsRow B e s v n xs := by
    intro e s n v xs h
    obtain ⟨h1, h2⟩ := h
    refine ⟨h1, ?_⟩
    rcases h2 with h2 | ⟨g, cap, cur, rfl, hg, r⟩
    · exact .inl h2
    · exact .inr ⟨g, cap, cur, rfl, by omega, r⟩
  have sub1 : ∀ p ∈ subs ++ news, Own 9 w1 B p.1 (p.2.map Value.string) := fun p hp => by
    rcases List.mem_append.1 hp with hp | hp
    · exact h1.sub p hp
    · exact wide (hn p hp)
  have sub2 : ∀ p ∈ subs ++ news, Own 9 w' B p.1 (p.2.map Value.string) := fun p hp => ownM_kept (sub1 p hp) hg fun k hk e => owns_type h1.row (sub1 p hp) h.ty k e hk
  refine ⟨h.ty, hr, fun k hk => (owns_lt hr k hk).2, sub2, fun p hp k hk => (owns_lt (sub2 p hp) k hk).2, ?_⟩
  rw [List.map_append]
  refine List.pairwise_append.2 ⟨h.dis, hd, fun a ha b hb k hk hk' => ?_⟩
  obtain ⟨p, hp, rfl⟩ := List.mem_map.1 ha
  obtain ⟨q, hq, rfl⟩ := List.mem_map.1 hb
  have e1 := h.slt p hp k hk
  have e2 := (owns_lt (hn q hq) k hk').1
  omega
theorem Nest.nil {T : TypeId} (m : Nat) (w : World) (B E : Nat) (ht : T ≠ 9) : Nest T m w B E (.slice none 0 0) 0 [] [] := ⟨ht, ownM_nil _ _ _ _, (fun k hk => by cases hk), (fun p hp => absurd hp (by simp)), (fun p hp => absurd hp (by simp)), List.Pairwise.nil⟩
end Go.Proofs.Ytlncfeakcgjioaa
