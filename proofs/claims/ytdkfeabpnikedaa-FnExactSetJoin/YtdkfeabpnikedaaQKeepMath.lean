/- What keep makes of an entry beside another map's: plain facts. -/
import Derived.Test.YtdkfeabpnikedaaQEntGreater
import Derived.Test.YtdkfeabpnikedaaQMapDrop
namespace Go.Proofs.Ytdkfeabpnikedaa
open Go.RowKit
set_option linter.unusedVariables false

/-- Two entries of one stamp. -/
def twinE (e y : En) : Bool := decide (y.1 = e.1 ∧ y.2.1 = e.2.1)
/-- The greater of two entries, the first where neither is. -/
def grE (e y : En) : En := if lessR e.1 e.2.1 e.2.2 y.1 y.2.1 y.2.2 = true then y else e
/-- What stays of an entry beside the entries ls and the counts X. -/
def keepE (ls : List En) (X : List Int) (e : En) : Option En :=
  match ls.find? (twinE e) with
  | some y => some (grE e y)
  | none => if e.1 ≤ X.getD e.2.1.toNat 0 then none else some e
theorem keep_stamp {ls : List En} {X : List Int} {e x : En} (h : keepE ls X e = some x) : x.1 = e.1 ∧ x.2.1 = e.2.1 := by
  unfold keepE at h
  cases hf : ls.find? (twinE e) with
  | some y =>
    rw [hf] at h
    have hy := List.find?_some hf
    unfold twinE at hy
    simp only [decide_eq_true_eq] at hy
    simp only [Option.some.injEq] at h
    unfold grE at h
    split at h
    · rw [← h]; exact hy
    · rw [← h]; exact ⟨rfl, rfl⟩
  | none =>
    rw [hf] at h
    simp only at h
    split at h
    · cases h
    · cases h; exact ⟨rfl, rfl⟩
theorem key_iff (e y : En) : (kvE y).1 = (kvE e).1 ↔ (y.1 = e.1 ∧ y.2.1 = e.2.1) := by simp [kvE]
/-- The other map has a twin, or none. -/
theorem find_hit {ls : List En} {e y : En} (h : ls.find? (twinE e) = some y) : ((kvE e).1, (kvE y).2) ∈ ls.map kvE := by
  have hy := List.find?_some h
  have hm := List.mem_of_find?_eq_some h
  unfold twinE at hy
  simp only [decide_eq_true_eq] at hy
  rw [← (key_iff e y).2 hy]
  exact List.mem_map.2 ⟨y, hm, rfl⟩
theorem find_miss {ls : List En} {e : En} (h : ls.find? (twinE e) = none) : ∀ p ∈ ls.map kvE, p.1 ≠ (kvE e).1 := by
  intro p hp he
  obtain ⟨y, hm, rfl⟩ := List.mem_map.1 hp
  have := List.find?_eq_none.1 h y hm
  unfold twinE at this
  exact this (by simpa using (key_iff e y).1 he)
/-- What the map holds when these are still to come. -/
structure Kp (ls1 ls2 : List En) (X : List Int) (out0 out M : List En) : Prop where
  mem : ∀ x, x ∈ out ↔ x ∈ out0 ∨ ∃ e ∈ ls1, e ∉ M ∧ keepE ls2 X e = some x
theorem Kp.start (ls1 ls2 : List En) (X : List Int) (out0 : List En) : Kp ls1 ls2 X out0 out0 ls1 :=
  ⟨fun x => ⟨fun h => .inl h, fun h => h.elim id (fun ⟨e, h1, h2, _⟩ => absurd h1 h2)⟩⟩
theorem Kp.done {ls1 ls2 : List En} {X : List Int} {out0 out : List En} (h : Kp ls1 ls2 X out0 out []) : ∀ x, x ∈ out ↔ x ∈ out0 ∨ ∃ e ∈ ls1, keepE ls2 X e = some x := by
  intro x
  rw [h.mem]
  simp
theorem came_mem {ls1 A B : List En} {e : En} (hm : e ∈ ls1) (hn : e ∉ A ++ B) (z : En) : (z ∈ ls1 ∧ z ∉ A ++ B) ↔ ((z ∈ ls1 ∧ z ∉ A ++ e :: B) ∨ z = e) := by
  simp only [List.mem_append, List.mem_cons, not_or] at hn ⊢
  constructor
  · rintro ⟨h1, h2, h3⟩
    by_cases hz : z = e
    · exact .inr hz
    · exact .inl ⟨h1, h2, hz, h3⟩
  · rintro (⟨h1, h2, _, h3⟩ | rfl)
    · exact ⟨h1, h2, h3⟩
    · exact ⟨hm, hn.1, hn.2⟩
theorem Kp.step {ls1 ls2 : List En} {X : List Int} {out0 out out' A B : List En} {e : En} (h : Kp ls1 ls2 X out0 out (A ++ e :: B)) (hm : e ∈ ls1) (hn : e ∉ A ++ B) (ho : ∀ x, x ∈ out' ↔ x ∈ out ∨ keepE ls2 X e = some x) : Kp ls1 ls2 X out0 out' (A ++ B) := by
  refine ⟨fun x => ?_⟩
  rw [ho, h.mem]
  constructor
  · rintro ((h1 | ⟨z, h1, h2, h3⟩) | h1)
    · exact .inl h1
    · obtain ⟨k1, k2⟩ := (came_mem hm hn z).2 (.inl ⟨h1, h2⟩)
      exact .inr ⟨z, k1, k2, h3⟩
    · exact .inr ⟨e, hm, hn, h1⟩
  · rintro (h1 | ⟨z, h1, h2, h3⟩)
    · exact .inl (.inl h1)
    · rcases (came_mem hm hn z).1 ⟨h1, h2⟩ with ⟨k1, k2⟩ | rfl
      · exact .inl (.inr ⟨z, k1, k2, h3⟩)
      · exact .inr h3
/-- A pair put into a map whose entry of that key, if there is one, is that pair. -/
theorem Mp.putE {P : Program} {k t e : TypeId} {w : World} {b : Nat} {out : List En} (h : Mp P k w b (out.map kvE)) (K : Maps.Keyed P k) (ht : P.underlying t = some (.map k e)) {x : En} {l : Lit} (hk : keyOf P k (kvE x).1 = some l) (hs : ∀ o ∈ out, o.1 = x.1 ∧ o.2.1 = x.2.1 → o = x) :
    ∃ out' : List En, (∀ z, z ∈ out' ↔ z ∈ out ∨ some x = some z) ∧ ∀ w1, Mp P k w1 b (out.map kvE) → ∃ w', (Instr.mapUpdate t (.map (some b)) (kvE x).1 (kvE x).2).run P w1 = .ok () w' ∧ Mp P k w' b (out'.map kvE) ∧ w1.grownBy w' (some b) := by
  by_cases hx : x ∈ out
  · refine ⟨out, fun z => ⟨fun h => .inl h, fun h => h.elim id (fun h => by cases h; exact hx)⟩, fun w1 h1 => ?_⟩
    obtain ⟨j, hj, he⟩ := List.getElem_of_mem hx
    have hj' : (out.map kvE)[j]? = some ((kvE x).1, (kvE x).2) := by simp [hj, he]
    obtain ⟨w', r1, r2, r3⟩ := h1.over K ht hj' (kvE x).2
    refine ⟨w', r1, ?_, r3⟩
    have hset : (out.map kvE).set j ((kvE x).1, (kvE x).2) = out.map kvE := by
      refine List.ext_getElem (by simp) (fun i h1 h2 => ?_)
      rw [List.getElem_set]
      split
      · rename_i hij
        subst hij
        simp [he]
      · rfl
    rw [hset] at r2
    exact r2
  · refine ⟨out ++ [x], fun z => by simp [eq_comm], fun w1 h1 => ?_⟩
    obtain ⟨w', r1, r2, r3⟩ := h1.new K ht hk (fun p hp he => by
      obtain ⟨o, ho, rfl⟩ := List.mem_map.1 hp
      exact hx (hs o ho ((key_iff x o).1 he) ▸ ho)) (kvE x).2
    refine ⟨w', r1, ?_, r3⟩
    rw [List.map_append]
    exact r2

/-- What is put beside an entry of the same stamp is that entry. -/
theorem Kp.fresh {ls1 ls2 : List En} {X : List Int} {out0 out A B : List En} {e g : En} (h : Kp ls1 ls2 X out0 out (A ++ e :: B)) (hap : (ls1.map kvE).Pairwise (fun p q => p.1 ≠ q.1)) (hm : e ∈ ls1) (hk : keepE ls2 X e = some g)
    (hsame : ∀ e ∈ ls1, ∀ x, keepE ls2 X e = some x → ∀ o ∈ out0, o.1 = x.1 ∧ o.2.1 = x.2.1 → o = x) : ∀ o ∈ out, o.1 = g.1 ∧ o.2.1 = g.2.1 → o = g := by
  intro o ho hst
  rcases (h.mem o).1 ho with h1 | ⟨z, h1, h2, h3⟩
  · exact hsame e hm g hk o h1 hst
  · have s1 := keep_stamp h3
    have s2 := keep_stamp hk
    have hz : (kvE z).1 = (kvE e).1 := (key_iff e z).2 ⟨by rw [← s1.1, hst.1, s2.1], by rw [← s1.2, hst.2, s2.2]⟩
    have hze : z = e := by
      obtain ⟨i, hi, rfl⟩ := List.getElem_of_mem h1
      obtain ⟨j, hj, rfl⟩ := List.getElem_of_mem hm
      rcases Nat.lt_trichotomy i j with hlt | rfl | hlt
      · exact absurd (by rw [List.getElem_map, List.getElem_map]; exact hz) (List.pairwise_iff_getElem.1 hap i j (by simpa using hi) (by simpa using hj) hlt)
      · rfl
      · exact absurd (by rw [List.getElem_map, List.getElem_map]; exact hz.symm) (List.pairwise_iff_getElem.1 hap j i (by simpa using hj) (by simpa using hi) hlt)
    exact absurd (by rw [hze]; simp) h2

end Go.Proofs.Ytdkfeabpnikedaa
