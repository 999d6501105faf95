/- Logs, plain facts: operations by rising actor stand together; the specification's chain is the code's. -/
import Derived.Test.YtnpiinjdaiobgaaLedgerOf
import Derived.Test.YtnpiinjdaiobgaaLogFind
namespace Go.Proofs.Ytnpiinjdaiobgaa
open Go.RowKit
set_option linter.unusedVariables false

/-- The i-th operation is valid by itself and next behind those ahead of it. -/
def stepN (L : List Ov) (i : Nat) : Bool := (ovAt L i).ok && (nextB (L.take i) (ovAt L i) && decide (0 < i → (ovAt L (i - 1)).a ≤ (ovAt L i).a))
theorem stepI_split (L : List Ov) (i : Nat) : stepI L i = (stepN L i && suitB (L.take i) (ovAt L i)) := by
  unfold stepI stepN
  cases (ovAt L i).ok <;> cases nextB (L.take i) (ovAt L i) <;> cases suitB (L.take i) (ovAt L i) <;> simp
theorem stepN_parts {L : List Ov} {i : Nat} (h : stepN L i = true) : (ovAt L i).ok = true ∧ (ovAt L i).s = ((byA (L.take i) (ovAt L i).a.toNat).length : Int) + 1 ∧ (0 < i → (ovAt L (i - 1)).a ≤ (ovAt L i).a) := by
  unfold stepN nextB at h
  simp only [Bool.and_eq_true, decide_eq_true_eq] at h
  exact h
theorem rising {L : List Ov} {n : Nat} (h : ∀ i, i < n → stepN L i = true) : ∀ r, r < n → ∀ q, q ≤ r → (ovAt L q).a ≤ (ovAt L r).a := by
  intro r
  induction r with
  | zero => intro _ q hq; rw [show q = 0 by omega]; exact Int.le_refl _
  | succ r ih =>
    intro hr q hq
    by_cases e : q = r + 1
    · rw [e]; exact Int.le_refl _
    · have h1 := ih (by omega) q (by omega)
      have h2 := (stepN_parts (h (r + 1) hr)).2.2 (by omega)
      rw [show r + 1 - 1 = r by omega] at h2
      omega
theorem ovAt_take {L : List Ov} {i q : Nat} (h : q < i) (hi : i ≤ L.length) : ovAt (L.take i) q = ovAt L q := by
  unfold ovAt
  rw [List.getD_eq_getElem?_getD, List.getElem?_take_of_lt h, ← List.getD_eq_getElem?_getD]
theorem byA_none {L : List Ov} {i a : Nat} (hi : i ≤ L.length) (h : ∀ q, q < i → (ovAt L q).a ≠ (a : Int)) : byA (L.take i) a = [] := by
  unfold byA
  rw [List.filter_eq_nil_iff]
  intro x hx
  obtain ⟨q, hq, rfl⟩ := List.getElem_of_mem hx
  have hl : q < i := by rw [List.length_take] at hq; omega
  have := h q hl
  rw [← ovAt_take hl hi] at this
  rw [show (L.take i)[q] = ovAt (L.take i) q by have := ovAt_get hq; rw [List.getElem?_eq_getElem hq] at this; exact Option.some.inj this]
  simpa using this
theorem byA_one {L : List Ov} {i : Nat} (hi : i < L.length) {a : Nat} (ha : (ovAt L i).a = (a : Int)) : (byA (L.take (i + 1)) a).length = (byA (L.take i) a).length + 1 := by
  rw [take_snoc hi, byA_snoc, if_pos ha]
  simp
/-- What the specification asks of two neighbours is what the code asks. -/
theorem chain_zero {L : List Ov} : nextB (L.take 0) (ovAt L 0) = decide ((ovAt L 0).s = 1) := by
  unfold nextB
  simp [byA]
theorem chain_same {L : List Ov} {i : Nat} (hi : i + 1 < L.length) (h : ∀ q, q < i + 1 → stepN L q = true) (e : (ovAt L (i + 1)).a = (ovAt L i).a) : nextB (L.take (i + 1)) (ovAt L (i + 1)) = decide ((ovAt L (i + 1)).s = (ovAt L i).s + 1) := by
  have hp := stepN_parts (h i (by omega))
  have ha := (ok_parts hp.1).1
  have hn : (ovAt L i).a = (((ovAt L i).a.toNat : Nat) : Int) := by omega
  unfold nextB
  rw [e, byA_one (by omega) hn, hp.2.1]
  apply decide_eq_decide.2
  omega
theorem chain_more {L : List Ov} {i : Nat} (hi : i + 1 < L.length) (h : ∀ q, q < i + 1 → stepN L q = true) (hg : (ovAt L i).a < (ovAt L (i + 1)).a) : nextB (L.take (i + 1)) (ovAt L (i + 1)) = decide ((ovAt L (i + 1)).s = 1) := by
  have ha := (ok_parts (stepN_parts (h i (by omega))).1).1
  unfold nextB
  rw [byA_none (by omega) (fun q hq => by
    have := rising h i (by omega) q (by omega)
    omega)]
  simp

theorem split3 (a : Int) : ∀ (L : List Ov), L.Pairwise (fun x y => x.a ≤ y.a) → L = L.filter (fun x => decide (x.a < a)) ++ (L.filter (fun x => decide (x.a = a)) ++ L.filter (fun x => decide (a < x.a))) := by
  intro L
  induction L with
  | nil => intro _; rfl
  | cons x L ih =>
    intro h
    rw [List.pairwise_cons] at h
    have hi := ih h.2
    by_cases h1 : x.a < a
    · have h2 : ¬ x.a = a := by omega
      have h3 : ¬ a < x.a := by omega
      simp only [List.filter_cons, h1, h2, h3, decide_true, decide_false, if_true, if_false, Bool.false_eq_true, List.cons_append]
      rw [← hi]
    · have n1 : L.filter (fun x => decide (x.a < a)) = [] := by
        rw [List.filter_eq_nil_iff]
        intro y hy
        have := h.1 y hy
        simp
        omega
      by_cases h2 : x.a = a
      · have h3 : ¬ a < x.a := by omega
        rw [n1, List.nil_append] at hi
        simp only [List.filter_cons, h2, decide_true, decide_false, if_true, if_false, Bool.false_eq_true, Int.lt_irrefl]
        rw [n1, List.nil_append, List.cons_append, ← hi]
      · have h3 : a < x.a := by omega
        have n2 : L.filter (fun x => decide (x.a = a)) = [] := by
          rw [List.filter_eq_nil_iff]
          intro y hy
          have := h.1 y hy
          simp
          omega
        rw [n1, n2, List.nil_append, List.nil_append] at hi
        simp only [List.filter_cons, h1, h2, h3, decide_true, decide_false, if_true, if_false, Bool.false_eq_true]
        rw [n1, n2, List.nil_append, List.nil_append, ← hi]
theorem stand_of {L : List Ov} (h : ∀ i, i < L.length → stepN L i = true) (a : Nat) : ∃ i, Stand L a i := by
  have hpw : L.Pairwise (fun x y => x.a ≤ y.a) := by
    rw [List.pairwise_iff_getElem]
    intro i j hi hj hij
    have := rising h j hj i (by omega)
    rwa [show ovAt L i = L[i] by have := ovAt_get hi; rw [List.getElem?_eq_getElem hi] at this; exact (Option.some.inj this).symm, show ovAt L j = L[j] by have := ovAt_get hj; rw [List.getElem?_eq_getElem hj] at this; exact (Option.some.inj this).symm] at this
  have hs := split3 (a : Int) L hpw
  have hb : L.filter (fun x => decide (x.a = (a : Int))) = byA L a := rfl
  rw [hb] at hs
  have hlen : L.length = (L.filter (fun x => decide (x.a < (a : Int)))).length + ((byA L a).length + (L.filter (fun x => decide ((a : Int) < x.a))).length) := by
    have := congrArg List.length hs
    simpa using this
  have at_lo : ∀ q, q < (L.filter (fun x => decide (x.a < (a : Int)))).length → ovAt L q ∈ L.filter (fun x => decide (x.a < (a : Int))) := fun q hq => by
    have : L[q]? = (L.filter (fun x => decide (x.a < (a : Int))))[q]? := by
      rw [← List.getElem?_append_left (l₂ := byA L a ++ L.filter (fun x => decide ((a : Int) < x.a))) hq, ← hs]
    rw [ovAt_get (by omega)] at this
    exact List.mem_of_getElem? this.symm
  have at_mid : ∀ q, q < (byA L a).length → L[(L.filter (fun x => decide (x.a < (a : Int)))).length + q]? = (byA L a)[q]? := fun q hq => by
    rw [← List.getElem?_append_left (l₂ := L.filter (fun x => decide ((a : Int) < x.a))) hq]
    have := List.getElem?_append_right (l₁ := L.filter (fun x => decide (x.a < (a : Int)))) (l₂ := byA L a ++ L.filter (fun x => decide ((a : Int) < x.a))) (i := (L.filter (fun x => decide (x.a < (a : Int)))).length + q) (by omega)
    rw [← hs, Nat.add_sub_cancel_left] at this
    exact this
  refine ⟨(L.filter (fun x => decide (x.a < (a : Int)))).length, fun q hq => ?_, fun q hq => ?_, by omega⟩
  · have := List.mem_filter.1 (at_lo q hq)
    have h2 := this.2
    simp at h2
    omega
  · have h1 := at_mid q hq
    rw [ovAt_get (by omega), ovAt_get hq] at h1
    have h2 := Option.some.inj h1
    refine ⟨h2, ?_⟩
    rw [h2]
    have := List.mem_filter.1 (show ovAt (byA L a) q ∈ L.filter (fun x => decide (x.a = (a : Int))) from ovAt_mem hq)
    simpa using this.2
end Go.Proofs.Ytnpiinjdaiobgaa
