/- Logs, plain facts: operations by rising actor stand together; the specification's chain is the code's. Logs, plain facts: what the specification's LogOK asks of two neighbours, and of the objects. The specification's LogOK: what it answers, some of its ways. -/
import Derived.BigQuiet
import Derived.Test.YtcmgdeeamcimhaaQLedClosedToLogOKImpl
import Derived.Test.YtcmgdeeamcimhaaQLedCausesToLogCounts
import Derived.Test.YtcmgdeeamcimhaaQOpSpec
import Derived.Test.YtcmgdeeamcimhaaQLogCauses
import Derived.Test.YtcmgdeeamcimhaaQTakeKitToBigKit
namespace Go.Proofs.Ytcmgdeeamcimhaa
open Go.RowKit
set_option linter.unusedVariables false

/-- The i-th operation is valid by itself and next behind those ahead of it. -/
def stepN (L : List Ov) (i : Nat) : Bool := (ovAt L i).ok && (nextB (L.take i) (ovAt L i) && decide (0 < i → (ovAt L (i - 1)).a ≤ (ovAt L i).a))
theorem stepI_split (L : List Ov) (i : Nat) : stepI L i = (stepN L i && suitB (L.take i) (ovAt L i)) := by
  unfold stepI stepN
  cases (ovAt L i).ok <;> cases nextB (L.take i) (ovAt L i) <;> cases suitB (L.take i) (ovAt L i) <;> simp
theorem stepN_parts {L : List Ov} {i : Nat} (h : stepN L i = true) : (ovAt L i).ok = true ∧ (ovAt L i).s = ((byA (L.take i) (ovAt L i).a.toNat).length : Int) + 1 ∧ (0 < i → (ovAt L (i - 1)).a ≤ (ovAt L i).a) := by
  unfold stepN nextB at h
  simp only [Bool.and_eq_true, decide_eq_true_eq] at h
  exact h
theorem rising {L : List Ov} {n : Nat} (h : ∀ i, i < n → stepN L i = true) : ∀ r, r < n → ∀ q, q ≤ r → (ovAt L q).a ≤ (ovAt L r).a := by
  intro r
  induction r with
  | zero => intro _ q hq; rw [show q = 0 by omega]; exact Int.le_refl _
  | succ r ih =>
    intro hr q hq
    by_cases e : q = r + 1
    · rw [e]; exact Int.le_refl _
    · have h1 := ih (by omega) q (by omega)
      have h2 := (stepN_parts (h (r + 1) hr)).2.2 (by omega)
      rw [show r + 1 - 1 = r by omega] at h2
      omega
theorem ovAt_take {L : List Ov} {i q : Nat} (h : q < i) (hi : i ≤ L.length) : ovAt (L.take i) q = ovAt L q := by
  unfold ovAt
  rw [List.getD_eq_getElem?_getD, List.getElem?_take_of_lt h, ← List.getD_eq_getElem?_getD]
theorem byA_none {L : List Ov} {i a : Nat} (hi : i ≤ L.length) (h : ∀ q, q < i → (ovAt L q).a ≠ (a : Int)) : byA (L.take i) a = [] := by
  unfold byA
  rw [List.filter_eq_nil_iff]
  intro x hx
  obtain ⟨q, hq, rfl⟩ := List.getElem_of_mem hx
  have hl : q < i := by rw [List.length_take] at hq; omega
  have := h q hl
  rw [← ovAt_take hl hi] at this
  rw [show (L.take i)[q] = ovAt (L.take i) q by have := ovAt_get hq; rw [List.getElem?_eq_getElem hq] at this; exact Option.some.inj this]
  simpa using this
theorem byA_one {L : List Ov} {i : Nat} (hi : i < L.length) {a : Nat} (ha : (ovAt L i).a = (a : Int)) : (byA (L.take (i + 1)) a).length = (byA (L.take i) a).length + 1 := by
  rw [take_snoc hi, byA_snoc, if_pos ha]
  simp
/-- What the specification asks of two neighbours is what the code asks. -/
theorem chain_zero {L : List Ov} : nextB (L.take 0) (ovAt L 0) = decide ((ovAt L 0).s = 1) := by
  unfold nextB
  simp [byA]
theorem chain_same {L : List Ov} {i : Nat} (hi : i + 1 < L.length) (h : ∀ q, q < i + 1 → stepN L q = true) (e : (ovAt L (i + 1)).a = (ovAt L i).a) : nextB (L.take (i + 1)) (ovAt L (i + 1)) = decide ((ovAt L (i + 1)).s = (ovAt L i).s + 1) := by
  have hp := stepN_parts (h i (by omega))
  have ha := (ok_parts hp.1).1
  have hn : (ovAt L i).a = (((ovAt L i).a.toNat : Nat) : Int) := by omega
  unfold nextB
  rw [e, byA_one (by omega) hn, hp.2.1]
  apply decide_eq_decide.2
  omega
theorem chain_more {L : List Ov} {i : Nat} (hi : i + 1 < L.length) (h : ∀ q, q < i + 1 → stepN L q = true) (hg : (ovAt L i).a < (ovAt L (i + 1)).a) : nextB (L.take (i + 1)) (ovAt L (i + 1)) = decide ((ovAt L (i + 1)).s = 1) := by
  have ha := (ok_parts (stepN_parts (h i (by omega))).1).1
  unfold nextB
  rw [byA_none (by omega) (fun q hq => by
    have := rising h i (by omega) q (by omega)
    omega)]
  simp

theorem split3 (a : Int) : ∀ (L : List Ov), L.Pairwise (fun x y => x.a ≤ y.a) → L = L.filter (fun x => decide (x.a < a)) ++ (L.filter (fun x => decide (x.a = a)) ++ L.filter (fun x => decide (a < x.a))) := by
  intro L
  induction L with
  | nil => intro _; rfl
  | cons x L ih =>
    intro h
    rw [List.pairwise_cons] at h
    have hi := ih h.2
    by_cases h1 : x.a < a
    · have h2 : ¬ x.a = a := by omega
      have h3 : ¬ a < x.a := by omega
      simp only [List.filter_cons, h1, h2, h3, decide_true, decide_false, if_true, if_false, Bool.false_eq_true, List.cons_append]
      rw [← hi]
    · have n1 : L.filter (fun x => decide (x.a < a)) = [] := by
        rw [List.filter_eq_nil_iff]
        intro y hy
        have := h.1 y hy
        simp
        omega
      by_cases h2 : x.a = a
      · have h3 : ¬ a < x.a := by omega
        rw [n1, List.nil_append] at hi
        simp only [List.filter_cons, h2, decide_true, decide_false, if_true, if_false, Bool.false_eq_true, Int.lt_irrefl]
        rw [n1, List.nil_append, List.cons_append, ← hi]
      · have h3 : a < x.a := by omega
        have n2 : L.filter (fun x => decide (x.a = a)) = [] := by
          rw [List.filter_eq_nil_iff]
          intro y hy
          have := h.1 y hy
          simp
          omega
        rw [n1, n2, List.nil_append, List.nil_append] at hi
        simp only [List.filter_cons, h1, h2, h3, decide_true, decide_false, if_true, if_false, Bool.false_eq_true]
        rw [n1, n2, List.nil_append, List.nil_append, ← hi]
theorem stand_of {L : List Ov} (h : ∀ i, i < L.length → stepN L i = true) (a : Nat) : ∃ i, Stand L a i := by
  have hpw : L.Pairwise (fun x y => x.a ≤ y.a) := by
    rw [List.pairwise_iff_getElem]
    intro i j hi hj hij
    have := rising h j hj i (by omega)
    rwa [show ovAt L i = L[i] by have := ovAt_get hi; rw [List.getElem?_eq_getElem hi] at this; exact (Option.some.inj this).symm, show ovAt L j = L[j] by have := ovAt_get hj; rw [List.getElem?_eq_getElem hj] at this; exact (Option.some.inj this).symm] at this
  have hs := split3 (a : Int) L hpw
  have hb : L.filter (fun x => decide (x.a = (a : Int))) = byA L a := rfl
  rw [hb] at hs
  have hlen : L.length = (L.filter (fun x => decide (x.a < (a : Int)))).length + ((byA L a).length + (L.filter (fun x => decide ((a : Int) < x.a))).length) := by
    have := congrArg List.length hs
    simpa using this
  have at_lo : ∀ q, q < (L.filter (fun x => decide (x.a < (a : Int)))).length → ovAt L q ∈ L.filter (fun x => decide (x.a < (a : Int))) := fun q hq => by
    have : L[q]? = (L.filter (fun x => decide (x.a < (a : Int))))[q]? := by
      rw [← List.getElem?_append_left (l₂ := byA L a ++ L.filter (fun x => decide ((a : Int) < x.a))) hq, ← hs]
    rw [ovAt_get (by omega)] at this
    exact List.mem_of_getElem? this.symm
  have at_mid : ∀ q, q < (byA L a).length → L[(L.filter (fun x => decide (x.a < (a : Int)))).length + q]? = (byA L a)[q]? := fun q hq => by
    rw [← List.getElem?_append_left (l₂ := L.filter (fun x => decide ((a : Int) < x.a))) hq]
    have := List.getElem?_append_right (l₁ := L.filter (fun x => decide (x.a < (a : Int)))) (l₂ := byA L a ++ L.filter (fun x => decide ((a : Int) < x.a))) (i := (L.filter (fun x => decide (x.a < (a : Int)))).length + q) (by omega)
    rw [← hs, Nat.add_sub_cancel_left] at this
    exact this
  refine ⟨(L.filter (fun x => decide (x.a < (a : Int)))).length, fun q hq => ?_, fun q hq => ?_, by omega⟩
  · have := List.mem_filter.1 (at_lo q hq)
    have h2 := this.2
    simp at h2
    omega
  · have h1 := at_mid q hq
    rw [ovAt_get (by omega), ovAt_get hq] at h1
    have h2 := Option.some.inj h1
    refine ⟨h2, ?_⟩
    rw [h2]
    have := List.mem_filter.1 (show ovAt (byA L a) q ∈ L.filter (fun x => decide (x.a = (a : Int))) from ovAt_mem hq)
    simpa using this.2
end Go.Proofs.Ytcmgdeeamcimhaa

namespace Go.Proofs.Ytcmgdeeamcimhaa
open Go.RowKit
set_option linter.unusedVariables false

theorem good_at {L : List Ov} {i : Nat} (hi : i < L.length) (h : ∀ q, q < i + 1 → stepN L q = true) :
    (ovAt L i).ok = true ∧ (i = 0 ∧ (ovAt L i).s = 1 ∨ ∃ j, i = j + 1 ∧ ((ovAt L i).a = (ovAt L j).a ∧ (ovAt L i).s = (ovAt L j).s + 1 ∨ (ovAt L j).a < (ovAt L i).a ∧ (ovAt L i).s = 1)) := by
  have hs := h i (by omega)
  have hp := stepN_parts hs
  refine ⟨hp.1, ?_⟩
  have hn : nextB (L.take i) (ovAt L i) = true := decide_eq_true hp.2.1
  by_cases h0 : i = 0
  · subst h0
    rw [chain_zero] at hn
    exact .inl ⟨rfl, of_decide_eq_true hn⟩
  · obtain ⟨j, rfl⟩ : ∃ j, i = j + 1 := ⟨i - 1, by omega⟩
    refine .inr ⟨j, rfl, ?_⟩
    have hle := hp.2.2 (by omega)
    rw [show j + 1 - 1 = j by omega] at hle
    by_cases e : (ovAt L (j + 1)).a = (ovAt L j).a
    · rw [chain_same hi (fun q hq => h q (by omega)) e] at hn
      exact .inl ⟨e, of_decide_eq_true hn⟩
    · rw [chain_more hi (fun q hq => h q (by omega)) (by omega)] at hn
      exact .inr ⟨by omega, of_decide_eq_true hn⟩
theorem bad_at {L : List Ov} {i : Nat} (hi : i < L.length) (h : ∀ q, q < i → stepN L q = true) (hb : stepN L i = false) :
    (ovAt L i).ok = false ∨ ((ovAt L i).ok = true ∧ (i = 0 ∧ ¬ (ovAt L i).s = 1 ∨ ∃ j, i = j + 1 ∧ ((ovAt L i).a = (ovAt L j).a ∧ ¬ (ovAt L i).s = (ovAt L j).s + 1 ∨ (ovAt L i).a < (ovAt L j).a ∧ (ovAt L i).s = 1 ∨ (ovAt L i).a < (ovAt L j).a ∧ ¬ (ovAt L i).s = 1 ∨ (ovAt L j).a < (ovAt L i).a ∧ ¬ (ovAt L i).s = 1))) := by
  cases hok : (ovAt L i).ok with
  | false => exact .inl rfl
  | true =>
    refine .inr ⟨rfl, ?_⟩
    unfold stepN at hb
    rw [hok, Bool.true_and] at hb
    by_cases h0 : i = 0
    · subst h0
      rw [chain_zero, decide_eq_true (fun h => absurd h (by omega) : 0 < 0 → (ovAt L (0 - 1)).a ≤ (ovAt L 0).a), Bool.and_true] at hb
      exact .inl ⟨rfl, of_decide_eq_false hb⟩
    · obtain ⟨j, rfl⟩ : ∃ j, i = j + 1 := ⟨i - 1, by omega⟩
      refine .inr ⟨j, rfl, ?_⟩
      rw [show j + 1 - 1 = j by omega] at hb
      by_cases e : (ovAt L (j + 1)).a = (ovAt L j).a
      · rw [chain_same hi h e, decide_eq_true (fun _ => by omega : 0 < j + 1 → (ovAt L j).a ≤ (ovAt L (j + 1)).a), Bool.and_true] at hb
        exact .inl ⟨e, of_decide_eq_false hb⟩
      · by_cases l : (ovAt L (j + 1)).a < (ovAt L j).a
        · by_cases s : (ovAt L (j + 1)).s = 1
          · exact .inr (.inl ⟨l, s⟩)
          · exact .inr (.inr (.inl ⟨l, s⟩))
        · rw [chain_more hi h (by omega), decide_eq_true (fun _ => by omega : 0 < j + 1 → (ovAt L j).a ≤ (ovAt L (j + 1)).a), Bool.and_true] at hb
          exact .inr (.inr (.inr ⟨by omega, of_decide_eq_false hb⟩))
theorem first_bad (p : Nat → Bool) : ∀ n, (∀ q, q < n → p q = true) ∨ ∃ f, f < n ∧ (∀ q, q < f → p q = true) ∧ p f = false
  | 0 => .inl fun q hq => absurd hq (by omega)
  | n + 1 => by
    rcases first_bad p n with h | ⟨f, hf, h1, h2⟩
    · cases hn : p n with
      | false => exact .inr ⟨n, by omega, h, hn⟩
      | true =>
        refine .inl fun q hq => ?_
        by_cases e : q = n
        · rw [e]; exact hn
        · exact h q (by omega)
    · exact .inr ⟨f, by omega, h1, h2⟩
theorem seq_bound {L : List Ov} {i : Nat} (h : stepN L i = true) : 1 ≤ (ovAt L i).s ∧ (ovAt L i).s ≤ 1000000000000 := by
  have := (stepN_parts h).1
  unfold Ov.ok opB comesOK at this
  simp only [Bool.and_eq_true, decide_eq_true_eq] at this
  omega
theorem stepN_mem {L : List Ov} (h : ∀ q, q < L.length → stepN L q = true) : ∀ x ∈ L, x.ok = true := by
  intro x hx
  obtain ⟨q, hq, e⟩ := List.getElem_of_mem hx
  have h1 := (stepN_parts (h q hq)).1
  have h2 := ovAt_get hq
  rw [List.getElem?_eq_getElem hq, e] at h2
  rwa [← Option.some.inj h2] at h1
theorem ok_kind {x : Ov} (h : x.ok = true) : x.k = 1 ∨ x.k = 2 ∨ x.k = 3 ∨ x.k = 4 := by
  unfold Ov.ok opB at h
  simp only [Bool.and_eq_true] at h
  have h1 := h.2.2.2.2.2.2.2
  unfold saysOK at h1
  by_cases k1 : x.k = 1
  · exact .inl k1
  · by_cases k2 : x.k = 2
    · exact .inr (.inl k2)
    · by_cases k3 : x.k = 3
      · exact .inr (.inr (.inl k3))
      · by_cases k4 : x.k = 4
        · exact .inr (.inr (.inr k4))
        · simp [k1, k2, k3, k4] at h1

/-- What the specification calls a thing. -/
def smT (t : Int) : Int := if t = 4 then 3 else t
/-- What kind of thing a kind belongs to, by the specification. -/
def spT (k : Int) : Int := if k = 1 then 1 else if k = 2 ∨ k = 3 then 2 else 3
theorem spT_eq {k : Int} (h : k = 1 ∨ k = 2 ∨ k = 3 ∨ k = 4) : spT k = smT (thOf k) := by
  rcases h with rfl | rfl | rfl | rfl <;> rfl
theorem thOf_in {k : Int} (h : k = 1 ∨ k = 2 ∨ k = 3 ∨ k = 4) : thOf k = 1 ∨ thOf k = 2 ∨ thOf k = 4 := by
  rcases h with rfl | rfl | rfl | rfl
  · exact .inl rfl
  · exact .inr (.inl rfl)
  · exact .inr (.inl rfl)
  · exact .inr (.inr rfl)
theorem tsOf_in {P : List Ov} (h : ∀ x ∈ P, x.k = 1 ∨ x.k = 2 ∨ x.k = 3 ∨ x.k = 4) : ∀ t ∈ tsOf P, t = 0 ∨ t = 1 ∨ t = 2 ∨ t = 4 := by
  unfold tsOf
  have h0 : ∀ t ∈ List.replicate 101 (0 : Int), t = 0 ∨ t = 1 ∨ t = 2 ∨ t = 4 := fun t ht => .inl (List.eq_of_mem_replicate ht)
  revert h0
  generalize List.replicate 101 (0 : Int) = ts
  intro h0
  induction P generalizing ts with
  | nil => exact h0
  | cons x P ih =>
    refine ih (fun y hy => h y (List.mem_cons_of_mem _ hy)) _ (fun t ht => ?_)
    rcases List.mem_or_eq_of_mem_set ht with ht | rfl
    · exact h0 t ht
    · exact .inr (thOf_in (h x (List.mem_cons_self ..)))
theorem tsOf_get {P : List Ov} (h : ∀ x ∈ P, x.k = 1 ∨ x.k = 2 ∨ x.k = 3 ∨ x.k = 4) {j : Nat} (hj : j < 101) : (tsOf P).getD j 0 = 0 ∨ (tsOf P).getD j 0 = 1 ∨ (tsOf P).getD j 0 = 2 ∨ (tsOf P).getD j 0 = 4 := by
  have hl := tsOf_len P
  rw [List.getD_eq_getElem?_getD, List.getElem?_eq_getElem (by omega)]
  exact tsOf_in h _ (List.getElem_mem _)
theorem smT_zero {t : Int} (h : t = 0 ∨ t = 1 ∨ t = 2 ∨ t = 4) : smT t = 0 ↔ t = 0 := by
  rcases h with rfl | rfl | rfl | rfl <;> decide
theorem smT_same {t u : Int} (h : t = 0 ∨ t = 1 ∨ t = 2 ∨ t = 4) (h' : u = 1 ∨ u = 2 ∨ u = 4) : smT t = smT u ↔ t = u := by
  rcases h with rfl | rfl | rfl | rfl <;> rcases h' with rfl | rfl | rfl <;> decide
theorem smT_val {t : Int} (h : t = 0 ∨ t = 1 ∨ t = 2 ∨ t = 4) : smT t = 0 ∨ smT t = 1 ∨ smT t = 2 ∨ smT t = 3 := by
  rcases h with rfl | rfl | rfl | rfl <;> decide
theorem spT_val {k : Int} (h : k = 1 ∨ k = 2 ∨ k = 3 ∨ k = 4) : spT k = 1 ∨ spT k = 2 ∨ spT k = 3 := by
  rcases h with rfl | rfl | rfl | rfl <;> decide
/-- The row of things, by the specification. -/
def thR (P : List Ov) : List Int := (tsOf P).map smT
theorem thR_len (P : List Ov) : (thR P).length = 101 := by simp [thR, tsOf_len]
theorem thR_at (P : List Ov) {j : Nat} (hj : j < 101) : (thR P)[j]? = some (smT ((tsOf P).getD j 0)) := by
  have hl := tsOf_len P
  unfold thR
  rw [List.getElem?_map, List.getD_eq_getElem?_getD, List.getElem?_eq_getElem (by omega)]
  rfl
theorem thR_nil : thR [] = List.replicate 101 0 := by decide
theorem thR_snoc (P : List Ov) (x : Ov) (h : x.k = 1 ∨ x.k = 2 ∨ x.k = 3 ∨ x.k = 4) : thR (P ++ [x]) = (thR P).set x.o.toNat (spT x.k) := by
  unfold thR
  rw [tsOf_snoc, List.map_set, spT_eq h]
theorem suit_sp {P : List Ov} {x : Ov} {j : Nat} (hP : ∀ y ∈ P, y.k = 1 ∨ y.k = 2 ∨ y.k = 3 ∨ y.k = 4) (hx : x.k = 1 ∨ x.k = 2 ∨ x.k = 3 ∨ x.k = 4) (hj : j < 101) (ho : x.o = (j : Int)) :
    suitB P x = decide (smT ((tsOf P).getD j 0) = 0 ∨ smT ((tsOf P).getD j 0) = spT x.k) := by
  unfold suitB
  rw [ho, Int.toNat_natCast, spT_eq hx]
  have h := tsOf_get hP hj
  rw [decide_eq_decide, smT_zero h, smT_same h (thOf_in hx)]
theorem logI_all {L : List Ov} (hl : L.length ≤ 1024) (h : ∀ i, i < L.length → stepN L i = true) (h2 : ∀ q, q < L.length → causesB L (ovAt L q) = true ∧ suitB (L.take q) (ovAt L q) = true) : logI L = true :=
  logI_yes hl (fun i hi => by rw [stepI_split, h i hi, (h2 i hi).2]; rfl) fun i hi => (h2 i hi).1
theorem logI_stepN {L : List Ov} {i : Nat} (h : i < L.length) (hs : stepN L i = false) : logI L = false := logI_step h (by rw [stepI_split, hs]; rfl)
theorem logI_suit {L : List Ov} {i : Nat} (h : i < L.length) (hs : suitB (L.take i) (ovAt L i) = false) : logI L = false := logI_step h (by rw [stepI_split, hs, Bool.and_false])

set_option maxHeartbeats 400000 in
theorem l08Thing_any (k : Int) (w : World) : Calls Try.prog 34 #[.int .i64 k] w fun e w' => e = .returned (.int .i64 (spT k)) ∧ w' = w := by
  unfold spT
  by_cases h1 : k = 1
  · subst h1
    go_enter Try.func34, Try.ntmps34
    go_wp2_with fail
    go_ret
    exact ⟨rfl, rfl⟩
  · by_cases h2 : k = 2
    · subst h2
      go_enter Try.func34, Try.ntmps34
      go_wp2_with fail
      go_ret
      exact ⟨rfl, rfl⟩
    · by_cases h3 : k = 3
      · subst h3
        go_enter Try.func34, Try.ntmps34
        go_wp2_with fail
        go_ret
        exact ⟨rfl, rfl⟩
      · have e1 : (k == 1) = false := by simpa using h1
        have e2 : (k == 2) = false := by simpa using h2
        have e3 : (k == 3) = false := by simpa using h3
        rw [if_neg h1, if_neg (by omega)]
        clear h1 h2 h3
        go_enter Try.func34, Try.ntmps34
        go_wp2_with fail
        go_ret
        exact ⟨rfl, rfl⟩
end Go.Proofs.Ytcmgdeeamcimhaa

namespace Go.Proofs.Ytcmgdeeamcimhaa
open Go.RowKit
set_option linter.unusedVariables false

set_option maxHeartbeats 8000000 in
set_option maxRecDepth 100000 in
theorem logSpec_A (C : Nat) (w : World) (v : Value) (L : List Ov) (hC : C ≤ w.heap.size) (hr : RdO C w v L) (hlen : L.length ≤ 1024) (HGD : Hid (∀ q, q < L.length → stepN L q = true)) :
    Calls Try.prog 17 #[v] w fun e w' => e = .returned (.bool (logI L)) ∧ Below w.heap.size w w' := by
  have hr0 := hr
  obtain ⟨⟨ao, cap, rfl, hcap, hmax, hnil, hrow⟩, hdv⟩ := hr
  unfold maxLen at hmax
  have hlen' : ¬ (1024 : Int) < (L.length : Int) := by omega
  obtain ⟨r, HR⟩ : ∃ r, Hid (logI L = r) := ⟨_, rfl⟩
  rw [HR.out]
  go_enter Try.func17, Try.ntmps17
  go_wp2_with fail
  go_loopw [3] (fun ti wr => ∃ (i : Nat), i ≤ L.length ∧ ti = .int .i64 (i : Int) ∧ Below w.heap.size w wr) (fun ti _ => L.length - (intOf ti).toNat)
  case atStart => exact ⟨0, Nat.zero_le _, rfl, Below.refl _ _⟩
  case round =>
    obtain ⟨i, hi, rfl, hBw⟩ := hrel
    by_cases hlt : i < L.length
    · have HIF : Hid (i < L.length) := hlt
      obtain ⟨hok, hcase⟩ := good_at hlt (fun q hq => HGD.out q (by have := HIF.out; omega))
      have hki : (i : Int) < (L.length : Int) := by omega
      have hk2 : (i : Int) + 1 < 9223372036854775808 := by omega
      have hsz := hBw.size
      obtain ⟨g, off, rfl, hg, hcs⟩ := hrow (by omega)
      have hx := (hcs i hlt).below (hBw.mono hC) hg
      have hxd := (hdv _ (ovAt_mem hlt)).below (hBw.mono hC)
      have hgw : g < wr.heap.size := by omega
      have hOK := specOpOK_any C (ovAt L i).a (ovAt L i).s (ovAt L i).t (ovAt L i).k (ovAt L i).o (ovAt L i).n (ovAt L i).u (ovAt L i).pt (ovAt L i).pa (ovAt L i).dv (ovAt L i).ky (ovAt L i).tx (ovAt L i).ds wr (by omega) hxd
      change Calls _ _ _ _ (fun e w' => e = .returned (.bool (ovAt L i).ok) ∧ Below wr.heap.size wr w') at hOK
      rw [hok] at hOK
      obtain ⟨c0, c1, c2, c3, c4, c5, c6, c7, c8, c9, c10, c11⟩ := hx
      rcases hcase with ⟨rfl, hs⟩ | ⟨j, hij, hcase⟩
      · generalize ovAt L 0 = x at *
        obtain ⟨xa, xs, xt, xdv, xk, xo, xn, xu, xpt, xpa, xky, xtx, xds⟩ := x
        simp only at c0 c1 c2 c3 c4 c5 c6 c7 c8 c9 c10 c11 hOK hs
        have a0 : wr.cell? ⟨g, off, none⟩ = some (.int .i64 xa) := by simpa using c0
        have a1 : wr.cell? ⟨g, off + 1, none⟩ = some (.int .i64 xs) := by simpa using c1
        simp only [Nat.zero_mul, Nat.add_zero] at c0 c1 c2 c3 c4 c5 c6 c7 c8 c9 c10 c11
        clear hcs hxd
        subst hs
        clear hok
        go_wp2_with ((go_at_call 32; refine hOK.mono ?_; clear c0 c1 c2 c3 c4 c5 c6 c7 c8 c9 c10 c11; rintro e w1 ⟨rfl, hb⟩; have d0 := (hb.cell (p := ⟨g, off, none⟩) hgw).trans a0; have d1 := (hb.cell (p := ⟨g, off + 1, none⟩) hgw).trans a1))
        refine wp_region_held_drew (S := fun w' => w'.cell? ⟨g, off, none⟩ = some (.int .i64 xa) ∧ w'.cell? ⟨g, off + 1, none⟩ = some (.int .i64 1)) (by kernel_rfl) (⟨d0, d1⟩) (fun hHeld => ?_)
        refine tkB 0 (.int .i64 0) [(3, .int .i64 0)] rfl (by rintro ρ ⟨e3, ec⟩ w hSw; obtain ⟨s0, s1⟩ := hSw; go_simp) hHeld ?_
        refine tkB 1 (.bool true) [(24, .int .i64 0)] rfl (by rintro ρ ⟨e24, ec⟩ w hSw; obtain ⟨s0, s1⟩ := hSw; have k0 := ec (Value.int IntKind.i64 0); go_simp) hHeld ?_
        refine tkB 2 (.bool true) [(25, .bool true)] rfl (by rintro ρ ⟨e25, ec⟩ w hSw; obtain ⟨s0, s1⟩ := hSw; go_simp) hHeld ?_
        refine tkN 3 rfl hHeld ?_
        refine tkN 4 rfl hHeld ?_
        refine tkN 5 rfl hHeld ?_
        refine tkN 6 rfl hHeld ?_
        refine tkN 7 rfl hHeld ?_
        refine tkN 8 rfl hHeld ?_
        refine tkN 9 rfl hHeld ?_
        refine tkN 10 rfl hHeld ?_
        refine tkN 11 rfl hHeld ?_
        refine tkN 12 rfl hHeld ?_
        refine tkN 13 rfl hHeld ?_
        refine tkN 14 rfl hHeld ?_
        refine tkB 15 (.bool true) [(26, .bool true), (38, undef)] rfl (by rintro ρ ⟨e26, e38, ec⟩ w hSw; obtain ⟨s0, s1⟩ := hSw; have k0 := ec (Value.bool true); go_simp) hHeld ?_
        refine tkB 16 (.bool true) [(39, .bool true)] rfl (by rintro ρ ⟨e39, ec⟩ w hSw; obtain ⟨s0, s1⟩ := hSw; go_simp) hHeld ?_
        refine wpAnyH_done (by kernel_rfl) ?_ _
        refine actN ⟨#[.slice (some ⟨g, off, none⟩) L.length cap, undef, u2, .int .i64 0, .bool true, undef, undef, undef, undef, .slice (some ⟨g, off, none⟩) L.length cap, .int .i64 ((L.length : Int)), .bool false, .int .i64 0, .slice (some ⟨g, off, none⟩) L.length cap, .int .i64 ((L.length : Int)), .bool true, u16, u17, .slice (some ⟨g, off, none⟩) L.length cap, .int .i64 0, .pointer (some ⟨g, off, none⟩), .agg #[.int .i64 xa, .int .i64 1, .int .i64 xt, xdv, .int .i64 xk, .int .i64 xo, .int .i64 xn, .int .i64 xu, .int .i64 xpt, .int .i64 xpa, .string xky, .string xtx], .bool true, .bool false, .int .i64 0, .bool true, .bool true, undef, undef, undef, undef, undef, undef, undef, undef, undef, undef, undef, undef, .bool true, u40, u41, u42, u43, u44, u45, u46, u47, u48, u49, u50, u51, u52, u53, u54, u55, u56, u57, u58, u59, u60, u61, u62, u63, u64, u65, u66, u67, u68, u69, u70, u71, u72, u73, u74, u75, u76, u77, u78, u79, u80, u81, u82, u83, u84, u85, undef, undef, undef, undef, undef, undef, undef, undef, undef, undef, undef, undef, undef, undef, undef, undef, undef, undef, undef, undef, undef, undef, undef, undef, undef, undef, undef, undef, undef, undef, undef, undef, undef, undef, undef, undef, undef, undef, undef, undef, undef, undef, undef, undef, undef, undef, undef, undef, undef, undef, undef, undef], []⟩ ?_
        go_wp2_with fail
        refine wp_region_held_drew (S := fun w' => w'.cell? ⟨g, off, none⟩ = some (.int .i64 xa) ∧ w'.cell? ⟨g, off + 1, none⟩ = some (.int .i64 1)) (by kernel_rfl) (⟨d0, d1⟩) (fun hHeld => ?_)
        refine tkB 0 (.bool true) [(4, .bool true)] rfl (by rintro ρ ⟨e4, ec⟩ w hSw; obtain ⟨s0, s1⟩ := hSw; go_simp) hHeld ?_
        refine tkB 1 (.bool true) [(40, .bool true)] rfl (by rintro ρ ⟨e40, ec⟩ w hSw; obtain ⟨s0, s1⟩ := hSw; go_simp) hHeld ?_
        refine tkB 2 (.slice (some ⟨g, off, none⟩) L.length cap) [(0, .slice (some ⟨g, off, none⟩) L.length cap)] rfl (by rintro ρ ⟨e0, ec⟩ w hSw; obtain ⟨s0, s1⟩ := hSw; go_simp) hHeld ?_
        refine tkB 3 (.int .i64 0) [(3, .int .i64 0)] rfl (by rintro ρ ⟨e3, ec⟩ w hSw; obtain ⟨s0, s1⟩ := hSw; go_simp) hHeld ?_
        refine tkB 4 (.pointer (some ⟨g, off, none⟩)) [(42, .slice (some ⟨g, off, none⟩) L.length cap), (43, .int .i64 0)] rfl (by rintro ρ ⟨e42, e43, ec⟩ w hSw; obtain ⟨s0, s1⟩ := hSw; go_simp) hHeld ?_
        refine tkB 5 (.pointer (some ⟨g, off + 1, none⟩)) [(44, .pointer (some ⟨g, off, none⟩))] rfl (by rintro ρ ⟨e44, ec⟩ w hSw; obtain ⟨s0, s1⟩ := hSw; go_simp) hHeld ?_
        refine tkB 6 (.int .i64 1) [(45, .pointer (some ⟨g, off + 1, none⟩))] rfl (by rintro ρ ⟨e45, ec⟩ w hSw; obtain ⟨s0, s1⟩ := hSw; go_simp) hHeld ?_
        refine tkB 7 (.bool false) [(46, .int .i64 1)] rfl (by rintro ρ ⟨e46, ec⟩ w hSw; obtain ⟨s0, s1⟩ := hSw; have k0 := ec (Value.int IntKind.i64 1); go_simp) hHeld ?_
        refine tkB 8 (.bool false) [(47, .bool false)] rfl (by rintro ρ ⟨e47, ec⟩ w hSw; obtain ⟨s0, s1⟩ := hSw; go_simp) hHeld ?_
        refine tkB 9 (.int .i64 0) [(3, .int .i64 0)] rfl (by rintro ρ ⟨e3, ec⟩ w hSw; obtain ⟨s0, s1⟩ := hSw; go_simp) hHeld ?_
        refine tkB 10 (.bool false) [(49, .int .i64 0)] rfl (by rintro ρ ⟨e49, ec⟩ w hSw; obtain ⟨s0, s1⟩ := hSw; have k0 := ec (Value.int IntKind.i64 0); go_simp) hHeld ?_
        refine tkB 11 (.bool false) [(50, .bool false)] rfl (by rintro ρ ⟨e50, ec⟩ w hSw; obtain ⟨s0, s1⟩ := hSw; go_simp) hHeld ?_
        refine tkN 12 rfl hHeld ?_
        refine tkN 13 rfl hHeld ?_
        refine tkN 14 rfl hHeld ?_
        refine tkN 15 rfl hHeld ?_
        refine tkN 16 rfl hHeld ?_
        refine tkN 17 rfl hHeld ?_
        refine tkN 18 rfl hHeld ?_
        refine tkN 19 rfl hHeld ?_
        refine tkN 20 rfl hHeld ?_
        refine tkN 21 rfl hHeld ?_
        refine tkN 22 rfl hHeld ?_
        refine tkN 23 rfl hHeld ?_
        refine tkB 24 (.bool false) [(51, .bool false), (63, undef)] rfl (by rintro ρ ⟨e51, e63, ec⟩ w hSw; obtain ⟨s0, s1⟩ := hSw; have k0 := ec (Value.bool false); go_simp) hHeld ?_
        refine tkB 25 (.bool false) [(48, .bool false), (64, .bool false)] rfl (by rintro ρ ⟨e48, e64, ec⟩ w hSw; obtain ⟨s0, s1⟩ := hSw; have k0 := ec (Value.bool true); go_simp) hHeld ?_
        refine tkB 26 (.bool false) [(41, .bool true), (65, .bool false)] rfl (by rintro ρ ⟨e41, e65, ec⟩ w hSw; obtain ⟨s0, s1⟩ := hSw; have k0 := ec (Value.bool false); go_simp) hHeld ?_
        refine tkB 27 (.bool false) [(66, .bool false)] rfl (by rintro ρ ⟨e66, ec⟩ w hSw; obtain ⟨s0, s1⟩ := hSw; go_simp) hHeld ?_
        refine tkB 28 (.bool true) [(4, .bool true)] rfl (by rintro ρ ⟨e4, ec⟩ w hSw; obtain ⟨s0, s1⟩ := hSw; go_simp) hHeld ?_
        refine tkB 29 (.bool false) [(68, .bool true)] rfl (by rintro ρ ⟨e68, ec⟩ w hSw; obtain ⟨s0, s1⟩ := hSw; go_simp) hHeld ?_
        refine tkB 30 (.bool false) [(69, .bool false)] rfl (by rintro ρ ⟨e69, ec⟩ w hSw; obtain ⟨s0, s1⟩ := hSw; go_simp) hHeld ?_
        refine tkN 31 rfl hHeld ?_
        refine tkN 32 rfl hHeld ?_
        refine tkN 33 rfl hHeld ?_
        refine tkN 34 rfl hHeld ?_
        refine tkN 35 rfl hHeld ?_
        refine tkN 36 rfl hHeld ?_
        refine tkN 37 rfl hHeld ?_
        refine tkN 38 rfl hHeld ?_
        refine tkN 39 rfl hHeld ?_
        refine tkN 40 rfl hHeld ?_
        refine tkN 41 rfl hHeld ?_
        refine tkN 42 rfl hHeld ?_
        refine tkN 43 rfl hHeld ?_
        refine tkB 44 (.bool false) [(70, .bool false), (83, undef)] rfl (by rintro ρ ⟨e70, e83, ec⟩ w hSw; obtain ⟨s0, s1⟩ := hSw; have k0 := ec (Value.bool false); go_simp) hHeld ?_
        refine tkB 45 (.bool false) [(67, .bool false), (84, .bool false)] rfl (by rintro ρ ⟨e67, e84, ec⟩ w hSw; obtain ⟨s0, s1⟩ := hSw; have k0 := ec (Value.bool true); go_simp) hHeld ?_
        refine wpAnyH_done (by kernel_rfl) ?_ _
        refine actN ⟨#[.slice (some ⟨g, off, none⟩) L.length cap, undef, u2, .int .i64 0, .bool true, undef, undef, undef, undef, .slice (some ⟨g, off, none⟩) L.length cap, .int .i64 ((L.length : Int)), .bool false, .int .i64 0, .slice (some ⟨g, off, none⟩) L.length cap, .int .i64 ((L.length : Int)), .bool true, u16, u17, .slice (some ⟨g, off, none⟩) L.length cap, .int .i64 0, .pointer (some ⟨g, off, none⟩), .agg #[.int .i64 xa, .int .i64 1, .int .i64 xt, xdv, .int .i64 xk, .int .i64 xo, .int .i64 xn, .int .i64 xu, .int .i64 xpt, .int .i64 xpa, .string xky, .string xtx], .bool true, .bool false, .int .i64 0, .bool true, .bool true, undef, undef, undef, undef, undef, undef, undef, undef, undef, undef, undef, undef, .bool true, .bool true, .bool true, .slice (some ⟨g, off, none⟩) L.length cap, .int .i64 0, .pointer (some ⟨g, off, none⟩), .pointer (some ⟨g, off + 1, none⟩), .int .i64 1, .bool false, .bool false, .int .i64 0, .bool false, .bool false, undef, undef, undef, undef, undef, undef, undef, undef, undef, undef, undef, undef, .bool false, .bool false, .bool false, .bool false, .bool true, .bool false, .bool false, undef, undef, undef, undef, undef, undef, undef, undef, undef, undef, undef, undef, undef, .bool false, .bool false, undef, undef, undef, undef, undef, undef, undef, undef, undef, undef, undef, undef, undef, undef, undef, undef, undef, undef, undef, undef, undef, undef, undef, undef, undef, undef, undef, undef, undef, undef, undef, undef, undef, undef, undef, undef, undef, undef, undef, undef, undef, undef, undef, undef, undef, undef, undef, undef, undef, undef, undef, undef], []⟩ ?_
        go_wp2_with fail
        go_roundw
        case rel => exact ⟨0 + 1, by have := HIF.out; omega, by go_num, (hBw.trans (hb.mono hBw.size)).drew.drew⟩
        case measure => simp [intOf]; omega
      · have hsj := seq_bound (HGD.out j (by have := HIF.out; omega))
        rcases hcase with ⟨hxy, hs⟩ | ⟨hxy, hs⟩
        · have HIJ : Hid (i = j + 1) := hij
          have hy := (hcs j (by omega)).below (hBw.mono hC) hg
          have b0 := hy.c0
          have b1 := hy.c1
          clear hy hcs hxd hij
          generalize ovAt L i = x at *
          generalize ovAt L j = y at *
          obtain ⟨xa, xs, xt, xdv, xk, xo, xn, xu, xpt, xpa, xky, xtx, xds⟩ := x
          obtain ⟨ya, ys, yt, ydv, yk, yo, yn, yu, ypt, ypa, yky, ytx, yds⟩ := y
          simp only at c0 c1 c2 c3 c4 c5 c6 c7 c8 c9 c10 c11 hOK b0 b1 hxy hs hsj
          have a0 := c0
          have a1 := c1
          have HW : Hid (IntKind.i64.wrap (ys + 1) = ys + 1) := by unfold Hid; rw [IntKind.wrap_i64]; omega
          subst hxy
          subst hs
          clear hok hsj
          go_wp2_with ((go_at_call 32; refine hOK.mono ?_; clear c0 c1 c2 c3 c4 c5 c6 c7 c8 c9 c10 c11; rintro e w1 ⟨rfl, hb⟩; have d0 := (hb.cell (p := ⟨g, off + i * 12, none⟩) hgw).trans a0; have d1 := (hb.cell (p := ⟨g, off + i * 12 + 1, none⟩) hgw).trans a1; have e0 := (hb.cell (p := ⟨g, off + j * 12, none⟩) hgw).trans b0; have e1 := (hb.cell (p := ⟨g, off + j * 12 + 1, none⟩) hgw).trans b1))
          have hij := HIJ.out
          have hj0 : ((i : Int) == 0) = false := by simp; omega
          have hj1 : (0 : Int) < (i : Int) := by omega
          have hj2 : 0 < i := by omega
          have hj3 : (i : Int) - 1 = (j : Int) := by omega
          have hw6 : IntKind.i64.wrap (j : Int) = (j : Int) := by rw [IntKind.wrap_i64]; omega
          have hjl : (j : Int) < (L.length : Int) := by omega
          clear hij
          have hw7 : IntKind.i64.wrap (ys + 1) = ys + 1 := HW.out
          refine wp_region_held_drew (S := fun w' => w'.cell? ⟨g, off + i * 12, none⟩ = some (.int .i64 xa) ∧ w'.cell? ⟨g, off + i * 12 + 1, none⟩ = some (.int .i64 (ys + 1)) ∧ w'.cell? ⟨g, off + j * 12, none⟩ = some (.int .i64 xa) ∧ w'.cell? ⟨g, off + j * 12 + 1, none⟩ = some (.int .i64 ys)) (by kernel_rfl) (⟨d0, d1, e0, e1⟩) (fun hHeld => ?_)
          refine tkB 0 (.int .i64 ((i : Int))) [(3, .int .i64 ((i : Int)))] rfl (by rintro ρ ⟨e3, ec⟩ w hSw; obtain ⟨s0, s1, s2, s3⟩ := hSw; go_simp) hHeld ?_
          refine tkB 1 (.bool false) [(24, .int .i64 ((i : Int)))] rfl (by rintro ρ ⟨e24, ec⟩ w hSw; obtain ⟨s0, s1, s2, s3⟩ := hSw; have k0 := ec (Value.int IntKind.i64 0); go_simp) hHeld ?_
          refine tkB 2 (.bool false) [(25, .bool false)] rfl (by rintro ρ ⟨e25, ec⟩ w hSw; obtain ⟨s0, s1, s2, s3⟩ := hSw; go_simp) hHeld ?_
          refine tkB 3 (.slice (some ⟨g, off, none⟩) L.length cap) [(0, .slice (some ⟨g, off, none⟩) L.length cap)] rfl (by rintro ρ ⟨e0, ec⟩ w hSw; obtain ⟨s0, s1, s2, s3⟩ := hSw; go_simp) hHeld ?_
          refine tkB 4 (.int .i64 ((i : Int))) [(3, .int .i64 ((i : Int)))] rfl (by rintro ρ ⟨e3, ec⟩ w hSw; obtain ⟨s0, s1, s2, s3⟩ := hSw; go_simp) hHeld ?_
          refine tkB 5 (.pointer (some ⟨g, off + i * 12, none⟩)) [(27, .slice (some ⟨g, off, none⟩) L.length cap), (28, .int .i64 ((i : Int)))] rfl (by rintro ρ ⟨e27, e28, ec⟩ w hSw; obtain ⟨s0, s1, s2, s3⟩ := hSw; go_simp) hHeld ?_
          refine tkB 6 (.pointer (some ⟨g, off + i * 12, none⟩)) [(29, .pointer (some ⟨g, off + i * 12, none⟩))] rfl (by rintro ρ ⟨e29, ec⟩ w hSw; obtain ⟨s0, s1, s2, s3⟩ := hSw; go_simp) hHeld ?_
          refine tkB 7 (.int .i64 xa) [(30, .pointer (some ⟨g, off + i * 12, none⟩))] rfl (by rintro ρ ⟨e30, ec⟩ w hSw; obtain ⟨s0, s1, s2, s3⟩ := hSw; go_simp) hHeld ?_
          refine tkB 8 (.slice (some ⟨g, off, none⟩) L.length cap) [(0, .slice (some ⟨g, off, none⟩) L.length cap)] rfl (by rintro ρ ⟨e0, ec⟩ w hSw; obtain ⟨s0, s1, s2, s3⟩ := hSw; go_simp) hHeld ?_
          refine tkB 9 (.int .i64 ((i : Int))) [(3, .int .i64 ((i : Int)))] rfl (by rintro ρ ⟨e3, ec⟩ w hSw; obtain ⟨s0, s1, s2, s3⟩ := hSw; go_simp) hHeld ?_
          refine tkB 10 (.int .i64 ((j : Int))) [(33, .int .i64 ((i : Int)))] rfl (by rintro ρ ⟨e33, ec⟩ w hSw; obtain ⟨s0, s1, s2, s3⟩ := hSw; have k0 := ec (Value.int IntKind.i64 1); go_simp) hHeld ?_
          refine tkB 11 (.pointer (some ⟨g, off + j * 12, none⟩)) [(32, .slice (some ⟨g, off, none⟩) L.length cap), (34, .int .i64 ((j : Int)))] rfl (by rintro ρ ⟨e32, e34, ec⟩ w hSw; obtain ⟨s0, s1, s2, s3⟩ := hSw; go_simp) hHeld ?_
          refine tkB 12 (.pointer (some ⟨g, off + j * 12, none⟩)) [(35, .pointer (some ⟨g, off + j * 12, none⟩))] rfl (by rintro ρ ⟨e35, ec⟩ w hSw; obtain ⟨s0, s1, s2, s3⟩ := hSw; go_simp) hHeld ?_
          refine tkB 13 (.int .i64 xa) [(36, .pointer (some ⟨g, off + j * 12, none⟩))] rfl (by rintro ρ ⟨e36, ec⟩ w hSw; obtain ⟨s0, s1, s2, s3⟩ := hSw; go_simp) hHeld ?_
          refine tkB 14 (.bool false) [(31, .int .i64 xa), (37, .int .i64 xa)] rfl (by rintro ρ ⟨e31, e37, ec⟩ w hSw; obtain ⟨s0, s1, s2, s3⟩ := hSw; go_simp) hHeld ?_
          refine tkB 15 (.bool false) [(26, .bool false), (38, .bool false)] rfl (by rintro ρ ⟨e26, e38, ec⟩ w hSw; obtain ⟨s0, s1, s2, s3⟩ := hSw; have k0 := ec (Value.bool true); go_simp) hHeld ?_
          refine tkB 16 (.bool false) [(39, .bool false)] rfl (by rintro ρ ⟨e39, ec⟩ w hSw; obtain ⟨s0, s1, s2, s3⟩ := hSw; go_simp) hHeld ?_
          refine wpAnyH_done (by kernel_rfl) ?_ _
          refine actN ⟨#[.slice (some ⟨g, off, none⟩) L.length cap, undef, u2, .int .i64 ((i : Int)), .bool false, undef, undef, undef, undef, .slice (some ⟨g, off, none⟩) L.length cap, .int .i64 ((L.length : Int)), .bool false, .int .i64 ((i : Int)), .slice (some ⟨g, off, none⟩) L.length cap, .int .i64 ((L.length : Int)), .bool true, u16, u17, .slice (some ⟨g, off, none⟩) L.length cap, .int .i64 ((i : Int)), .pointer (some ⟨g, off + i * 12, none⟩), .agg #[.int .i64 xa, .int .i64 (ys + 1), .int .i64 xt, xdv, .int .i64 xk, .int .i64 xo, .int .i64 xn, .int .i64 xu, .int .i64 xpt, .int .i64 xpa, .string xky, .string xtx], .bool true, .bool false, .int .i64 ((i : Int)), .bool false, .bool false, .slice (some ⟨g, off, none⟩) L.length cap, .int .i64 ((i : Int)), .pointer (some ⟨g, off + i * 12, none⟩), .pointer (some ⟨g, off + i * 12, none⟩), .int .i64 xa, .slice (some ⟨g, off, none⟩) L.length cap, .int .i64 ((i : Int)), .int .i64 ((j : Int)), .pointer (some ⟨g, off + j * 12, none⟩), .pointer (some ⟨g, off + j * 12, none⟩), .int .i64 xa, .bool false, .bool false, u40, u41, u42, u43, u44, u45, u46, u47, u48, u49, u50, u51, u52, u53, u54, u55, u56, u57, u58, u59, u60, u61, u62, u63, u64, u65, u66, u67, u68, u69, u70, u71, u72, u73, u74, u75, u76, u77, u78, u79, u80, u81, u82, u83, u84, u85, undef, undef, undef, undef, undef, undef, undef, undef, undef, undef, undef, undef, undef, undef, undef, undef, undef, undef, undef, undef, undef, undef, undef, undef, undef, undef, undef, undef, undef, undef, undef, undef, undef, undef, undef, undef, undef, undef, undef, undef, undef, undef, undef, undef, undef, undef, undef, undef, undef, undef, undef, undef], []⟩ ?_
          clear hj0 hj1 hj2 hj3 hw6 hjl hw7
          go_wp2_with fail
          have hij := HIJ.out
          have hj0 : ((i : Int) == 0) = false := by simp; omega
          have hj1 : (0 : Int) < (i : Int) := by omega
          have hj2 : 0 < i := by omega
          have hj3 : (i : Int) - 1 = (j : Int) := by omega
          have hw6 : IntKind.i64.wrap (j : Int) = (j : Int) := by rw [IntKind.wrap_i64]; omega
          have hjl : (j : Int) < (L.length : Int) := by omega
          clear hij
          have hw7 : IntKind.i64.wrap (ys + 1) = ys + 1 := HW.out
          refine wp_region_held_drew (S := fun w' => w'.cell? ⟨g, off + i * 12, none⟩ = some (.int .i64 xa) ∧ w'.cell? ⟨g, off + i * 12 + 1, none⟩ = some (.int .i64 (ys + 1)) ∧ w'.cell? ⟨g, off + j * 12, none⟩ = some (.int .i64 xa) ∧ w'.cell? ⟨g, off + j * 12 + 1, none⟩ = some (.int .i64 ys)) (by kernel_rfl) (⟨d0, d1, e0, e1⟩) (fun hHeld => ?_)
          refine tkB 0 (.bool false) [(4, .bool false)] rfl (by rintro ρ ⟨e4, ec⟩ w hSw; obtain ⟨s0, s1, s2, s3⟩ := hSw; go_simp) hHeld ?_
          refine tkB 1 (.bool false) [(40, .bool false)] rfl (by rintro ρ ⟨e40, ec⟩ w hSw; obtain ⟨s0, s1, s2, s3⟩ := hSw; go_simp) hHeld ?_
          refine tkN 2 rfl hHeld ?_
          refine tkN 3 rfl hHeld ?_
          refine tkN 4 rfl hHeld ?_
          refine tkN 5 rfl hHeld ?_
          refine tkN 6 rfl hHeld ?_
          refine tkN 7 rfl hHeld ?_
          refine tkN 8 rfl hHeld ?_
          refine tkN 9 rfl hHeld ?_
          refine tkN 10 rfl hHeld ?_
          refine tkN 11 rfl hHeld ?_
          refine tkN 12 rfl hHeld ?_
          refine tkN 13 rfl hHeld ?_
          refine tkN 14 rfl hHeld ?_
          refine tkN 15 rfl hHeld ?_
          refine tkN 16 rfl hHeld ?_
          refine tkN 17 rfl hHeld ?_
          refine tkN 18 rfl hHeld ?_
          refine tkN 19 rfl hHeld ?_
          refine tkN 20 rfl hHeld ?_
          refine tkN 21 rfl hHeld ?_
          refine tkN 22 rfl hHeld ?_
          refine tkN 23 rfl hHeld ?_
          refine tkN 24 rfl hHeld ?_
          refine tkN 25 rfl hHeld ?_
          refine tkB 26 (.bool false) [(41, .bool false), (65, undef)] rfl (by rintro ρ ⟨e41, e65, ec⟩ w hSw; obtain ⟨s0, s1, s2, s3⟩ := hSw; have k0 := ec (Value.bool false); go_simp) hHeld ?_
          refine tkB 27 (.bool false) [(66, .bool false)] rfl (by rintro ρ ⟨e66, ec⟩ w hSw; obtain ⟨s0, s1, s2, s3⟩ := hSw; go_simp) hHeld ?_
          refine tkB 28 (.bool false) [(4, .bool false)] rfl (by rintro ρ ⟨e4, ec⟩ w hSw; obtain ⟨s0, s1, s2, s3⟩ := hSw; go_simp) hHeld ?_
          refine tkB 29 (.bool true) [(68, .bool false)] rfl (by rintro ρ ⟨e68, ec⟩ w hSw; obtain ⟨s0, s1, s2, s3⟩ := hSw; go_simp) hHeld ?_
          refine tkB 30 (.bool true) [(69, .bool true)] rfl (by rintro ρ ⟨e69, ec⟩ w hSw; obtain ⟨s0, s1, s2, s3⟩ := hSw; go_simp) hHeld ?_
          refine tkB 31 (.slice (some ⟨g, off, none⟩) L.length cap) [(0, .slice (some ⟨g, off, none⟩) L.length cap)] rfl (by rintro ρ ⟨e0, ec⟩ w hSw; obtain ⟨s0, s1, s2, s3⟩ := hSw; go_simp) hHeld ?_
          refine tkB 32 (.int .i64 ((i : Int))) [(3, .int .i64 ((i : Int)))] rfl (by rintro ρ ⟨e3, ec⟩ w hSw; obtain ⟨s0, s1, s2, s3⟩ := hSw; go_simp) hHeld ?_
          refine tkB 33 (.pointer (some ⟨g, off + i * 12, none⟩)) [(71, .slice (some ⟨g, off, none⟩) L.length cap), (72, .int .i64 ((i : Int)))] rfl (by rintro ρ ⟨e71, e72, ec⟩ w hSw; obtain ⟨s0, s1, s2, s3⟩ := hSw; go_simp) hHeld ?_
          refine tkB 34 (.pointer (some ⟨g, off + i * 12 + 1, none⟩)) [(73, .pointer (some ⟨g, off + i * 12, none⟩))] rfl (by rintro ρ ⟨e73, ec⟩ w hSw; obtain ⟨s0, s1, s2, s3⟩ := hSw; go_simp) hHeld ?_
          refine tkB 35 (.int .i64 (ys + 1)) [(74, .pointer (some ⟨g, off + i * 12 + 1, none⟩))] rfl (by rintro ρ ⟨e74, ec⟩ w hSw; obtain ⟨s0, s1, s2, s3⟩ := hSw; go_simp) hHeld ?_
          refine tkB 36 (.slice (some ⟨g, off, none⟩) L.length cap) [(0, .slice (some ⟨g, off, none⟩) L.length cap)] rfl (by rintro ρ ⟨e0, ec⟩ w hSw; obtain ⟨s0, s1, s2, s3⟩ := hSw; go_simp) hHeld ?_
          refine tkB 37 (.int .i64 ((i : Int))) [(3, .int .i64 ((i : Int)))] rfl (by rintro ρ ⟨e3, ec⟩ w hSw; obtain ⟨s0, s1, s2, s3⟩ := hSw; go_simp) hHeld ?_
          refine tkB 38 (.int .i64 ((j : Int))) [(77, .int .i64 ((i : Int)))] rfl (by rintro ρ ⟨e77, ec⟩ w hSw; obtain ⟨s0, s1, s2, s3⟩ := hSw; have k0 := ec (Value.int IntKind.i64 1); go_simp) hHeld ?_
          refine tkB 39 (.pointer (some ⟨g, off + j * 12, none⟩)) [(76, .slice (some ⟨g, off, none⟩) L.length cap), (78, .int .i64 ((j : Int)))] rfl (by rintro ρ ⟨e76, e78, ec⟩ w hSw; obtain ⟨s0, s1, s2, s3⟩ := hSw; go_simp) hHeld ?_
          refine tkB 40 (.pointer (some ⟨g, off + j * 12 + 1, none⟩)) [(79, .pointer (some ⟨g, off + j * 12, none⟩))] rfl (by rintro ρ ⟨e79, ec⟩ w hSw; obtain ⟨s0, s1, s2, s3⟩ := hSw; go_simp) hHeld ?_
          refine tkB 41 (.int .i64 ys) [(80, .pointer (some ⟨g, off + j * 12 + 1, none⟩))] rfl (by rintro ρ ⟨e80, ec⟩ w hSw; obtain ⟨s0, s1, s2, s3⟩ := hSw; go_simp) hHeld ?_
          refine tkB 42 (.int .i64 (ys + 1)) [(81, .int .i64 ys)] rfl (by rintro ρ ⟨e81, ec⟩ w hSw; obtain ⟨s0, s1, s2, s3⟩ := hSw; have k0 := ec (Value.int IntKind.i64 1); go_simp) hHeld ?_
          refine tkB 43 (.bool false) [(75, .int .i64 (ys + 1)), (82, .int .i64 (ys + 1))] rfl (by rintro ρ ⟨e75, e82, ec⟩ w hSw; obtain ⟨s0, s1, s2, s3⟩ := hSw; go_simp) hHeld ?_
          refine tkB 44 (.bool false) [(70, .bool true), (83, .bool false)] rfl (by rintro ρ ⟨e70, e83, ec⟩ w hSw; obtain ⟨s0, s1, s2, s3⟩ := hSw; have k0 := ec (Value.bool false); go_simp) hHeld ?_
          refine tkB 45 (.bool false) [(67, .bool false), (84, .bool false)] rfl (by rintro ρ ⟨e67, e84, ec⟩ w hSw; obtain ⟨s0, s1, s2, s3⟩ := hSw; have k0 := ec (Value.bool true); go_simp) hHeld ?_
          refine wpAnyH_done (by kernel_rfl) ?_ _
          refine actN ⟨#[.slice (some ⟨g, off, none⟩) L.length cap, undef, u2, .int .i64 ((i : Int)), .bool false, undef, undef, undef, undef, .slice (some ⟨g, off, none⟩) L.length cap, .int .i64 ((L.length : Int)), .bool false, .int .i64 ((i : Int)), .slice (some ⟨g, off, none⟩) L.length cap, .int .i64 ((L.length : Int)), .bool true, u16, u17, .slice (some ⟨g, off, none⟩) L.length cap, .int .i64 ((i : Int)), .pointer (some ⟨g, off + i * 12, none⟩), .agg #[.int .i64 xa, .int .i64 (ys + 1), .int .i64 xt, xdv, .int .i64 xk, .int .i64 xo, .int .i64 xn, .int .i64 xu, .int .i64 xpt, .int .i64 xpa, .string xky, .string xtx], .bool true, .bool false, .int .i64 ((i : Int)), .bool false, .bool false, .slice (some ⟨g, off, none⟩) L.length cap, .int .i64 ((i : Int)), .pointer (some ⟨g, off + i * 12, none⟩), .pointer (some ⟨g, off + i * 12, none⟩), .int .i64 xa, .slice (some ⟨g, off, none⟩) L.length cap, .int .i64 ((i : Int)), .int .i64 ((j : Int)), .pointer (some ⟨g, off + j * 12, none⟩), .pointer (some ⟨g, off + j * 12, none⟩), .int .i64 xa, .bool false, .bool false, .bool false, .bool false, undef, undef, undef, undef, undef, undef, undef, undef, undef, undef, undef, undef, undef, undef, undef, undef, undef, undef, undef, undef, undef, undef, undef, undef, .bool false, .bool false, .bool false, .bool true, .bool true, .slice (some ⟨g, off, none⟩) L.length cap, .int .i64 ((i : Int)), .pointer (some ⟨g, off + i * 12, none⟩), .pointer (some ⟨g, off + i * 12 + 1, none⟩), .int .i64 (ys + 1), .slice (some ⟨g, off, none⟩) L.length cap, .int .i64 ((i : Int)), .int .i64 ((j : Int)), .pointer (some ⟨g, off + j * 12, none⟩), .pointer (some ⟨g, off + j * 12 + 1, none⟩), .int .i64 ys, .int .i64 (ys + 1), .bool false, .bool false, .bool false, undef, undef, undef, undef, undef, undef, undef, undef, undef, undef, undef, undef, undef, undef, undef, undef, undef, undef, undef, undef, undef, undef, undef, undef, undef, undef, undef, undef, undef, undef, undef, undef, undef, undef, undef, undef, undef, undef, undef, undef, undef, undef, undef, undef, undef, undef, undef, undef, undef, undef, undef, undef], []⟩ ?_
          clear hj0 hj1 hj2 hj3 hw6 hjl hw7
          go_wp2_with fail
          go_roundw
          case rel => exact ⟨i + 1, by have := HIF.out; omega, by go_num, (hBw.trans (hb.mono hBw.size)).drew.drew⟩
          case measure => simp [intOf]; omega
        · have HIJ : Hid (i = j + 1) := hij
          have hy := (hcs j (by omega)).below (hBw.mono hC) hg
          have b0 := hy.c0
          have b1 := hy.c1
          clear hy hcs hxd hij
          generalize ovAt L i = x at *
          generalize ovAt L j = y at *
          obtain ⟨xa, xs, xt, xdv, xk, xo, xn, xu, xpt, xpa, xky, xtx, xds⟩ := x
          obtain ⟨ya, ys, yt, ydv, yk, yo, yn, yu, ypt, ypa, yky, ytx, yds⟩ := y
          simp only at c0 c1 c2 c3 c4 c5 c6 c7 c8 c9 c10 c11 hOK b0 b1 hxy hs hsj
          have a0 := c0
          have a1 := c1
          have HW : Hid (IntKind.i64.wrap (ys + 1) = ys + 1) := by unfold Hid; rw [IntKind.wrap_i64]; omega
          subst hs
          have HNE : Hid (¬ xa = ya) := by unfold Hid; omega
          have HNL : Hid (¬ xa < ya) := by unfold Hid; omega
          clear hok hsj hxy
          go_wp2_with ((go_at_call 32; refine hOK.mono ?_; clear c0 c1 c2 c3 c4 c5 c6 c7 c8 c9 c10 c11; rintro e w1 ⟨rfl, hb⟩; have d0 := (hb.cell (p := ⟨g, off + i * 12, none⟩) hgw).trans a0; have d1 := (hb.cell (p := ⟨g, off + i * 12 + 1, none⟩) hgw).trans a1; have e0 := (hb.cell (p := ⟨g, off + j * 12, none⟩) hgw).trans b0; have e1 := (hb.cell (p := ⟨g, off + j * 12 + 1, none⟩) hgw).trans b1))
          have hij := HIJ.out
          have hj0 : ((i : Int) == 0) = false := by simp; omega
          have hj1 : (0 : Int) < (i : Int) := by omega
          have hj2 : 0 < i := by omega
          have hj3 : (i : Int) - 1 = (j : Int) := by omega
          have hw6 : IntKind.i64.wrap (j : Int) = (j : Int) := by rw [IntKind.wrap_i64]; omega
          have hjl : (j : Int) < (L.length : Int) := by omega
          clear hij
          have hne := HNE.out
          have hnl := HNL.out
          refine wp_region_held_drew (S := fun w' => w'.cell? ⟨g, off + i * 12, none⟩ = some (.int .i64 xa) ∧ w'.cell? ⟨g, off + i * 12 + 1, none⟩ = some (.int .i64 1) ∧ w'.cell? ⟨g, off + j * 12, none⟩ = some (.int .i64 ya) ∧ w'.cell? ⟨g, off + j * 12 + 1, none⟩ = some (.int .i64 ys)) (by kernel_rfl) (⟨d0, d1, e0, e1⟩) (fun hHeld => ?_)
          refine tkB 0 (.int .i64 ((i : Int))) [(3, .int .i64 ((i : Int)))] rfl (by rintro ρ ⟨e3, ec⟩ w hSw; obtain ⟨s0, s1, s2, s3⟩ := hSw; go_simp) hHeld ?_
          refine tkB 1 (.bool false) [(24, .int .i64 ((i : Int)))] rfl (by rintro ρ ⟨e24, ec⟩ w hSw; obtain ⟨s0, s1, s2, s3⟩ := hSw; have k0 := ec (Value.int IntKind.i64 0); go_simp) hHeld ?_
          refine tkB 2 (.bool false) [(25, .bool false)] rfl (by rintro ρ ⟨e25, ec⟩ w hSw; obtain ⟨s0, s1, s2, s3⟩ := hSw; go_simp) hHeld ?_
          refine tkB 3 (.slice (some ⟨g, off, none⟩) L.length cap) [(0, .slice (some ⟨g, off, none⟩) L.length cap)] rfl (by rintro ρ ⟨e0, ec⟩ w hSw; obtain ⟨s0, s1, s2, s3⟩ := hSw; go_simp) hHeld ?_
          refine tkB 4 (.int .i64 ((i : Int))) [(3, .int .i64 ((i : Int)))] rfl (by rintro ρ ⟨e3, ec⟩ w hSw; obtain ⟨s0, s1, s2, s3⟩ := hSw; go_simp) hHeld ?_
          refine tkB 5 (.pointer (some ⟨g, off + i * 12, none⟩)) [(27, .slice (some ⟨g, off, none⟩) L.length cap), (28, .int .i64 ((i : Int)))] rfl (by rintro ρ ⟨e27, e28, ec⟩ w hSw; obtain ⟨s0, s1, s2, s3⟩ := hSw; go_simp) hHeld ?_
          refine tkB 6 (.pointer (some ⟨g, off + i * 12, none⟩)) [(29, .pointer (some ⟨g, off + i * 12, none⟩))] rfl (by rintro ρ ⟨e29, ec⟩ w hSw; obtain ⟨s0, s1, s2, s3⟩ := hSw; go_simp) hHeld ?_
          refine tkB 7 (.int .i64 xa) [(30, .pointer (some ⟨g, off + i * 12, none⟩))] rfl (by rintro ρ ⟨e30, ec⟩ w hSw; obtain ⟨s0, s1, s2, s3⟩ := hSw; go_simp) hHeld ?_
          refine tkB 8 (.slice (some ⟨g, off, none⟩) L.length cap) [(0, .slice (some ⟨g, off, none⟩) L.length cap)] rfl (by rintro ρ ⟨e0, ec⟩ w hSw; obtain ⟨s0, s1, s2, s3⟩ := hSw; go_simp) hHeld ?_
          refine tkB 9 (.int .i64 ((i : Int))) [(3, .int .i64 ((i : Int)))] rfl (by rintro ρ ⟨e3, ec⟩ w hSw; obtain ⟨s0, s1, s2, s3⟩ := hSw; go_simp) hHeld ?_
          refine tkB 10 (.int .i64 ((j : Int))) [(33, .int .i64 ((i : Int)))] rfl (by rintro ρ ⟨e33, ec⟩ w hSw; obtain ⟨s0, s1, s2, s3⟩ := hSw; have k0 := ec (Value.int IntKind.i64 1); go_simp) hHeld ?_
          refine tkB 11 (.pointer (some ⟨g, off + j * 12, none⟩)) [(32, .slice (some ⟨g, off, none⟩) L.length cap), (34, .int .i64 ((j : Int)))] rfl (by rintro ρ ⟨e32, e34, ec⟩ w hSw; obtain ⟨s0, s1, s2, s3⟩ := hSw; go_simp) hHeld ?_
          refine tkB 12 (.pointer (some ⟨g, off + j * 12, none⟩)) [(35, .pointer (some ⟨g, off + j * 12, none⟩))] rfl (by rintro ρ ⟨e35, ec⟩ w hSw; obtain ⟨s0, s1, s2, s3⟩ := hSw; go_simp) hHeld ?_
          refine tkB 13 (.int .i64 ya) [(36, .pointer (some ⟨g, off + j * 12, none⟩))] rfl (by rintro ρ ⟨e36, ec⟩ w hSw; obtain ⟨s0, s1, s2, s3⟩ := hSw; go_simp) hHeld ?_
          refine tkB 14 (.bool true) [(31, .int .i64 xa), (37, .int .i64 ya)] rfl (by rintro ρ ⟨e31, e37, ec⟩ w hSw; obtain ⟨s0, s1, s2, s3⟩ := hSw; go_simp) hHeld ?_
          refine tkB 15 (.bool true) [(26, .bool false), (38, .bool true)] rfl (by rintro ρ ⟨e26, e38, ec⟩ w hSw; obtain ⟨s0, s1, s2, s3⟩ := hSw; have k0 := ec (Value.bool true); go_simp) hHeld ?_
          refine tkB 16 (.bool true) [(39, .bool true)] rfl (by rintro ρ ⟨e39, ec⟩ w hSw; obtain ⟨s0, s1, s2, s3⟩ := hSw; go_simp) hHeld ?_
          refine wpAnyH_done (by kernel_rfl) ?_ _
          refine actN ⟨#[.slice (some ⟨g, off, none⟩) L.length cap, undef, u2, .int .i64 ((i : Int)), .bool true, undef, undef, undef, undef, .slice (some ⟨g, off, none⟩) L.length cap, .int .i64 ((L.length : Int)), .bool false, .int .i64 ((i : Int)), .slice (some ⟨g, off, none⟩) L.length cap, .int .i64 ((L.length : Int)), .bool true, u16, u17, .slice (some ⟨g, off, none⟩) L.length cap, .int .i64 ((i : Int)), .pointer (some ⟨g, off + i * 12, none⟩), .agg #[.int .i64 xa, .int .i64 1, .int .i64 xt, xdv, .int .i64 xk, .int .i64 xo, .int .i64 xn, .int .i64 xu, .int .i64 xpt, .int .i64 xpa, .string xky, .string xtx], .bool true, .bool false, .int .i64 ((i : Int)), .bool false, .bool false, .slice (some ⟨g, off, none⟩) L.length cap, .int .i64 ((i : Int)), .pointer (some ⟨g, off + i * 12, none⟩), .pointer (some ⟨g, off + i * 12, none⟩), .int .i64 xa, .slice (some ⟨g, off, none⟩) L.length cap, .int .i64 ((i : Int)), .int .i64 ((j : Int)), .pointer (some ⟨g, off + j * 12, none⟩), .pointer (some ⟨g, off + j * 12, none⟩), .int .i64 ya, .bool true, .bool true, u40, u41, u42, u43, u44, u45, u46, u47, u48, u49, u50, u51, u52, u53, u54, u55, u56, u57, u58, u59, u60, u61, u62, u63, u64, u65, u66, u67, u68, u69, u70, u71, u72, u73, u74, u75, u76, u77, u78, u79, u80, u81, u82, u83, u84, u85, undef, undef, undef, undef, undef, undef, undef, undef, undef, undef, undef, undef, undef, undef, undef, undef, undef, undef, undef, undef, undef, undef, undef, undef, undef, undef, undef, undef, undef, undef, undef, undef, undef, undef, undef, undef, undef, undef, undef, undef, undef, undef, undef, undef, undef, undef, undef, undef, undef, undef, undef, undef], []⟩ ?_
          clear hj0 hj1 hj2 hj3 hw6 hjl hne hnl
          go_wp2_with fail
          have hij := HIJ.out
          have hj0 : ((i : Int) == 0) = false := by simp; omega
          have hj1 : (0 : Int) < (i : Int) := by omega
          have hj2 : 0 < i := by omega
          have hj3 : (i : Int) - 1 = (j : Int) := by omega
          have hw6 : IntKind.i64.wrap (j : Int) = (j : Int) := by rw [IntKind.wrap_i64]; omega
          have hjl : (j : Int) < (L.length : Int) := by omega
          clear hij
          have hne := HNE.out
          have hnl := HNL.out
          refine wp_region_held_drew (S := fun w' => w'.cell? ⟨g, off + i * 12, none⟩ = some (.int .i64 xa) ∧ w'.cell? ⟨g, off + i * 12 + 1, none⟩ = some (.int .i64 1) ∧ w'.cell? ⟨g, off + j * 12, none⟩ = some (.int .i64 ya) ∧ w'.cell? ⟨g, off + j * 12 + 1, none⟩ = some (.int .i64 ys)) (by kernel_rfl) (⟨d0, d1, e0, e1⟩) (fun hHeld => ?_)
          refine tkB 0 (.bool true) [(4, .bool true)] rfl (by rintro ρ ⟨e4, ec⟩ w hSw; obtain ⟨s0, s1, s2, s3⟩ := hSw; go_simp) hHeld ?_
          refine tkB 1 (.bool true) [(40, .bool true)] rfl (by rintro ρ ⟨e40, ec⟩ w hSw; obtain ⟨s0, s1, s2, s3⟩ := hSw; go_simp) hHeld ?_
          refine tkB 2 (.slice (some ⟨g, off, none⟩) L.length cap) [(0, .slice (some ⟨g, off, none⟩) L.length cap)] rfl (by rintro ρ ⟨e0, ec⟩ w hSw; obtain ⟨s0, s1, s2, s3⟩ := hSw; go_simp) hHeld ?_
          refine tkB 3 (.int .i64 ((i : Int))) [(3, .int .i64 ((i : Int)))] rfl (by rintro ρ ⟨e3, ec⟩ w hSw; obtain ⟨s0, s1, s2, s3⟩ := hSw; go_simp) hHeld ?_
          refine tkB 4 (.pointer (some ⟨g, off + i * 12, none⟩)) [(42, .slice (some ⟨g, off, none⟩) L.length cap), (43, .int .i64 ((i : Int)))] rfl (by rintro ρ ⟨e42, e43, ec⟩ w hSw; obtain ⟨s0, s1, s2, s3⟩ := hSw; go_simp) hHeld ?_
          refine tkB 5 (.pointer (some ⟨g, off + i * 12 + 1, none⟩)) [(44, .pointer (some ⟨g, off + i * 12, none⟩))] rfl (by rintro ρ ⟨e44, ec⟩ w hSw; obtain ⟨s0, s1, s2, s3⟩ := hSw; go_simp) hHeld ?_
          refine tkB 6 (.int .i64 1) [(45, .pointer (some ⟨g, off + i * 12 + 1, none⟩))] rfl (by rintro ρ ⟨e45, ec⟩ w hSw; obtain ⟨s0, s1, s2, s3⟩ := hSw; go_simp) hHeld ?_
          refine tkB 7 (.bool false) [(46, .int .i64 1)] rfl (by rintro ρ ⟨e46, ec⟩ w hSw; obtain ⟨s0, s1, s2, s3⟩ := hSw; have k0 := ec (Value.int IntKind.i64 1); go_simp) hHeld ?_
          refine tkB 8 (.bool false) [(47, .bool false)] rfl (by rintro ρ ⟨e47, ec⟩ w hSw; obtain ⟨s0, s1, s2, s3⟩ := hSw; go_simp) hHeld ?_
          refine tkB 9 (.int .i64 ((i : Int))) [(3, .int .i64 ((i : Int)))] rfl (by rintro ρ ⟨e3, ec⟩ w hSw; obtain ⟨s0, s1, s2, s3⟩ := hSw; go_simp) hHeld ?_
          refine tkB 10 (.bool true) [(49, .int .i64 ((i : Int)))] rfl (by rintro ρ ⟨e49, ec⟩ w hSw; obtain ⟨s0, s1, s2, s3⟩ := hSw; have k0 := ec (Value.int IntKind.i64 0); go_simp) hHeld ?_
          refine tkB 11 (.bool true) [(50, .bool true)] rfl (by rintro ρ ⟨e50, ec⟩ w hSw; obtain ⟨s0, s1, s2, s3⟩ := hSw; go_simp) hHeld ?_
          refine tkB 12 (.slice (some ⟨g, off, none⟩) L.length cap) [(0, .slice (some ⟨g, off, none⟩) L.length cap)] rfl (by rintro ρ ⟨e0, ec⟩ w hSw; obtain ⟨s0, s1, s2, s3⟩ := hSw; go_simp) hHeld ?_
          refine tkB 13 (.int .i64 ((i : Int))) [(3, .int .i64 ((i : Int)))] rfl (by rintro ρ ⟨e3, ec⟩ w hSw; obtain ⟨s0, s1, s2, s3⟩ := hSw; go_simp) hHeld ?_
          refine tkB 14 (.pointer (some ⟨g, off + i * 12, none⟩)) [(52, .slice (some ⟨g, off, none⟩) L.length cap), (53, .int .i64 ((i : Int)))] rfl (by rintro ρ ⟨e52, e53, ec⟩ w hSw; obtain ⟨s0, s1, s2, s3⟩ := hSw; go_simp) hHeld ?_
          refine tkB 15 (.pointer (some ⟨g, off + i * 12, none⟩)) [(54, .pointer (some ⟨g, off + i * 12, none⟩))] rfl (by rintro ρ ⟨e54, ec⟩ w hSw; obtain ⟨s0, s1, s2, s3⟩ := hSw; go_simp) hHeld ?_
          refine tkB 16 (.int .i64 xa) [(55, .pointer (some ⟨g, off + i * 12, none⟩))] rfl (by rintro ρ ⟨e55, ec⟩ w hSw; obtain ⟨s0, s1, s2, s3⟩ := hSw; go_simp) hHeld ?_
          refine tkB 17 (.slice (some ⟨g, off, none⟩) L.length cap) [(0, .slice (some ⟨g, off, none⟩) L.length cap)] rfl (by rintro ρ ⟨e0, ec⟩ w hSw; obtain ⟨s0, s1, s2, s3⟩ := hSw; go_simp) hHeld ?_
          refine tkB 18 (.int .i64 ((i : Int))) [(3, .int .i64 ((i : Int)))] rfl (by rintro ρ ⟨e3, ec⟩ w hSw; obtain ⟨s0, s1, s2, s3⟩ := hSw; go_simp) hHeld ?_
          refine tkB 19 (.int .i64 ((j : Int))) [(58, .int .i64 ((i : Int)))] rfl (by rintro ρ ⟨e58, ec⟩ w hSw; obtain ⟨s0, s1, s2, s3⟩ := hSw; have k0 := ec (Value.int IntKind.i64 1); go_simp) hHeld ?_
          refine tkB 20 (.pointer (some ⟨g, off + j * 12, none⟩)) [(57, .slice (some ⟨g, off, none⟩) L.length cap), (59, .int .i64 ((j : Int)))] rfl (by rintro ρ ⟨e57, e59, ec⟩ w hSw; obtain ⟨s0, s1, s2, s3⟩ := hSw; go_simp) hHeld ?_
          refine tkB 21 (.pointer (some ⟨g, off + j * 12, none⟩)) [(60, .pointer (some ⟨g, off + j * 12, none⟩))] rfl (by rintro ρ ⟨e60, ec⟩ w hSw; obtain ⟨s0, s1, s2, s3⟩ := hSw; go_simp) hHeld ?_
          refine tkB 22 (.int .i64 ya) [(61, .pointer (some ⟨g, off + j * 12, none⟩))] rfl (by rintro ρ ⟨e61, ec⟩ w hSw; obtain ⟨s0, s1, s2, s3⟩ := hSw; go_simp) hHeld ?_
          refine tkB 23 (.bool false) [(56, .int .i64 xa), (62, .int .i64 ya)] rfl (by rintro ρ ⟨e56, e62, ec⟩ w hSw; obtain ⟨s0, s1, s2, s3⟩ := hSw; go_simp) hHeld ?_
          refine tkB 24 (.bool false) [(51, .bool true), (63, .bool false)] rfl (by rintro ρ ⟨e51, e63, ec⟩ w hSw; obtain ⟨s0, s1, s2, s3⟩ := hSw; have k0 := ec (Value.bool false); go_simp) hHeld ?_
          refine tkB 25 (.bool false) [(48, .bool false), (64, .bool false)] rfl (by rintro ρ ⟨e48, e64, ec⟩ w hSw; obtain ⟨s0, s1, s2, s3⟩ := hSw; have k0 := ec (Value.bool true); go_simp) hHeld ?_
          refine tkB 26 (.bool false) [(41, .bool true), (65, .bool false)] rfl (by rintro ρ ⟨e41, e65, ec⟩ w hSw; obtain ⟨s0, s1, s2, s3⟩ := hSw; have k0 := ec (Value.bool false); go_simp) hHeld ?_
          refine tkB 27 (.bool false) [(66, .bool false)] rfl (by rintro ρ ⟨e66, ec⟩ w hSw; obtain ⟨s0, s1, s2, s3⟩ := hSw; go_simp) hHeld ?_
          refine tkB 28 (.bool true) [(4, .bool true)] rfl (by rintro ρ ⟨e4, ec⟩ w hSw; obtain ⟨s0, s1, s2, s3⟩ := hSw; go_simp) hHeld ?_
          refine tkB 29 (.bool false) [(68, .bool true)] rfl (by rintro ρ ⟨e68, ec⟩ w hSw; obtain ⟨s0, s1, s2, s3⟩ := hSw; go_simp) hHeld ?_
          refine tkB 30 (.bool false) [(69, .bool false)] rfl (by rintro ρ ⟨e69, ec⟩ w hSw; obtain ⟨s0, s1, s2, s3⟩ := hSw; go_simp) hHeld ?_
          refine tkN 31 rfl hHeld ?_
          refine tkN 32 rfl hHeld ?_
          refine tkN 33 rfl hHeld ?_
          refine tkN 34 rfl hHeld ?_
          refine tkN 35 rfl hHeld ?_
          refine tkN 36 rfl hHeld ?_
          refine tkN 37 rfl hHeld ?_
          refine tkN 38 rfl hHeld ?_
          refine tkN 39 rfl hHeld ?_
          refine tkN 40 rfl hHeld ?_
          refine tkN 41 rfl hHeld ?_
          refine tkN 42 rfl hHeld ?_
          refine tkN 43 rfl hHeld ?_
          refine tkB 44 (.bool false) [(70, .bool false), (83, undef)] rfl (by rintro ρ ⟨e70, e83, ec⟩ w hSw; obtain ⟨s0, s1, s2, s3⟩ := hSw; have k0 := ec (Value.bool false); go_simp) hHeld ?_
          refine tkB 45 (.bool false) [(67, .bool false), (84, .bool false)] rfl (by rintro ρ ⟨e67, e84, ec⟩ w hSw; obtain ⟨s0, s1, s2, s3⟩ := hSw; have k0 := ec (Value.bool true); go_simp) hHeld ?_
          refine wpAnyH_done (by kernel_rfl) ?_ _
          refine actN ⟨#[.slice (some ⟨g, off, none⟩) L.length cap, undef, u2, .int .i64 ((i : Int)), .bool true, undef, undef, undef, undef, .slice (some ⟨g, off, none⟩) L.length cap, .int .i64 ((L.length : Int)), .bool false, .int .i64 ((i : Int)), .slice (some ⟨g, off, none⟩) L.length cap, .int .i64 ((L.length : Int)), .bool true, u16, u17, .slice (some ⟨g, off, none⟩) L.length cap, .int .i64 ((i : Int)), .pointer (some ⟨g, off + i * 12, none⟩), .agg #[.int .i64 xa, .int .i64 1, .int .i64 xt, xdv, .int .i64 xk, .int .i64 xo, .int .i64 xn, .int .i64 xu, .int .i64 xpt, .int .i64 xpa, .string xky, .string xtx], .bool true, .bool false, .int .i64 ((i : Int)), .bool false, .bool false, .slice (some ⟨g, off, none⟩) L.length cap, .int .i64 ((i : Int)), .pointer (some ⟨g, off + i * 12, none⟩), .pointer (some ⟨g, off + i * 12, none⟩), .int .i64 xa, .slice (some ⟨g, off, none⟩) L.length cap, .int .i64 ((i : Int)), .int .i64 ((j : Int)), .pointer (some ⟨g, off + j * 12, none⟩), .pointer (some ⟨g, off + j * 12, none⟩), .int .i64 ya, .bool true, .bool true, .bool true, .bool true, .slice (some ⟨g, off, none⟩) L.length cap, .int .i64 ((i : Int)), .pointer (some ⟨g, off + i * 12, none⟩), .pointer (some ⟨g, off + i * 12 + 1, none⟩), .int .i64 1, .bool false, .bool false, .int .i64 ((i : Int)), .bool true, .bool true, .slice (some ⟨g, off, none⟩) L.length cap, .int .i64 ((i : Int)), .pointer (some ⟨g, off + i * 12, none⟩), .pointer (some ⟨g, off + i * 12, none⟩), .int .i64 xa, .slice (some ⟨g, off, none⟩) L.length cap, .int .i64 ((i : Int)), .int .i64 ((j : Int)), .pointer (some ⟨g, off + j * 12, none⟩), .pointer (some ⟨g, off + j * 12, none⟩), .int .i64 ya, .bool false, .bool false, .bool false, .bool false, .bool false, .bool true, .bool false, .bool false, undef, undef, undef, undef, undef, undef, undef, undef, undef, undef, undef, undef, undef, .bool false, .bool false, undef, undef, undef, undef, undef, undef, undef, undef, undef, undef, undef, undef, undef, undef, undef, undef, undef, undef, undef, undef, undef, undef, undef, undef, undef, undef, undef, undef, undef, undef, undef, undef, undef, undef, undef, undef, undef, undef, undef, undef, undef, undef, undef, undef, undef, undef, undef, undef, undef, undef, undef, undef], []⟩ ?_
          clear hj0 hj1 hj2 hj3 hw6 hjl hne hnl
          go_wp2_with fail
          go_roundw
          case rel => exact ⟨i + 1, by have := HIF.out; omega, by go_num, (hBw.trans (hb.mono hBw.size)).drew.drew⟩
          case measure => simp [intOf]; omega
    · have hki : ¬ (i : Int) < (L.length : Int) := by omega
      have HOK : Hid (∀ x ∈ L, x.ok = true) := stepN_mem HGD.out
      have hcn := l08Counts_any C wr (.slice ao L.length cap) L (by have := hBw.size; omega) (hr0.below (hBw.mono hC)) hlen (fun x hx => (ok_parts (HOK.out x hx)).1)
      obtain ⟨i0, hi0, hz0, hz1, hz2⟩ := info_parts info3
      go_wp2_with (first | (go_at_call 20; refine hcn.mono ?_; rintro e w1 ⟨gc, rfl, hoc, hb1⟩) | (at_make; refine wpList_make_full _ rfl _ _ 23 rfl (w1.heap.size + 1) 3 i0 (.int .i64 0) 1 Try.underlying23 hi0 hz0 hz1 _ _ _ _ 101 rfl rfl rfl rfl (by rw [hz2]; omega) (by unfold maxLen; omega) (by simp) ?_))
      intro w3 hown hgrow
      have hB1 : Below w.heap.size w w1 := hBw.trans (hb1.mono hBw.size)
      have hb3 : Below w1.heap.size w1 w3 := (below_alloc w1 _).grown hgrow (by simp) (fun k hk => by cases hk)
      have hvb : w3.heap[w1.heap.size]? = some (.cells #[.slice (some ⟨gc, 0, none⟩) 16 16] 32 (0, 0)) := (hgrow.block w1.heap.size (by simp) (by simp)).trans (heap_alloc_new w1 _)
      have ho3 := own_of hown
      rw [toList_madeCells_one] at ho3
      have HI0 : Hid (Own 3 w3 (w1.heap.size + 1) (.slice (some ⟨w1.heap.size + 1, 0, none⟩) 101 101) ((thR (L.take 0)).map (Value.int .i64)) ∧ w3.heap[w1.heap.size]? = some (.cells #[.slice (some ⟨gc, 0, none⟩) 16 16] 32 (0, 0)) ∧ Below w1.heap.size w1 w3) :=
        ⟨by rw [List.take_zero, thR_nil, List.map_replicate]; exact ho3, hvb, hb3⟩
      have hrc : Rd w1.heap.size w1 (.slice (some ⟨gc, 0, none⟩) 16 16) ((cnts L).map (Value.int .i64)) := hoc.rd
      have hs1 := hB1.size
      have hw3s : w1.heap.size + 1 < w3.heap.size := (World.ownsRow.lt hown _ rfl).2
      clear hown hgrow ho3 hvb hb3 hcn hoc hb1 hz0 hz1 hz2 hi0
      go_wp2_with fail
      go_loopw [7] (fun ti wr => ∃ (k : Nat), k ≤ L.length ∧ ti = .int .i64 (k : Int) ∧ Hid (Own 3 wr (w1.heap.size + 1) (.slice (some ⟨w1.heap.size + 1, 0, none⟩) 101 101) ((thR (L.take k)).map (Value.int .i64)) ∧ wr.heap[w1.heap.size]? = some (.cells #[.slice (some ⟨gc, 0, none⟩) 16 16] 32 (0, 0)) ∧ Below w1.heap.size w1 wr) ∧ Hid (∀ q, q < k → causesB L (ovAt L q) = true ∧ suitB (L.take q) (ovAt L q) = true)) (fun ti _ => L.length - (intOf ti).toNat)
      case atStart => exact ⟨0, Nat.zero_le _, rfl, HI0, fun q hq => absurd hq (by omega)⟩
      case round =>
        clear HI0 hBw hw3s
        obtain ⟨k, hk, rfl, HI, HCS⟩ := hrel
        by_cases hlt2 : k < L.length
        · have hki2 : (k : Int) < (L.length : Int) := by omega
          have hk3 : (k : Int) + 1 < 9223372036854775808 := by omega
          obtain ⟨ho, hvb, hbel⟩ := HI.out
          have hc5 := blk_cell hvb 0 rfl
          obtain ⟨g, off, rfl, hg, hcs⟩ := hrow (by omega)
          have hBall : Below w.heap.size w wr := hB1.trans (hbel.mono hs1)
          have hsw := hbel.size
          have hvl : w1.heap.size < wr.heap.size := (Array.getElem?_eq_some_iff.1 hvb).1
          have hx := (hcs k hlt2).below (hBall.mono hC) hg
          have hok := HOK.out _ (ovAt_mem hlt2)
          obtain ⟨-, ⟨ho0, ho1⟩, hvd⟩ := ok_parts hok
          have hkd := ok_kind hok
          obtain ⟨j, hj⟩ := Int.eq_ofNat_of_zero_le (a := (ovAt L k).o) (by omega)
          have hj101 : j < 101 := by omega
          have hj101' : (j : Int) < 101 := by omega
          have HSU : Hid (suitB (L.take k) (ovAt L k) = decide (smT ((tsOf (L.take k)).getD j 0) = 0 ∨ smT ((tsOf (L.take k)).getD j 0) = spT (ovAt L k).k)) := suit_sp (fun y hy => ok_kind (HOK.out y (List.mem_of_mem_take hy))) hkd hj101 hj
          have HTH : Hid (thR (L.take (k + 1)) = (thR (L.take k)).set j (spT (ovAt L k).k)) := by
            unfold Hid
            rw [take_snoc hlt2, thR_snoc _ _ hkd, hj, Int.toNat_natCast]
          have HNC : Hid (causesB L (ovAt L k) = false → r = false) := fun h => HR.out.symm.trans (logI_cause hlt2 h)
          have HNS : Hid (suitB (L.take k) (ovAt L k) = false → r = false) := fun h => HR.out.symm.trans (logI_suit hlt2 h)
          have HYS : Hid (causesB L (ovAt L k) = true → suitB (L.take k) (ovAt L k) = true → Hid (∀ q, q < k + 1 → causesB L (ovAt L q) = true ∧ suitB (L.take q) (ovAt L q) = true)) := fun h h' q hq => by
            by_cases e : q = k
            · subst e; exact ⟨h, h'⟩
            · exact HCS.out q (by omega)
          have hCA : ∀ w9, Below wr.heap.size wr w9 → Calls Try.prog 33 #[.slice (some ⟨g, off, none⟩) L.length cap, .agg #[.slice (some ⟨gc, 0, none⟩) 16 16], .agg #[.int .i64 (ovAt L k).a, .int .i64 (ovAt L k).s, .int .i64 (ovAt L k).t, (ovAt L k).dv, .int .i64 (ovAt L k).k, .int .i64 (ovAt L k).o, .int .i64 (ovAt L k).n, .int .i64 (ovAt L k).u, .int .i64 (ovAt L k).pt, .int .i64 (ovAt L k).pa, .string (ovAt L k).ky, .string (ovAt L k).tx]] w9 fun e w' => e = .returned (.bool (causesB L (ovAt L k))) ∧ Below w9.heap.size w9 w' := fun w9 hb => by
            have hbw9 : Below w1.heap.size w1 w9 := hbel.trans (hb.mono hbel.size)
            exact l08Causes_any w1.heap.size w9 _ _ L (ovAt L k) hbw9.size ((hr0.below ((hB1.trans (hbw9.mono hs1)).mono hC)).mono (by omega)) hlen (by omega) (hrc.below hbw9) (((hdv _ (ovAt_mem hlt2)).below ((hB1.trans (hbw9.mono hs1)).mono hC)).mono (by omega)) hvd (fun a _ => stand_of HGD.out a)
          obtain ⟨c0, c1, c2, c3, c4, c5, c6, c7, c8, c9, c10, c11⟩ := hx
          rw [hj] at hCA c5
          have HZC : Hid (∀ w9, Below wr.heap.size wr w9 → Own 3 w9 (w1.heap.size + 1) (.slice (some ⟨w1.heap.size + 1, 0, none⟩) 101 101) ((thR (L.take k)).map (Value.int .i64))) := fun w9 hb => ho.below hb (Nat.le_refl _)
          have HZ1 : Hid ((thR (L.take k))[j]? = some (smT ((tsOf (L.take k)).getD j 0))) := thR_at _ hj101
          have HZV : Hid (smT ((tsOf (L.take k)).getD j 0) = 0 ∨ smT ((tsOf (L.take k)).getD j 0) = 1 ∨ smT ((tsOf (L.take k)).getD j 0) = 2 ∨ smT ((tsOf (L.take k)).getD j 0) = 3) := smT_val (tsOf_get (fun y hy => ok_kind (HOK.out y (List.mem_of_mem_take hy))) hj101)
          have HSV : Hid (spT (ovAt L k).k = 1 ∨ spT (ovAt L k).k = 2 ∨ spT (ovAt L k).k = 3) := spT_val hkd
          generalize smT ((tsOf (L.take k)).getD j 0) = z at HSU HZ1 HZV
          generalize causesB L (ovAt L k) = cb at HNC HYS hCA
          generalize suitB (L.take k) (ovAt L k) = sb at HSU HNS HYS
          have hgw : g < wr.heap.size := by omega
          clear hcs hok hvd hkd HI ho HCS ho0 ho1 hj hdv
          generalize ovAt L k = x at *
          obtain ⟨xa, xs, xt, xdv, xk, xo, xn, xu, xpt, xpa, xky, xtx, xds⟩ := x
          simp only at c0 c1 c2 c3 c4 c5 c6 c7 c8 c9 c10 c11 hCA HSU HTH HSV
          have hB := (Below.refl wr.heap.size wr).drew
          have HF : Hid (∀ wx, Below wr.heap.size wr wx → wx.cell? ⟨g, off + k * 12, none⟩ = some (.int .i64 xa) ∧ wx.cell? ⟨g, off + k * 12 + 1, none⟩ = some (.int .i64 xs) ∧ wx.cell? ⟨g, off + k * 12 + 2, none⟩ = some (.int .i64 xt) ∧ wx.cell? ⟨g, off + k * 12 + 3, none⟩ = some (xdv) ∧ wx.cell? ⟨g, off + k * 12 + 4, none⟩ = some (.int .i64 xk) ∧ wx.cell? ⟨g, off + k * 12 + 5, none⟩ = some (.int .i64 ((j : Int))) ∧ wx.cell? ⟨g, off + k * 12 + 6, none⟩ = some (.int .i64 xn) ∧ wx.cell? ⟨g, off + k * 12 + 7, none⟩ = some (.int .i64 xu) ∧ wx.cell? ⟨g, off + k * 12 + 8, none⟩ = some (.int .i64 xpt) ∧ wx.cell? ⟨g, off + k * 12 + 9, none⟩ = some (.int .i64 xpa) ∧ wx.cell? ⟨g, off + k * 12 + 10, none⟩ = some (.string xky) ∧ wx.cell? ⟨g, off + k * 12 + 11, none⟩ = some (.string xtx) ∧ wx.cell? ⟨w1.heap.size, 0, none⟩ = some (.slice (some ⟨gc, 0, none⟩) 16 16)) := fun wx h => ⟨(h.cell (p := ⟨g, off + k * 12, none⟩) hgw).trans c0, (h.cell (p := ⟨g, off + k * 12 + 1, none⟩) hgw).trans c1, (h.cell (p := ⟨g, off + k * 12 + 2, none⟩) hgw).trans c2, (h.cell (p := ⟨g, off + k * 12 + 3, none⟩) hgw).trans c3, (h.cell (p := ⟨g, off + k * 12 + 4, none⟩) hgw).trans c4, (h.cell (p := ⟨g, off + k * 12 + 5, none⟩) hgw).trans c5, (h.cell (p := ⟨g, off + k * 12 + 6, none⟩) hgw).trans c6, (h.cell (p := ⟨g, off + k * 12 + 7, none⟩) hgw).trans c7, (h.cell (p := ⟨g, off + k * 12 + 8, none⟩) hgw).trans c8, (h.cell (p := ⟨g, off + k * 12 + 9, none⟩) hgw).trans c9, (h.cell (p := ⟨g, off + k * 12 + 10, none⟩) hgw).trans c10, (h.cell (p := ⟨g, off + k * 12 + 11, none⟩) hgw).trans c11, (h.cell (p := ⟨w1.heap.size, 0, none⟩) (by show w1.heap.size < wr.heap.size; omega)).trans hc5⟩
          clear c0 c1 c2 c3 c4 c5 c6 c7 c8 c9 c10 c11 hc5
          cases cb with
          | false =>
            have HE : Hid (r = false) := HNC.out rfl
            go_wp2_with fail
            refine wp_region_held_drew (S := fun w' => w'.cell? ⟨g, off + k * 12, none⟩ = some (.int .i64 xa) ∧ w'.cell? ⟨g, off + k * 12 + 1, none⟩ = some (.int .i64 xs) ∧ w'.cell? ⟨g, off + k * 12 + 2, none⟩ = some (.int .i64 xt) ∧ w'.cell? ⟨g, off + k * 12 + 3, none⟩ = some (xdv) ∧ w'.cell? ⟨g, off + k * 12 + 4, none⟩ = some (.int .i64 xk) ∧ w'.cell? ⟨g, off + k * 12 + 5, none⟩ = some (.int .i64 ((j : Int))) ∧ w'.cell? ⟨g, off + k * 12 + 6, none⟩ = some (.int .i64 xn) ∧ w'.cell? ⟨g, off + k * 12 + 7, none⟩ = some (.int .i64 xu) ∧ w'.cell? ⟨g, off + k * 12 + 8, none⟩ = some (.int .i64 xpt) ∧ w'.cell? ⟨g, off + k * 12 + 9, none⟩ = some (.int .i64 xpa) ∧ w'.cell? ⟨g, off + k * 12 + 10, none⟩ = some (.string xky) ∧ w'.cell? ⟨g, off + k * 12 + 11, none⟩ = some (.string xtx) ∧ w'.cell? ⟨w1.heap.size, 0, none⟩ = some (.slice (some ⟨gc, 0, none⟩) 16 16)) (by kernel_rfl) (HF.out _ hB) (fun hHeld => ?_)
            refine tkB 0 (.slice (some ⟨g, off, none⟩) L.length cap) [(0, .slice (some ⟨g, off, none⟩) L.length cap)] rfl (by rintro ρ ⟨e0, ec⟩ w hSw; obtain ⟨s0, s1, s2, s3, s4, s5, s6, s7, s8, s9, s10, s11, s12⟩ := hSw; go_simp) hHeld ?_
            refine tkB 1 (.agg #[.slice (some ⟨gc, 0, none⟩) 16 16]) [(5, .pointer (some ⟨w1.heap.size, 0, none⟩))] rfl (by rintro ρ ⟨e5, ec⟩ w hSw; obtain ⟨s0, s1, s2, s3, s4, s5, s6, s7, s8, s9, s10, s11, s12⟩ := hSw; go_simp) hHeld ?_
            refine tkB 2 (.slice (some ⟨g, off, none⟩) L.length cap) [(0, .slice (some ⟨g, off, none⟩) L.length cap)] rfl (by rintro ρ ⟨e0, ec⟩ w hSw; obtain ⟨s0, s1, s2, s3, s4, s5, s6, s7, s8, s9, s10, s11, s12⟩ := hSw; go_simp) hHeld ?_
            refine tkB 3 (.int .i64 ((k : Int))) [(7, .int .i64 ((k : Int)))] rfl (by rintro ρ ⟨e7, ec⟩ w hSw; obtain ⟨s0, s1, s2, s3, s4, s5, s6, s7, s8, s9, s10, s11, s12⟩ := hSw; go_simp) hHeld ?_
            refine tkB 4 (.pointer (some ⟨g, off + k * 12, none⟩)) [(97, .slice (some ⟨g, off, none⟩) L.length cap), (98, .int .i64 ((k : Int)))] rfl (by rintro ρ ⟨e97, e98, ec⟩ w hSw; obtain ⟨s0, s1, s2, s3, s4, s5, s6, s7, s8, s9, s10, s11, s12⟩ := hSw; go_simp) hHeld ?_
            refine tkB 5 (.agg #[.int .i64 xa, .int .i64 xs, .int .i64 xt, xdv, .int .i64 xk, .int .i64 ((j : Int)), .int .i64 xn, .int .i64 xu, .int .i64 xpt, .int .i64 xpa, .string xky, .string xtx]) [(99, .pointer (some ⟨g, off + k * 12, none⟩))] rfl (by rintro ρ ⟨e99, ec⟩ w hSw; obtain ⟨s0, s1, s2, s3, s4, s5, s6, s7, s8, s9, s10, s11, s12⟩ := hSw; go_simp) hHeld ?_
            refine actH ⟨#[.slice (some ⟨g, off, none⟩) L.length cap, undef, u2, .int .i64 ((i : Int)), u4, .pointer (some ⟨w1.heap.size, 0, none⟩), .slice (some ⟨w1.heap.size + 1, 0, none⟩) 101 101, .int .i64 ((k : Int)), u8, .slice (some ⟨g, off, none⟩) L.length cap, .int .i64 ((L.length : Int)), .bool false, .int .i64 ((i : Int)), .slice (some ⟨g, off, none⟩) L.length cap, .int .i64 ((L.length : Int)), .bool false, u16, u17, u18, u19, u20, u21, u22, u23, u24, u25, u26, u27, u28, u29, u30, u31, u32, u33, u34, u35, u36, u37, u38, u39, u40, u41, u42, u43, u44, u45, u46, u47, u48, u49, u50, u51, u52, u53, u54, u55, u56, u57, u58, u59, u60, u61, u62, u63, u64, u65, u66, u67, u68, u69, u70, u71, u72, u73, u74, u75, u76, u77, u78, u79, u80, u81, u82, u83, u84, u85, .slice (some ⟨g, off, none⟩) L.length cap, .agg #[.slice (some ⟨gc, 0, none⟩) 16 16], .slice (some ⟨w1.heap.size + 1, 0, none⟩) 101 101, .int .i64 ((k : Int)), .slice (some ⟨g, off, none⟩) L.length cap, .int .i64 ((L.length : Int)), .bool true, u93, u94, .slice (some ⟨g, off, none⟩) L.length cap, .agg #[.slice (some ⟨gc, 0, none⟩) 16 16], .slice (some ⟨g, off, none⟩) L.length cap, .int .i64 ((k : Int)), .pointer (some ⟨g, off + k * 12, none⟩), .agg #[.int .i64 xa, .int .i64 xs, .int .i64 xt, xdv, .int .i64 xk, .int .i64 ((j : Int)), .int .i64 xn, .int .i64 xu, .int .i64 xpt, .int .i64 xpa, .string xky, .string xtx], u101, u102, u103, u104, u105, u106, u107, u108, u109, u110, u111, u112, u113, u114, u115, u116, u117, u118, u119, u120, u121, u122, u123, u124, u125, u126, u127, u128, u129, u130, u131, u132, u133, u134, u135, u136, u137], []⟩ #[true, true, true, true, true, true, false, false] ?_
            refine wpAnyH_ready (rs := [6]) (by kernel_rfl) (by simp) ?_
            refine AllReadyH.cons rfl (fun K hK => ?_) AllReadyH.nil
            go_simp
            refine (hCA _ hB).mono ?_
            rintro e wn ⟨rfl, hbn⟩
            replace hB := below_seq hB hbn
            clear hbn
            go_wp2_with fail
            refine hK.out _ _ (HF.out _ hB) (fun hHeld => ?_)
            clear hK K
            refine tkB 7 (.bool true) [(101, .bool false)] rfl (by rintro ρ ⟨e101, ec⟩ w hSw; obtain ⟨s0, s1, s2, s3, s4, s5, s6, s7, s8, s9, s10, s11, s12⟩ := hSw; go_simp) hHeld ?_
            refine wpAnyH_done (by kernel_rfl) ?_ _
            refine actN ⟨#[.slice (some ⟨g, off, none⟩) L.length cap, undef, u2, .int .i64 ((i : Int)), u4, .pointer (some ⟨w1.heap.size, 0, none⟩), .slice (some ⟨w1.heap.size + 1, 0, none⟩) 101 101, .int .i64 ((k : Int)), u8, .slice (some ⟨g, off, none⟩) L.length cap, .int .i64 ((L.length : Int)), .bool false, .int .i64 ((i : Int)), .slice (some ⟨g, off, none⟩) L.length cap, .int .i64 ((L.length : Int)), .bool false, u16, u17, u18, u19, u20, u21, u22, u23, u24, u25, u26, u27, u28, u29, u30, u31, u32, u33, u34, u35, u36, u37, u38, u39, u40, u41, u42, u43, u44, u45, u46, u47, u48, u49, u50, u51, u52, u53, u54, u55, u56, u57, u58, u59, u60, u61, u62, u63, u64, u65, u66, u67, u68, u69, u70, u71, u72, u73, u74, u75, u76, u77, u78, u79, u80, u81, u82, u83, u84, u85, .slice (some ⟨g, off, none⟩) L.length cap, .agg #[.slice (some ⟨gc, 0, none⟩) 16 16], .slice (some ⟨w1.heap.size + 1, 0, none⟩) 101 101, .int .i64 ((k : Int)), .slice (some ⟨g, off, none⟩) L.length cap, .int .i64 ((L.length : Int)), .bool true, u93, u94, .slice (some ⟨g, off, none⟩) L.length cap, .agg #[.slice (some ⟨gc, 0, none⟩) 16 16], .slice (some ⟨g, off, none⟩) L.length cap, .int .i64 ((k : Int)), .pointer (some ⟨g, off + k * 12, none⟩), .agg #[.int .i64 xa, .int .i64 xs, .int .i64 xt, xdv, .int .i64 xk, .int .i64 ((j : Int)), .int .i64 xn, .int .i64 xu, .int .i64 xpt, .int .i64 xpa, .string xky, .string xtx], .bool false, .bool true, u103, u104, u105, u106, u107, u108, u109, u110, u111, u112, u113, u114, u115, u116, u117, u118, u119, u120, u121, u122, u123, u124, u125, u126, u127, u128, u129, u130, u131, u132, u133, u134, u135, u136, u137], []⟩ ?_
            go_wp2_with fail
            go_ret
            exact ⟨by rw [HE.out]; rfl, hBall.trans (hB.mono hBall.size)⟩
          | true =>
            go_wp2_with fail
            refine wp_region_held_drew (S := fun w' => w'.cell? ⟨g, off + k * 12, none⟩ = some (.int .i64 xa) ∧ w'.cell? ⟨g, off + k * 12 + 1, none⟩ = some (.int .i64 xs) ∧ w'.cell? ⟨g, off + k * 12 + 2, none⟩ = some (.int .i64 xt) ∧ w'.cell? ⟨g, off + k * 12 + 3, none⟩ = some (xdv) ∧ w'.cell? ⟨g, off + k * 12 + 4, none⟩ = some (.int .i64 xk) ∧ w'.cell? ⟨g, off + k * 12 + 5, none⟩ = some (.int .i64 ((j : Int))) ∧ w'.cell? ⟨g, off + k * 12 + 6, none⟩ = some (.int .i64 xn) ∧ w'.cell? ⟨g, off + k * 12 + 7, none⟩ = some (.int .i64 xu) ∧ w'.cell? ⟨g, off + k * 12 + 8, none⟩ = some (.int .i64 xpt) ∧ w'.cell? ⟨g, off + k * 12 + 9, none⟩ = some (.int .i64 xpa) ∧ w'.cell? ⟨g, off + k * 12 + 10, none⟩ = some (.string xky) ∧ w'.cell? ⟨g, off + k * 12 + 11, none⟩ = some (.string xtx) ∧ w'.cell? ⟨w1.heap.size, 0, none⟩ = some (.slice (some ⟨gc, 0, none⟩) 16 16)) (by kernel_rfl) (HF.out _ hB) (fun hHeld => ?_)
            refine tkB 0 (.slice (some ⟨g, off, none⟩) L.length cap) [(0, .slice (some ⟨g, off, none⟩) L.length cap)] rfl (by rintro ρ ⟨e0, ec⟩ w hSw; obtain ⟨s0, s1, s2, s3, s4, s5, s6, s7, s8, s9, s10, s11, s12⟩ := hSw; go_simp) hHeld ?_
            refine tkB 1 (.agg #[.slice (some ⟨gc, 0, none⟩) 16 16]) [(5, .pointer (some ⟨w1.heap.size, 0, none⟩))] rfl (by rintro ρ ⟨e5, ec⟩ w hSw; obtain ⟨s0, s1, s2, s3, s4, s5, s6, s7, s8, s9, s10, s11, s12⟩ := hSw; go_simp) hHeld ?_
            refine tkB 2 (.slice (some ⟨g, off, none⟩) L.length cap) [(0, .slice (some ⟨g, off, none⟩) L.length cap)] rfl (by rintro ρ ⟨e0, ec⟩ w hSw; obtain ⟨s0, s1, s2, s3, s4, s5, s6, s7, s8, s9, s10, s11, s12⟩ := hSw; go_simp) hHeld ?_
            refine tkB 3 (.int .i64 ((k : Int))) [(7, .int .i64 ((k : Int)))] rfl (by rintro ρ ⟨e7, ec⟩ w hSw; obtain ⟨s0, s1, s2, s3, s4, s5, s6, s7, s8, s9, s10, s11, s12⟩ := hSw; go_simp) hHeld ?_
            refine tkB 4 (.pointer (some ⟨g, off + k * 12, none⟩)) [(97, .slice (some ⟨g, off, none⟩) L.length cap), (98, .int .i64 ((k : Int)))] rfl (by rintro ρ ⟨e97, e98, ec⟩ w hSw; obtain ⟨s0, s1, s2, s3, s4, s5, s6, s7, s8, s9, s10, s11, s12⟩ := hSw; go_simp) hHeld ?_
            refine tkB 5 (.agg #[.int .i64 xa, .int .i64 xs, .int .i64 xt, xdv, .int .i64 xk, .int .i64 ((j : Int)), .int .i64 xn, .int .i64 xu, .int .i64 xpt, .int .i64 xpa, .string xky, .string xtx]) [(99, .pointer (some ⟨g, off + k * 12, none⟩))] rfl (by rintro ρ ⟨e99, ec⟩ w hSw; obtain ⟨s0, s1, s2, s3, s4, s5, s6, s7, s8, s9, s10, s11, s12⟩ := hSw; go_simp) hHeld ?_
            refine actH ⟨#[.slice (some ⟨g, off, none⟩) L.length cap, undef, u2, .int .i64 ((i : Int)), u4, .pointer (some ⟨w1.heap.size, 0, none⟩), .slice (some ⟨w1.heap.size + 1, 0, none⟩) 101 101, .int .i64 ((k : Int)), u8, .slice (some ⟨g, off, none⟩) L.length cap, .int .i64 ((L.length : Int)), .bool false, .int .i64 ((i : Int)), .slice (some ⟨g, off, none⟩) L.length cap, .int .i64 ((L.length : Int)), .bool false, u16, u17, u18, u19, u20, u21, u22, u23, u24, u25, u26, u27, u28, u29, u30, u31, u32, u33, u34, u35, u36, u37, u38, u39, u40, u41, u42, u43, u44, u45, u46, u47, u48, u49, u50, u51, u52, u53, u54, u55, u56, u57, u58, u59, u60, u61, u62, u63, u64, u65, u66, u67, u68, u69, u70, u71, u72, u73, u74, u75, u76, u77, u78, u79, u80, u81, u82, u83, u84, u85, .slice (some ⟨g, off, none⟩) L.length cap, .agg #[.slice (some ⟨gc, 0, none⟩) 16 16], .slice (some ⟨w1.heap.size + 1, 0, none⟩) 101 101, .int .i64 ((k : Int)), .slice (some ⟨g, off, none⟩) L.length cap, .int .i64 ((L.length : Int)), .bool true, u93, u94, .slice (some ⟨g, off, none⟩) L.length cap, .agg #[.slice (some ⟨gc, 0, none⟩) 16 16], .slice (some ⟨g, off, none⟩) L.length cap, .int .i64 ((k : Int)), .pointer (some ⟨g, off + k * 12, none⟩), .agg #[.int .i64 xa, .int .i64 xs, .int .i64 xt, xdv, .int .i64 xk, .int .i64 ((j : Int)), .int .i64 xn, .int .i64 xu, .int .i64 xpt, .int .i64 xpa, .string xky, .string xtx], u101, u102, u103, u104, u105, u106, u107, u108, u109, u110, u111, u112, u113, u114, u115, u116, u117, u118, u119, u120, u121, u122, u123, u124, u125, u126, u127, u128, u129, u130, u131, u132, u133, u134, u135, u136, u137], []⟩ #[true, true, true, true, true, true, false, false] ?_
            refine wpAnyH_ready (rs := [6]) (by kernel_rfl) (by simp) ?_
            refine AllReadyH.cons rfl (fun K hK => ?_) AllReadyH.nil
            go_simp
            refine (hCA _ hB).mono ?_
            rintro e wn ⟨rfl, hbn⟩
            replace hB := below_seq hB hbn
            clear hbn
            go_wp2_with fail
            refine hK.out _ _ (HF.out _ hB) (fun hHeld => ?_)
            clear hK K
            refine tkB 7 (.bool false) [(101, .bool true)] rfl (by rintro ρ ⟨e101, ec⟩ w hSw; obtain ⟨s0, s1, s2, s3, s4, s5, s6, s7, s8, s9, s10, s11, s12⟩ := hSw; go_simp) hHeld ?_
            refine wpAnyH_done (by kernel_rfl) ?_ _
            refine actN ⟨#[.slice (some ⟨g, off, none⟩) L.length cap, undef, u2, .int .i64 ((i : Int)), u4, .pointer (some ⟨w1.heap.size, 0, none⟩), .slice (some ⟨w1.heap.size + 1, 0, none⟩) 101 101, .int .i64 ((k : Int)), u8, .slice (some ⟨g, off, none⟩) L.length cap, .int .i64 ((L.length : Int)), .bool false, .int .i64 ((i : Int)), .slice (some ⟨g, off, none⟩) L.length cap, .int .i64 ((L.length : Int)), .bool false, u16, u17, u18, u19, u20, u21, u22, u23, u24, u25, u26, u27, u28, u29, u30, u31, u32, u33, u34, u35, u36, u37, u38, u39, u40, u41, u42, u43, u44, u45, u46, u47, u48, u49, u50, u51, u52, u53, u54, u55, u56, u57, u58, u59, u60, u61, u62, u63, u64, u65, u66, u67, u68, u69, u70, u71, u72, u73, u74, u75, u76, u77, u78, u79, u80, u81, u82, u83, u84, u85, .slice (some ⟨g, off, none⟩) L.length cap, .agg #[.slice (some ⟨gc, 0, none⟩) 16 16], .slice (some ⟨w1.heap.size + 1, 0, none⟩) 101 101, .int .i64 ((k : Int)), .slice (some ⟨g, off, none⟩) L.length cap, .int .i64 ((L.length : Int)), .bool true, u93, u94, .slice (some ⟨g, off, none⟩) L.length cap, .agg #[.slice (some ⟨gc, 0, none⟩) 16 16], .slice (some ⟨g, off, none⟩) L.length cap, .int .i64 ((k : Int)), .pointer (some ⟨g, off + k * 12, none⟩), .agg #[.int .i64 xa, .int .i64 xs, .int .i64 xt, xdv, .int .i64 xk, .int .i64 ((j : Int)), .int .i64 xn, .int .i64 xu, .int .i64 xpt, .int .i64 xpa, .string xky, .string xtx], .bool true, .bool false, u103, u104, u105, u106, u107, u108, u109, u110, u111, u112, u113, u114, u115, u116, u117, u118, u119, u120, u121, u122, u123, u124, u125, u126, u127, u128, u129, u130, u131, u132, u133, u134, u135, u136, u137], []⟩ ?_
            obtain ⟨q0, q1, q2, q3, q4, q5, q6, q7, q8, q9, q10, q11, q12⟩ := HF.out _ hB
            clear q0 q1 q2 q3 q6 q7 q8 q9 q10 q11 q12
            have hZ := HZC.out _ hB
            have hzc : wn.cell? ⟨w1.heap.size + 1, j, none⟩ = some (.int .i64 z) := own_at hZ (by rw [List.getElem?_map, HZ1.out]; rfl)
            have hfr : wn.frozen? ⟨w1.heap.size + 1, j, none⟩ = false := own_free hZ j
            have HN := own_set hZ j (.int .i64 (spT xk))
            rw [← List.map_set, ← HTH.out] at HN
            have hVB := (hB.block w1.heap.size (by omega)).trans hvb
            have hBn : Below w1.heap.size w1 wn := hbel.trans (hB.mono hbel.size)
            have HI2 : Hid (Own 3 (wn.setCell ⟨w1.heap.size + 1, j, none⟩ (.int .i64 (spT xk))) (w1.heap.size + 1) (.slice (some ⟨w1.heap.size + 1, 0, none⟩) 101 101) ((thR (L.take (k + 1))).map (Value.int .i64)) ∧ (wn.setCell ⟨w1.heap.size + 1, j, none⟩ (.int .i64 (spT xk))).heap[w1.heap.size]? = some (.cells #[.slice (some ⟨gc, 0, none⟩) 16 16] 32 (0, 0)) ∧ Below w1.heap.size w1 (wn.setCell ⟨w1.heap.size + 1, j, none⟩ (.int .i64 (spT xk)))) :=
              ⟨HN, (heap_setCell_other wn ⟨w1.heap.size + 1, j, none⟩ w1.heap.size _ (by show w1.heap.size ≠ w1.heap.size + 1; omega)).trans hVB, hBn.setCell (p := ⟨w1.heap.size + 1, j, none⟩) (by show w1.heap.size ≤ w1.heap.size + 1; omega) _⟩
            have hTk := fun w => l08Thing_any xk w
            have hBa : Below w.heap.size w wn := hB1.trans (hBn.mono hs1)
            clear HN hZ HZC HZ1 hVB hBn HTH hvb hbel HF hCA HNC hB hBall
            generalize spT xk = sp at *
            by_cases hz0 : z = 0
            · have HE := HYS.out (by first | rfl | trivial) (by rw [HSU.out]; exact decide_eq_true (.inl hz0))
              subst hz0
              clear HSU HNS HYS
              go_wp2_with (first | (go_at_call 34; refine (hTk _).mono ?_; rintro e w9 ⟨rfl, hw⟩; obtain rfl := hw.symm))
              go_roundw
              case rel => exact ⟨k + 1, by omega, by go_num, HI2, HE⟩
              case measure => simp [intOf]; omega
            · by_cases hzs : z = sp
              · have HE := HYS.out (by first | rfl | trivial) (by rw [HSU.out]; exact decide_eq_true (.inr hzs))
                subst hzs
                clear HSU HNS HYS
                go_wp2_with (first | (go_at_call 34; refine (hTk _).mono ?_; rintro e w9 ⟨rfl, hw⟩; obtain rfl := hw.symm))
                go_roundw
                case rel => exact ⟨k + 1, by omega, by go_num, HI2, HE⟩
                case measure => simp [intOf]; omega
              · have HE : Hid (r = false) := HNS.out (by rw [HSU.out]; exact decide_eq_false (by rintro (h | h); exact hz0 h; exact hzs h))
                clear HSU HNS HYS HI2
                rcases HZV.out with h | h | h | h <;> rcases HSV.out with h' | h' | h' <;> first | (exact absurd h hz0) | (exact absurd (h.trans h'.symm) hzs) | skip
                all_goals
                  subst h h'
                  clear hz0 hzs HZV HSV
                  go_wp2_with (first | (go_at_call 34; refine (hTk _).mono ?_; rintro e w9 ⟨rfl, hw⟩; obtain rfl := hw.symm))
                  go_ret
                  exact ⟨by rw [HE.out]; rfl, hBa⟩
        · have hki2 : ¬ (k : Int) < (L.length : Int) := by omega
          have HE : Hid (r = true) := HR.out.symm.trans (logI_all hlen HGD.out (fun q hq => HCS.out q (by omega)))
          have hbel := HI.out.2.2
          go_wp2_with fail
          go_ret
          exact ⟨by rw [HE.out]; rfl, hB1.trans (hbel.mono hs1)⟩

end Go.Proofs.Ytcmgdeeamcimhaa
