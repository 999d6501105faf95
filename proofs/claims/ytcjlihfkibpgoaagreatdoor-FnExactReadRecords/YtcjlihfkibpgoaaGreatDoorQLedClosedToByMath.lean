/- The code's ledger: what isClosed answers. The code's ledgerOf, whole. What the code's LogOK answers. Logs, plain facts: operations by rising actor stand together; the specification's chain is the code's. Logs, plain facts: what the specification's LogOK asks of two neighbours, and of the objects. The specification's l08Causes answers as the ledger's hasCauses, of any log (the empty one too): its drawn region is walked once. A valid log by its actors: plain facts. -/
import Derived.Deep.MidRow
import Derived.Test.YtcjlihfkibpgoaaGreatDoorQLedgerToLogFind
import Derived.Test.YtcjlihfkibpgoaaGreatDoorQOpComesToOpSpecBase
import Derived.Test.YtcjlihfkibpgoaaGreatDoorQQuietKeepToQuietPass
import Derived.Test.YtcjlihfkibpgoaaGreatDoorQOpNumsToOpRange
import Derived.Test.YtcjlihfkibpgoaaGreatDoorQTakeKitToBigKit
namespace Go.Proofs.YtcjlihfkibpgoaaGreatDoor
open Go.RowKit
set_option linter.unusedVariables false

theorem closed_no {P : List Ov} {x : Ov} (hx : x ∈ P) (h : causesB P x = false) : P.all (causesB P) = false := by
  rw [Bool.eq_false_iff]
  intro h'
  rw [List.all_eq_true] at h'
  rw [h' x hx] at h
  cases h
theorem byA_sub {P : List Ov} {a : Nat} {x : Ov} (h : x ∈ byA P a) : x ∈ P := (List.mem_filter.1 h).1
theorem closed_yes {P : List Ov} (ha : ∀ x ∈ P, 0 ≤ x.a ∧ x.a < 16) (h : ∀ a, a < 16 → ∀ q, q < (byA P a).length → causesB P (ovAt (byA P a) q) = true) : P.all (causesB P) = true := by
  rw [List.all_eq_true]
  intro x hx
  have h0 := ha x hx
  have hm : x ∈ byA P x.a.toNat := List.mem_filter.2 ⟨hx, decide_eq_true (by omega)⟩
  obtain ⟨q, hq, e⟩ := List.getElem_of_mem hm
  have h1 := h x.a.toNat (by omega) q hq
  have h2 := ovAt_get hq
  rw [List.getElem?_eq_getElem hq, e] at h2
  rwa [← Option.some.inj h2] at h1
theorem slice_size : (Tryz.prog.info? 23).map (·.size) = some 1 := by kernel_rfl
end Go.Proofs.YtcjlihfkibpgoaaGreatDoor

namespace Go.Proofs.YtcjlihfkibpgoaaGreatDoor
open Go.RowKit
set_option linter.unusedVariables false

def nextB (P : List Ov) (x : Ov) : Bool := decide (x.s = ((byA P x.a.toNat).length : Int) + 1)
def suitB (P : List Ov) (x : Ov) : Bool := decide ((tsOf P).getD x.o.toNat 0 = 0 ∨ (tsOf P).getD x.o.toNat 0 = thOf x.k)
/-- The i-th operation can stand behind those ahead of it. -/
def stepI (L : List Ov) (i : Nat) : Bool := (ovAt L i).ok && (nextB (L.take i) (ovAt L i) && (suitB (L.take i) (ovAt L i) && decide (0 < i → (ovAt L (i - 1)).a ≤ (ovAt L i).a)))
/-- A log is valid, as the code asks. -/
def logI (L : List Ov) : Bool := decide (L.length ≤ 1024) && ((List.range L.length).all (stepI L) && L.all (causesB L))
theorem logI_long {L : List Ov} (h : ¬ L.length ≤ 1024) : logI L = false := by simp [logI, h]
theorem logI_step {L : List Ov} {i : Nat} (h : i < L.length) (hs : stepI L i = false) : logI L = false := by
  have : (List.range L.length).all (stepI L) = false := by
    rw [Bool.eq_false_iff]
    intro h'
    rw [List.all_eq_true] at h'
    rw [h' i (List.mem_range.2 h)] at hs
    cases hs
  simp [logI, this]
theorem logI_cause {L : List Ov} {i : Nat} (h : i < L.length) (hs : causesB L (ovAt L i) = false) : logI L = false := by
  have : L.all (causesB L) = false := by
    rw [Bool.eq_false_iff]
    intro h'
    rw [List.all_eq_true] at h'
    rw [h' _ (ovAt_mem h)] at hs
    cases hs
  simp [logI, this]
theorem logI_yes {L : List Ov} (h : L.length ≤ 1024) (h1 : ∀ i, i < L.length → stepI L i = true) (h2 : ∀ i, i < L.length → causesB L (ovAt L i) = true) : logI L = true := by
  unfold logI
  rw [decide_eq_true h, List.all_eq_true.2 (fun i hi => h1 i (List.mem_range.1 hi)), List.all_eq_true.2 (fun x hx => by
    obtain ⟨i, hi, rfl⟩ := List.getElem_of_mem hx
    have := h2 i hi
    rwa [show ovAt L i = L[i] by have := ovAt_get hi; rw [List.getElem?_eq_getElem hi] at this; exact (Option.some.inj this).symm] at this)]
  rfl
theorem take_snoc {L : List Ov} {i : Nat} (h : i < L.length) : L.take (i + 1) = L.take i ++ [ovAt L i] := by
  rw [List.take_add_one, ovAt_get h]
  rfl
theorem ok_parts {x : Ov} (h : x.ok = true) : (0 ≤ x.a ∧ x.a < 16) ∧ (1 ≤ x.o ∧ x.o ≤ 100) ∧ vecOK x.ds = true := by
  unfold Ov.ok opB at h
  simp only [Bool.and_eq_true, decide_eq_true_eq] at h
  obtain ⟨h1, h2, h3, _⟩ := h
  unfold comesOK at h1
  simp only [Bool.and_eq_true] at h1
  have h4 := h1.1.1.1.1
  unfold stOK at h4
  simp only [decide_eq_true_eq] at h4
  exact ⟨⟨h4.2.2.1, h4.2.2.2⟩, ⟨h2, h3⟩, h1.1.2⟩
theorem step_mem {L : List Ov} (h : ∀ q, q < L.length → stepI L q = true) : ∀ x ∈ L, x.ok = true := by
  intro x hx
  obtain ⟨q, hq, e⟩ := List.getElem_of_mem hx
  have h1 := h q hq
  have h2 := ovAt_get hq
  rw [List.getElem?_eq_getElem hq, e] at h2
  unfold stepI at h1
  rw [← Option.some.inj h2] at h1
  simp only [Bool.and_eq_true] at h1
  exact h1.1
theorem Rd.one {C : Nat} {w : World} {v : Value} {cs : List Value} (h : Rd C w v cs) : v.oneCell' = true := by
  obtain ⟨ao, cap, rfl, _⟩ := h
  rfl

end Go.Proofs.YtcjlihfkibpgoaaGreatDoor

namespace Go.Proofs.YtcjlihfkibpgoaaGreatDoor
open Go.RowKit
set_option linter.unusedVariables false

end Go.Proofs.YtcjlihfkibpgoaaGreatDoor

namespace Go.Proofs.YtcjlihfkibpgoaaGreatDoor
open Go.RowKit
set_option linter.unusedVariables false

/-- The i-th operation is valid by itself and next behind those ahead of it. -/
def stepN (L : List Ov) (i : Nat) : Bool := (ovAt L i).ok && (nextB (L.take i) (ovAt L i) && decide (0 < i → (ovAt L (i - 1)).a ≤ (ovAt L i).a))
theorem stepI_split (L : List Ov) (i : Nat) : stepI L i = (stepN L i && suitB (L.take i) (ovAt L i)) := by
  unfold stepI stepN
  cases (ovAt L i).ok <;> cases nextB (L.take i) (ovAt L i) <;> cases suitB (L.take i) (ovAt L i) <;> simp
theorem stepN_parts {L : List Ov} {i : Nat} (h : stepN L i = true) : (ovAt L i).ok = true ∧ (ovAt L i).s = ((byA (L.take i) (ovAt L i).a.toNat).length : Int) + 1 ∧ (0 < i → (ovAt L (i - 1)).a ≤ (ovAt L i).a) := by
  unfold stepN nextB at h
  simp only [Bool.and_eq_true, decide_eq_true_eq] at h
  exact h
theorem rising {L : List Ov} {n : Nat} (h : ∀ i, i < n → stepN L i = true) : ∀ r, r < n → ∀ q, q ≤ r → (ovAt L q).a ≤ (ovAt L r).a := by
  intro r
  induction r with
  | zero => intro _ q hq; rw [show q = 0 by omega]; exact Int.le_refl _
  | succ r ih =>
    intro hr q hq
    by_cases e : q = r + 1
    · rw [e]; exact Int.le_refl _
    · have h1 := ih (by omega) q (by omega)
      have h2 := (stepN_parts (h (r + 1) hr)).2.2 (by omega)
      rw [show r + 1 - 1 = r by omega] at h2
      omega
theorem ovAt_take {L : List Ov} {i q : Nat} (h : q < i) (hi : i ≤ L.length) : ovAt (L.take i) q = ovAt L q := by
  unfold ovAt
  rw [List.getD_eq_getElem?_getD, List.getElem?_take_of_lt h, ← List.getD_eq_getElem?_getD]
theorem byA_none {L : List Ov} {i a : Nat} (hi : i ≤ L.length) (h : ∀ q, q < i → (ovAt L q).a ≠ (a : Int)) : byA (L.take i) a = [] := by
  unfold byA
  rw [List.filter_eq_nil_iff]
  intro x hx
  obtain ⟨q, hq, rfl⟩ := List.getElem_of_mem hx
  have hl : q < i := by rw [List.length_take] at hq; omega
  have := h q hl
  rw [← ovAt_take hl hi] at this
  rw [show (L.take i)[q] = ovAt (L.take i) q by have := ovAt_get hq; rw [List.getElem?_eq_getElem hq] at this; exact Option.some.inj this]
  simpa using this
theorem byA_one {L : List Ov} {i : Nat} (hi : i < L.length) {a : Nat} (ha : (ovAt L i).a = (a : Int)) : (byA (L.take (i + 1)) a).length = (byA (L.take i) a).length + 1 := by
  rw [take_snoc hi, byA_snoc, if_pos ha]
  simp
/-- What the specification asks of two neighbours is what the code asks. -/
theorem chain_zero {L : List Ov} : nextB (L.take 0) (ovAt L 0) = decide ((ovAt L 0).s = 1) := by
  unfold nextB
  simp [byA]
theorem chain_same {L : List Ov} {i : Nat} (hi : i + 1 < L.length) (h : ∀ q, q < i + 1 → stepN L q = true) (e : (ovAt L (i + 1)).a = (ovAt L i).a) : nextB (L.take (i + 1)) (ovAt L (i + 1)) = decide ((ovAt L (i + 1)).s = (ovAt L i).s + 1) := by
  have hp := stepN_parts (h i (by omega))
  have ha := (ok_parts hp.1).1
  have hn : (ovAt L i).a = (((ovAt L i).a.toNat : Nat) : Int) := by omega
  unfold nextB
  rw [e, byA_one (by omega) hn, hp.2.1]
  apply decide_eq_decide.2
  omega
theorem chain_more {L : List Ov} {i : Nat} (hi : i + 1 < L.length) (h : ∀ q, q < i + 1 → stepN L q = true) (hg : (ovAt L i).a < (ovAt L (i + 1)).a) : nextB (L.take (i + 1)) (ovAt L (i + 1)) = decide ((ovAt L (i + 1)).s = 1) := by
  have ha := (ok_parts (stepN_parts (h i (by omega))).1).1
  unfold nextB
  rw [byA_none (by omega) (fun q hq => by
    have := rising h i (by omega) q (by omega)
    omega)]
  simp

theorem split3 (a : Int) : ∀ (L : List Ov), L.Pairwise (fun x y => x.a ≤ y.a) → L = L.filter (fun x => decide (x.a < a)) ++ (L.filter (fun x => decide (x.a = a)) ++ L.filter (fun x => decide (a < x.a))) := by
  intro L
  induction L with
  | nil => intro _; rfl
  | cons x L ih =>
    intro h
    rw [List.pairwise_cons] at h
    have hi := ih h.2
    by_cases h1 : x.a < a
    · have h2 : ¬ x.a = a := by omega
      have h3 : ¬ a < x.a := by omega
      simp only [List.filter_cons, h1, h2, h3, decide_true, decide_false, if_true, if_false, Bool.false_eq_true, List.cons_append]
      rw [← hi]
    · have n1 : L.filter (fun x => decide (x.a < a)) = [] := by
        rw [List.filter_eq_nil_iff]
        intro y hy
        have := h.1 y hy
        simp
        omega
      by_cases h2 : x.a = a
      · have h3 : ¬ a < x.a := by omega
        rw [n1, List.nil_append] at hi
        simp only [List.filter_cons, h2, decide_true, decide_false, if_true, if_false, Bool.false_eq_true, Int.lt_irrefl]
        rw [n1, List.nil_append, List.cons_append, ← hi]
      · have h3 : a < x.a := by omega
        have n2 : L.filter (fun x => decide (x.a = a)) = [] := by
          rw [List.filter_eq_nil_iff]
          intro y hy
          have := h.1 y hy
          simp
          omega
        rw [n1, n2, List.nil_append, List.nil_append] at hi
        simp only [List.filter_cons, h1, h2, h3, decide_true, decide_false, if_true, if_false, Bool.false_eq_true]
        rw [n1, n2, List.nil_append, List.nil_append, ← hi]
theorem stand_of {L : List Ov} (h : ∀ i, i < L.length → stepN L i = true) (a : Nat) : ∃ i, Stand L a i := by
  have hpw : L.Pairwise (fun x y => x.a ≤ y.a) := by
    rw [List.pairwise_iff_getElem]
    intro i j hi hj hij
    have := rising h j hj i (by omega)
    rwa [show ovAt L i = L[i] by have := ovAt_get hi; rw [List.getElem?_eq_getElem hi] at this; exact (Option.some.inj this).symm, show ovAt L j = L[j] by have := ovAt_get hj; rw [List.getElem?_eq_getElem hj] at this; exact (Option.some.inj this).symm] at this
  have hs := split3 (a : Int) L hpw
  have hb : L.filter (fun x => decide (x.a = (a : Int))) = byA L a := rfl
  rw [hb] at hs
  have hlen : L.length = (L.filter (fun x => decide (x.a < (a : Int)))).length + ((byA L a).length + (L.filter (fun x => decide ((a : Int) < x.a))).length) := by
    have := congrArg List.length hs
    simpa using this
  have at_lo : ∀ q, q < (L.filter (fun x => decide (x.a < (a : Int)))).length → ovAt L q ∈ L.filter (fun x => decide (x.a < (a : Int))) := fun q hq => by
    have : L[q]? = (L.filter (fun x => decide (x.a < (a : Int))))[q]? := by
      rw [← List.getElem?_append_left (l₂ := byA L a ++ L.filter (fun x => decide ((a : Int) < x.a))) hq, ← hs]
    rw [ovAt_get (by omega)] at this
    exact List.mem_of_getElem? this.symm
  have at_mid : ∀ q, q < (byA L a).length → L[(L.filter (fun x => decide (x.a < (a : Int)))).length + q]? = (byA L a)[q]? := fun q hq => by
    rw [← List.getElem?_append_left (l₂ := L.filter (fun x => decide ((a : Int) < x.a))) hq]
    have := List.getElem?_append_right (l₁ := L.filter (fun x => decide (x.a < (a : Int)))) (l₂ := byA L a ++ L.filter (fun x => decide ((a : Int) < x.a))) (i := (L.filter (fun x => decide (x.a < (a : Int)))).length + q) (by omega)
    rw [← hs, Nat.add_sub_cancel_left] at this
    exact this
  refine ⟨(L.filter (fun x => decide (x.a < (a : Int)))).length, fun q hq => ?_, fun q hq => ?_, by omega⟩
  · have := List.mem_filter.1 (at_lo q hq)
    have h2 := this.2
    simp at h2
    omega
  · have h1 := at_mid q hq
    rw [ovAt_get (by omega), ovAt_get hq] at h1
    have h2 := Option.some.inj h1
    refine ⟨h2, ?_⟩
    rw [h2]
    have := List.mem_filter.1 (show ovAt (byA L a) q ∈ L.filter (fun x => decide (x.a = (a : Int))) from ovAt_mem hq)
    simpa using this.2
end Go.Proofs.YtcjlihfkibpgoaaGreatDoor

namespace Go.Proofs.YtcjlihfkibpgoaaGreatDoor
open Go.RowKit
set_option linter.unusedVariables false

theorem good_at {L : List Ov} {i : Nat} (hi : i < L.length) (h : ∀ q, q < i + 1 → stepN L q = true) :
    (ovAt L i).ok = true ∧ (i = 0 ∧ (ovAt L i).s = 1 ∨ ∃ j, i = j + 1 ∧ ((ovAt L i).a = (ovAt L j).a ∧ (ovAt L i).s = (ovAt L j).s + 1 ∨ (ovAt L j).a < (ovAt L i).a ∧ (ovAt L i).s = 1)) := by
  have hs := h i (by omega)
  have hp := stepN_parts hs
  refine ⟨hp.1, ?_⟩
  have hn : nextB (L.take i) (ovAt L i) = true := decide_eq_true hp.2.1
  by_cases h0 : i = 0
  · subst h0
    rw [chain_zero] at hn
    exact .inl ⟨rfl, of_decide_eq_true hn⟩
  · obtain ⟨j, rfl⟩ : ∃ j, i = j + 1 := ⟨i - 1, by omega⟩
    refine .inr ⟨j, rfl, ?_⟩
    have hle := hp.2.2 (by omega)
    rw [show j + 1 - 1 = j by omega] at hle
    by_cases e : (ovAt L (j + 1)).a = (ovAt L j).a
    · rw [chain_same hi (fun q hq => h q (by omega)) e] at hn
      exact .inl ⟨e, of_decide_eq_true hn⟩
    · rw [chain_more hi (fun q hq => h q (by omega)) (by omega)] at hn
      exact .inr ⟨by omega, of_decide_eq_true hn⟩
theorem bad_at {L : List Ov} {i : Nat} (hi : i < L.length) (h : ∀ q, q < i → stepN L q = true) (hb : stepN L i = false) :
    (ovAt L i).ok = false ∨ ((ovAt L i).ok = true ∧ (i = 0 ∧ ¬ (ovAt L i).s = 1 ∨ ∃ j, i = j + 1 ∧ ((ovAt L i).a = (ovAt L j).a ∧ ¬ (ovAt L i).s = (ovAt L j).s + 1 ∨ (ovAt L i).a < (ovAt L j).a ∧ (ovAt L i).s = 1 ∨ (ovAt L i).a < (ovAt L j).a ∧ ¬ (ovAt L i).s = 1 ∨ (ovAt L j).a < (ovAt L i).a ∧ ¬ (ovAt L i).s = 1))) := by
  cases hok : (ovAt L i).ok with
  | false => exact .inl rfl
  | true =>
    refine .inr ⟨rfl, ?_⟩
    unfold stepN at hb
    rw [hok, Bool.true_and] at hb
    by_cases h0 : i = 0
    · subst h0
      rw [chain_zero, decide_eq_true (fun h => absurd h (by omega) : 0 < 0 → (ovAt L (0 - 1)).a ≤ (ovAt L 0).a), Bool.and_true] at hb
      exact .inl ⟨rfl, of_decide_eq_false hb⟩
    · obtain ⟨j, rfl⟩ : ∃ j, i = j + 1 := ⟨i - 1, by omega⟩
      refine .inr ⟨j, rfl, ?_⟩
      rw [show j + 1 - 1 = j by omega] at hb
      by_cases e : (ovAt L (j + 1)).a = (ovAt L j).a
      · rw [chain_same hi h e, decide_eq_true (fun _ => by omega : 0 < j + 1 → (ovAt L j).a ≤ (ovAt L (j + 1)).a), Bool.and_true] at hb
        exact .inl ⟨e, of_decide_eq_false hb⟩
      · by_cases l : (ovAt L (j + 1)).a < (ovAt L j).a
        · by_cases s : (ovAt L (j + 1)).s = 1
          · exact .inr (.inl ⟨l, s⟩)
          · exact .inr (.inr (.inl ⟨l, s⟩))
        · rw [chain_more hi h (by omega), decide_eq_true (fun _ => by omega : 0 < j + 1 → (ovAt L j).a ≤ (ovAt L (j + 1)).a), Bool.and_true] at hb
          exact .inr (.inr (.inr ⟨by omega, of_decide_eq_false hb⟩))
theorem first_bad (p : Nat → Bool) : ∀ n, (∀ q, q < n → p q = true) ∨ ∃ f, f < n ∧ (∀ q, q < f → p q = true) ∧ p f = false
  | 0 => .inl fun q hq => absurd hq (by omega)
  | n + 1 => by
    rcases first_bad p n with h | ⟨f, hf, h1, h2⟩
    · cases hn : p n with
      | false => exact .inr ⟨n, by omega, h, hn⟩
      | true =>
        refine .inl fun q hq => ?_
        by_cases e : q = n
        · rw [e]; exact hn
        · exact h q (by omega)
    · exact .inr ⟨f, by omega, h1, h2⟩
theorem seq_bound {L : List Ov} {i : Nat} (h : stepN L i = true) : 1 ≤ (ovAt L i).s ∧ (ovAt L i).s ≤ 1000000000000 := by
  have := (stepN_parts h).1
  unfold Ov.ok opB comesOK at this
  simp only [Bool.and_eq_true, decide_eq_true_eq] at this
  omega
theorem stepN_mem {L : List Ov} (h : ∀ q, q < L.length → stepN L q = true) : ∀ x ∈ L, x.ok = true := by
  intro x hx
  obtain ⟨q, hq, e⟩ := List.getElem_of_mem hx
  have h1 := (stepN_parts (h q hq)).1
  have h2 := ovAt_get hq
  rw [List.getElem?_eq_getElem hq, e] at h2
  rwa [← Option.some.inj h2] at h1
theorem ok_kind {x : Ov} (h : x.ok = true) : x.k = 1 ∨ x.k = 2 ∨ x.k = 3 ∨ x.k = 4 := by
  unfold Ov.ok opB at h
  simp only [Bool.and_eq_true] at h
  have h1 := h.2.2.2.2.2.2.2
  unfold saysOK at h1
  by_cases k1 : x.k = 1
  · exact .inl k1
  · by_cases k2 : x.k = 2
    · exact .inr (.inl k2)
    · by_cases k3 : x.k = 3
      · exact .inr (.inr (.inl k3))
      · by_cases k4 : x.k = 4
        · exact .inr (.inr (.inr k4))
        · simp [k1, k2, k3, k4] at h1

/-- What the specification calls a thing. -/
def smT (t : Int) : Int := if t = 4 then 3 else t
/-- What kind of thing a kind belongs to, by the specification. -/
def spT (k : Int) : Int := if k = 1 then 1 else if k = 2 ∨ k = 3 then 2 else 3
theorem spT_eq {k : Int} (h : k = 1 ∨ k = 2 ∨ k = 3 ∨ k = 4) : spT k = smT (thOf k) := by
  rcases h with rfl | rfl | rfl | rfl <;> rfl
theorem thOf_in {k : Int} (h : k = 1 ∨ k = 2 ∨ k = 3 ∨ k = 4) : thOf k = 1 ∨ thOf k = 2 ∨ thOf k = 4 := by
  rcases h with rfl | rfl | rfl | rfl
  · exact .inl rfl
  · exact .inr (.inl rfl)
  · exact .inr (.inl rfl)
  · exact .inr (.inr rfl)
theorem tsOf_in {P : List Ov} (h : ∀ x ∈ P, x.k = 1 ∨ x.k = 2 ∨ x.k = 3 ∨ x.k = 4) : ∀ t ∈ tsOf P, t = 0 ∨ t = 1 ∨ t = 2 ∨ t = 4 := by
  unfold tsOf
  have h0 : ∀ t ∈ List.replicate 101 (0 : Int), t = 0 ∨ t = 1 ∨ t = 2 ∨ t = 4 := fun t ht => .inl (List.eq_of_mem_replicate ht)
  revert h0
  generalize List.replicate 101 (0 : Int) = ts
  intro h0
  induction P generalizing ts with
  | nil => exact h0
  | cons x P ih =>
    refine ih (fun y hy => h y (List.mem_cons_of_mem _ hy)) _ (fun t ht => ?_)
    rcases List.mem_or_eq_of_mem_set ht with ht | rfl
    · exact h0 t ht
    · exact .inr (thOf_in (h x (List.mem_cons_self ..)))
theorem tsOf_get {P : List Ov} (h : ∀ x ∈ P, x.k = 1 ∨ x.k = 2 ∨ x.k = 3 ∨ x.k = 4) {j : Nat} (hj : j < 101) : (tsOf P).getD j 0 = 0 ∨ (tsOf P).getD j 0 = 1 ∨ (tsOf P).getD j 0 = 2 ∨ (tsOf P).getD j 0 = 4 := by
  have hl := tsOf_len P
  rw [List.getD_eq_getElem?_getD, List.getElem?_eq_getElem (by omega)]
  exact tsOf_in h _ (List.getElem_mem _)
theorem smT_zero {t : Int} (h : t = 0 ∨ t = 1 ∨ t = 2 ∨ t = 4) : smT t = 0 ↔ t = 0 := by
  rcases h with rfl | rfl | rfl | rfl <;> decide
theorem smT_same {t u : Int} (h : t = 0 ∨ t = 1 ∨ t = 2 ∨ t = 4) (h' : u = 1 ∨ u = 2 ∨ u = 4) : smT t = smT u ↔ t = u := by
  rcases h with rfl | rfl | rfl | rfl <;> rcases h' with rfl | rfl | rfl <;> decide
theorem smT_val {t : Int} (h : t = 0 ∨ t = 1 ∨ t = 2 ∨ t = 4) : smT t = 0 ∨ smT t = 1 ∨ smT t = 2 ∨ smT t = 3 := by
  rcases h with rfl | rfl | rfl | rfl <;> decide
theorem spT_val {k : Int} (h : k = 1 ∨ k = 2 ∨ k = 3 ∨ k = 4) : spT k = 1 ∨ spT k = 2 ∨ spT k = 3 := by
  rcases h with rfl | rfl | rfl | rfl <;> decide
/-- The row of things, by the specification. -/
def thR (P : List Ov) : List Int := (tsOf P).map smT
theorem thR_len (P : List Ov) : (thR P).length = 101 := by simp [thR, tsOf_len]
theorem thR_at (P : List Ov) {j : Nat} (hj : j < 101) : (thR P)[j]? = some (smT ((tsOf P).getD j 0)) := by
  have hl := tsOf_len P
  unfold thR
  rw [List.getElem?_map, List.getD_eq_getElem?_getD, List.getElem?_eq_getElem (by omega)]
  rfl
theorem thR_nil : thR [] = List.replicate 101 0 := by decide
theorem thR_snoc (P : List Ov) (x : Ov) (h : x.k = 1 ∨ x.k = 2 ∨ x.k = 3 ∨ x.k = 4) : thR (P ++ [x]) = (thR P).set x.o.toNat (spT x.k) := by
  unfold thR
  rw [tsOf_snoc, List.map_set, spT_eq h]
theorem suit_sp {P : List Ov} {x : Ov} {j : Nat} (hP : ∀ y ∈ P, y.k = 1 ∨ y.k = 2 ∨ y.k = 3 ∨ y.k = 4) (hx : x.k = 1 ∨ x.k = 2 ∨ x.k = 3 ∨ x.k = 4) (hj : j < 101) (ho : x.o = (j : Int)) :
    suitB P x = decide (smT ((tsOf P).getD j 0) = 0 ∨ smT ((tsOf P).getD j 0) = spT x.k) := by
  unfold suitB
  rw [ho, Int.toNat_natCast, spT_eq hx]
  have h := tsOf_get hP hj
  rw [decide_eq_decide, smT_zero h, smT_same h (thOf_in hx)]
theorem logI_all {L : List Ov} (hl : L.length ≤ 1024) (h : ∀ i, i < L.length → stepN L i = true) (h2 : ∀ q, q < L.length → causesB L (ovAt L q) = true ∧ suitB (L.take q) (ovAt L q) = true) : logI L = true :=
  logI_yes hl (fun i hi => by rw [stepI_split, h i hi, (h2 i hi).2]; rfl) fun i hi => (h2 i hi).1
theorem logI_stepN {L : List Ov} {i : Nat} (h : i < L.length) (hs : stepN L i = false) : logI L = false := logI_step h (by rw [stepI_split, hs]; rfl)
theorem logI_suit {L : List Ov} {i : Nat} (h : i < L.length) (hs : suitB (L.take i) (ovAt L i) = false) : logI L = false := logI_step h (by rw [stepI_split, hs, Bool.and_false])

end Go.Proofs.YtcjlihfkibpgoaaGreatDoor

namespace Go.Proofs.YtcjlihfkibpgoaaGreatDoor
open Go.RowKit
set_option linter.unusedVariables false

end Go.Proofs.YtcjlihfkibpgoaaGreatDoor

namespace Go.Proofs.YtcjlihfkibpgoaaGreatDoor
set_option linter.unusedVariables false

theorem byA_app (A B : List Ov) (a : Nat) : byA (A ++ B) a = byA A a ++ byA B a := List.filter_append ..
theorem byA_self {L : List Ov} {a : Nat} {M : List Ov} (h : ∀ x ∈ M, x.a = (a : Int)) : byA M a = M := by
  unfold byA
  rw [List.filter_eq_self]
  intro x hx
  exact decide_eq_true (h x hx)
theorem byA_other {a b : Nat} (hab : b ≠ a) {M : List Ov} (h : ∀ x ∈ M, x.a = (a : Int)) : byA M b = [] := by
  unfold byA
  rw [List.filter_eq_nil_iff]
  intro x hx
  have := h x hx
  simp
  omega
theorem byA_all {L : List Ov} {a : Nat} {x : Ov} (h : x ∈ byA L a) : x.a = (a : Int) := by
  have := (List.mem_filter.1 h).2
  simpa using this
theorem sorted_of {L : List Ov} (h : ∀ i, i < L.length → stepN L i = true) : L.Pairwise (fun x y => x.a ≤ y.a) := by
  rw [List.pairwise_iff_getElem]
  intro i j hi hj hij
  have := rising h j hj i (by omega)
  rwa [show ovAt L i = L[i] by have := ovAt_get hi; rw [List.getElem?_eq_getElem hi] at this; exact (Option.some.inj this).symm, show ovAt L j = L[j] by have := ovAt_get hj; rw [List.getElem?_eq_getElem hj] at this; exact (Option.some.inj this).symm] at this
/-- The i-th operation of an actor has the Seq i + 1. -/
theorem seq_at {L : List Ov} (h : ∀ i, i < L.length → stepN L i = true) (a : Nat) : ∀ q, q ≤ L.length → ∀ i, i < (byA (L.take q) a).length → (ovAt (byA (L.take q) a) i).s = (i : Int) + 1
  | 0, _, i, hi => absurd hi (by simp [byA])
  | q + 1, hq, i, hi => by
    have ih := seq_at h a q (by omega)
    rw [take_snoc (by omega), byA_snoc] at hi ⊢
    by_cases e : (ovAt L q).a = (a : Int)
    · rw [if_pos e] at hi ⊢
      rw [List.length_append, List.length_singleton] at hi
      by_cases l : i < (byA (L.take q) a).length
      · have : ovAt (byA (L.take q) a ++ [ovAt L q]) i = ovAt (byA (L.take q) a) i := by
          unfold ovAt
          rw [List.getD_eq_getElem?_getD, List.getElem?_append_left l, ← List.getD_eq_getElem?_getD]
        rw [this]
        exact ih i l
      · have hi' : i = (byA (L.take q) a).length := by omega
        have : ovAt (byA (L.take q) a ++ [ovAt L q]) i = ovAt L q := by
          subst hi'
          unfold ovAt
          rw [List.getD_eq_getElem?_getD, List.getElem?_append_right (Nat.le_refl _), Nat.sub_self]
          rfl
        rw [this, hi']
        have hp := (stepN_parts (h q (by omega))).2.1
        rw [e, Int.toNat_natCast] at hp
        exact hp
    · rw [if_neg e] at hi ⊢
      exact ih i hi
end Go.Proofs.YtcjlihfkibpgoaaGreatDoor
