/- The code's ledger: what isClosed answers. The code's ledgerOf, whole. What the code's LogOK answers. Logs, plain facts: operations by rising actor stand together; the specification's chain is the code's. Logs, plain facts: what the specification's LogOK asks of two neighbours, and of the objects. The specification's l08Causes answers as the ledger's hasCauses, of any log (the empty one too): its drawn region is walked once. A valid log by its actors: plain facts. The specification's l08Find where the log has no such operation. What is undone: plain facts. The code goes from an actor's last operation to its first and keeps a set of Seqs; the specification asks of each operation whether a later one of its actor undoes it. -/
import Derived.Deep.MidRow
import Derived.Test.YtmmkmkaannlkhaaGreatDoorQLedgerToLogFind
import Derived.Test.YtmmkmkaannlkhaaGreatDoorQOpComesToOpSpecBase
import Derived.Test.YtmmkmkaannlkhaaGreatDoorQQuietKeepToQuietPass
import Derived.Test.YtmmkmkaannlkhaaGreatDoorQOpNumsToRdCut
import Derived.Test.YtmmkmkaannlkhaaGreatDoorQTakeKitToBigKit
import Derived.Test.YtmmkmkaannlkhaaGreatDoorQOpOKToUndoDef
namespace Go.Proofs.YtmmkmkaannlkhaaGreatDoor
open Go.RowKit
set_option linter.unusedVariables false

theorem closed_no {P : List Ov} {x : Ov} (hx : x ∈ P) (h : causesB P x = false) : P.all (causesB P) = false := by
  rw [Bool.eq_false_iff]
  intro h'
  rw [List.all_eq_true] at h'
  rw [h' x hx] at h
  cases h
theorem byA_sub {P : List Ov} {a : Nat} {x : Ov} (h : x ∈ byA P a) : x ∈ P := (List.mem_filter.1 h).1
theorem closed_yes {P : List Ov} (ha : ∀ x ∈ P, 0 ≤ x.a ∧ x.a < 16) (h : ∀ a, a < 16 → ∀ q, q < (byA P a).length → causesB P (ovAt (byA P a) q) = true) : P.all (causesB P) = true := by
  rw [List.all_eq_true]
  intro x hx
  have h0 := ha x hx
  have hm : x ∈ byA P x.a.toNat := List.mem_filter.2 ⟨hx, decide_eq_true (by omega)⟩
  obtain ⟨q, hq, e⟩ := List.getElem_of_mem hm
  have h1 := h x.a.toNat (by omega) q hq
  have h2 := ovAt_get hq
  rw [List.getElem?_eq_getElem hq, e] at h2
  rwa [← Option.some.inj h2] at h1
theorem slice_size : (Tryz.prog.info? 33).map (·.size) = some 1 := by kernel_rfl
end Go.Proofs.YtmmkmkaannlkhaaGreatDoor

namespace Go.Proofs.YtmmkmkaannlkhaaGreatDoor
open Go.RowKit
set_option linter.unusedVariables false

def nextB (P : List Ov) (x : Ov) : Bool := decide (x.s = ((byA P x.a.toNat).length : Int) + 1)
def suitB (P : List Ov) (x : Ov) : Bool := decide ((tsOf P).getD x.o.toNat 0 = 0 ∨ (tsOf P).getD x.o.toNat 0 = thOf x.k)
/-- The i-th operation can stand behind those ahead of it. -/
def stepI (L : List Ov) (i : Nat) : Bool := (ovAt L i).ok && (nextB (L.take i) (ovAt L i) && (suitB (L.take i) (ovAt L i) && decide (0 < i → (ovAt L (i - 1)).a ≤ (ovAt L i).a)))
/-- A log is valid, as the code asks. -/
def logI (L : List Ov) : Bool := decide (L.length ≤ 1024) && ((List.range L.length).all (stepI L) && L.all (causesB L))
theorem logI_long {L : List Ov} (h : ¬ L.length ≤ 1024) : logI L = false := by simp [logI, h]
theorem logI_step {L : List Ov} {i : Nat} (h : i < L.length) (hs : stepI L i = false) : logI L = false := by
  have : (List.range L.length).all (stepI L) = false := by
    rw [Bool.eq_false_iff]
    intro h'
    rw [List.all_eq_true] at h'
    rw [h' i (List.mem_range.2 h)] at hs
    cases hs
  simp [logI, this]
theorem logI_cause {L : List Ov} {i : Nat} (h : i < L.length) (hs : causesB L (ovAt L i) = false) : logI L = false := by
  have : L.all (causesB L) = false := by
    rw [Bool.eq_false_iff]
    intro h'
    rw [List.all_eq_true] at h'
    rw [h' _ (ovAt_mem h)] at hs
    cases hs
  simp [logI, this]
theorem logI_yes {L : List Ov} (h : L.length ≤ 1024) (h1 : ∀ i, i < L.length → stepI L i = true) (h2 : ∀ i, i < L.length → causesB L (ovAt L i) = true) : logI L = true := by
  unfold logI
  rw [decide_eq_true h, List.all_eq_true.2 (fun i hi => h1 i (List.mem_range.1 hi)), List.all_eq_true.2 (fun x hx => by
    obtain ⟨i, hi, rfl⟩ := List.getElem_of_mem hx
    have := h2 i hi
    rwa [show ovAt L i = L[i] by have := ovAt_get hi; rw [List.getElem?_eq_getElem hi] at this; exact (Option.some.inj this).symm] at this)]
  rfl
theorem take_snoc {L : List Ov} {i : Nat} (h : i < L.length) : L.take (i + 1) = L.take i ++ [ovAt L i] := by
  rw [List.take_add_one, ovAt_get h]
  rfl
theorem ok_parts {x : Ov} (h : x.ok = true) : (0 ≤ x.a ∧ x.a < 16) ∧ (1 ≤ x.o ∧ x.o ≤ 100) ∧ vecOK x.ds = true := by
  unfold Ov.ok opB at h
  simp only [Bool.and_eq_true, decide_eq_true_eq] at h
  obtain ⟨h1, h2, h3, _⟩ := h
  unfold comesOK at h1
  simp only [Bool.and_eq_true] at h1
  have h4 := h1.1.1.1.1
  unfold stOK at h4
  simp only [decide_eq_true_eq] at h4
  exact ⟨⟨h4.2.2.1, h4.2.2.2⟩, ⟨h2, h3⟩, h1.1.2⟩
theorem step_mem {L : List Ov} (h : ∀ q, q < L.length → stepI L q = true) : ∀ x ∈ L, x.ok = true := by
  intro x hx
  obtain ⟨q, hq, e⟩ := List.getElem_of_mem hx
  have h1 := h q hq
  have h2 := ovAt_get hq
  rw [List.getElem?_eq_getElem hq, e] at h2
  unfold stepI at h1
  rw [← Option.some.inj h2] at h1
  simp only [Bool.and_eq_true] at h1
  exact h1.1
theorem Rd.one {C : Nat} {w : World} {v : Value} {cs : List Value} (h : Rd C w v cs) : v.oneCell' = true := by
  obtain ⟨ao, cap, rfl, _⟩ := h
  rfl

end Go.Proofs.YtmmkmkaannlkhaaGreatDoor

namespace Go.Proofs.YtmmkmkaannlkhaaGreatDoor
open Go.RowKit
set_option linter.unusedVariables false

end Go.Proofs.YtmmkmkaannlkhaaGreatDoor

namespace Go.Proofs.YtmmkmkaannlkhaaGreatDoor
open Go.RowKit
set_option linter.unusedVariables false

/-- The i-th operation is valid by itself and next behind those ahead of it. -/
def stepN (L : List Ov) (i : Nat) : Bool := (ovAt L i).ok && (nextB (L.take i) (ovAt L i) && decide (0 < i → (ovAt L (i - 1)).a ≤ (ovAt L i).a))
theorem stepI_split (L : List Ov) (i : Nat) : stepI L i = (stepN L i && suitB (L.take i) (ovAt L i)) := by
  unfold stepI stepN
  cases (ovAt L i).ok <;> cases nextB (L.take i) (ovAt L i) <;> cases suitB (L.take i) (ovAt L i) <;> simp
theorem stepN_parts {L : List Ov} {i : Nat} (h : stepN L i = true) : (ovAt L i).ok = true ∧ (ovAt L i).s = ((byA (L.take i) (ovAt L i).a.toNat).length : Int) + 1 ∧ (0 < i → (ovAt L (i - 1)).a ≤ (ovAt L i).a) := by
  unfold stepN nextB at h
  simp only [Bool.and_eq_true, decide_eq_true_eq] at h
  exact h
theorem rising {L : List Ov} {n : Nat} (h : ∀ i, i < n → stepN L i = true) : ∀ r, r < n → ∀ q, q ≤ r → (ovAt L q).a ≤ (ovAt L r).a := by
  intro r
  induction r with
  | zero => intro _ q hq; rw [show q = 0 by omega]; exact Int.le_refl _
  | succ r ih =>
    intro hr q hq
    by_cases e : q = r + 1
    · rw [e]; exact Int.le_refl _
    · have h1 := ih (by omega) q (by omega)
      have h2 := (stepN_parts (h (r + 1) hr)).2.2 (by omega)
      rw [show r + 1 - 1 = r by omega] at h2
      omega
theorem ovAt_take {L : List Ov} {i q : Nat} (h : q < i) (hi : i ≤ L.length) : ovAt (L.take i) q = ovAt L q := by
  unfold ovAt
  rw [List.getD_eq_getElem?_getD, List.getElem?_take_of_lt h, ← List.getD_eq_getElem?_getD]
theorem byA_none {L : List Ov} {i a : Nat} (hi : i ≤ L.length) (h : ∀ q, q < i → (ovAt L q).a ≠ (a : Int)) : byA (L.take i) a = [] := by
  unfold byA
  rw [List.filter_eq_nil_iff]
  intro x hx
  obtain ⟨q, hq, rfl⟩ := List.getElem_of_mem hx
  have hl : q < i := by rw [List.length_take] at hq; omega
  have := h q hl
  rw [← ovAt_take hl hi] at this
  rw [show (L.take i)[q] = ovAt (L.take i) q by have := ovAt_get hq; rw [List.getElem?_eq_getElem hq] at this; exact Option.some.inj this]
  simpa using this
theorem byA_one {L : List Ov} {i : Nat} (hi : i < L.length) {a : Nat} (ha : (ovAt L i).a = (a : Int)) : (byA (L.take (i + 1)) a).length = (byA (L.take i) a).length + 1 := by
  rw [take_snoc hi, byA_snoc, if_pos ha]
  simp
/-- What the specification asks of two neighbours is what the code asks. -/
theorem chain_zero {L : List Ov} : nextB (L.take 0) (ovAt L 0) = decide ((ovAt L 0).s = 1) := by
  unfold nextB
  simp [byA]
theorem chain_same {L : List Ov} {i : Nat} (hi : i + 1 < L.length) (h : ∀ q, q < i + 1 → stepN L q = true) (e : (ovAt L (i + 1)).a = (ovAt L i).a) : nextB (L.take (i + 1)) (ovAt L (i + 1)) = decide ((ovAt L (i + 1)).s = (ovAt L i).s + 1) := by
  have hp := stepN_parts (h i (by omega))
  have ha := (ok_parts hp.1).1
  have hn : (ovAt L i).a = (((ovAt L i).a.toNat : Nat) : Int) := by omega
  unfold nextB
  rw [e, byA_one (by omega) hn, hp.2.1]
  apply decide_eq_decide.2
  omega
theorem chain_more {L : List Ov} {i : Nat} (hi : i + 1 < L.length) (h : ∀ q, q < i + 1 → stepN L q = true) (hg : (ovAt L i).a < (ovAt L (i + 1)).a) : nextB (L.take (i + 1)) (ovAt L (i + 1)) = decide ((ovAt L (i + 1)).s = 1) := by
  have ha := (ok_parts (stepN_parts (h i (by omega))).1).1
  unfold nextB
  rw [byA_none (by omega) (fun q hq => by
    have := rising h i (by omega) q (by omega)
    omega)]
  simp

theorem split3 (a : Int) : ∀ (L : List Ov), L.Pairwise (fun x y => x.a ≤ y.a) → L = L.filter (fun x => decide (x.a < a)) ++ (L.filter (fun x => decide (x.a = a)) ++ L.filter (fun x => decide (a < x.a))) := by
  intro L
  induction L with
  | nil => intro _; rfl
  | cons x L ih =>
    intro h
    rw [List.pairwise_cons] at h
    have hi := ih h.2
    by_cases h1 : x.a < a
    · have h2 : ¬ x.a = a := by omega
      have h3 : ¬ a < x.a := by omega
      simp only [List.filter_cons, h1, h2, h3, decide_true, decide_false, if_true, if_false, Bool.false_eq_true, List.cons_append]
      rw [← hi]
    · have n1 : L.filter (fun x => decide (x.a < a)) = [] := by
        rw [List.filter_eq_nil_iff]
        intro y hy
        have := h.1 y hy
        simp
        omega
      by_cases h2 : x.a = a
      · have h3 : ¬ a < x.a := by omega
        rw [n1, List.nil_append] at hi
        simp only [List.filter_cons, h2, decide_true, decide_false, if_true, if_false, Bool.false_eq_true, Int.lt_irrefl]
        rw [n1, List.nil_append, List.cons_append, ← hi]
      · have h3 : a < x.a := by omega
        have n2 : L.filter (fun x => decide (x.a = a)) = [] := by
          rw [List.filter_eq_nil_iff]
          intro y hy
          have := h.1 y hy
          simp
          omega
        rw [n1, n2, List.nil_append, List.nil_append] at hi
        simp only [List.filter_cons, h1, h2, h3, decide_true, decide_false, if_true, if_false, Bool.false_eq_true]
        rw [n1, n2, List.nil_append, List.nil_append, ← hi]
theorem stand_of {L : List Ov} (h : ∀ i, i < L.length → stepN L i = true) (a : Nat) : ∃ i, Stand L a i := by
  have hpw : L.Pairwise (fun x y => x.a ≤ y.a) := by
    rw [List.pairwise_iff_getElem]
    intro i j hi hj hij
    have := rising h j hj i (by omega)
    rwa [show ovAt L i = L[i] by have := ovAt_get hi; rw [List.getElem?_eq_getElem hi] at this; exact (Option.some.inj this).symm, show ovAt L j = L[j] by have := ovAt_get hj; rw [List.getElem?_eq_getElem hj] at this; exact (Option.some.inj this).symm] at this
  have hs := split3 (a : Int) L hpw
  have hb : L.filter (fun x => decide (x.a = (a : Int))) = byA L a := rfl
  rw [hb] at hs
  have hlen : L.length = (L.filter (fun x => decide (x.a < (a : Int)))).length + ((byA L a).length + (L.filter (fun x => decide ((a : Int) < x.a))).length) := by
    have := congrArg List.length hs
    simpa using this
  have at_lo : ∀ q, q < (L.filter (fun x => decide (x.a < (a : Int)))).length → ovAt L q ∈ L.filter (fun x => decide (x.a < (a : Int))) := fun q hq => by
    have : L[q]? = (L.filter (fun x => decide (x.a < (a : Int))))[q]? := by
      rw [← List.getElem?_append_left (l₂ := byA L a ++ L.filter (fun x => decide ((a : Int) < x.a))) hq, ← hs]
    rw [ovAt_get (by omega)] at this
    exact List.mem_of_getElem? this.symm
  have at_mid : ∀ q, q < (byA L a).length → L[(L.filter (fun x => decide (x.a < (a : Int)))).length + q]? = (byA L a)[q]? := fun q hq => by
    rw [← List.getElem?_append_left (l₂ := L.filter (fun x => decide ((a : Int) < x.a))) hq]
    have := List.getElem?_append_right (l₁ := L.filter (fun x => decide (x.a < (a : Int)))) (l₂ := byA L a ++ L.filter (fun x => decide ((a : Int) < x.a))) (i := (L.filter (fun x => decide (x.a < (a : Int)))).length + q) (by omega)
    rw [← hs, Nat.add_sub_cancel_left] at this
    exact this
  refine ⟨(L.filter (fun x => decide (x.a < (a : Int)))).length, fun q hq => ?_, fun q hq => ?_, by omega⟩
  · have := List.mem_filter.1 (at_lo q hq)
    have h2 := this.2
    simp at h2
    omega
  · have h1 := at_mid q hq
    rw [ovAt_get (by omega), ovAt_get hq] at h1
    have h2 := Option.some.inj h1
    refine ⟨h2, ?_⟩
    rw [h2]
    have := List.mem_filter.1 (show ovAt (byA L a) q ∈ L.filter (fun x => decide (x.a = (a : Int))) from ovAt_mem hq)
    simpa using this.2
end Go.Proofs.YtmmkmkaannlkhaaGreatDoor

namespace Go.Proofs.YtmmkmkaannlkhaaGreatDoor
open Go.RowKit
set_option linter.unusedVariables false

theorem good_at {L : List Ov} {i : Nat} (hi : i < L.length) (h : ∀ q, q < i + 1 → stepN L q = true) :
    (ovAt L i).ok = true ∧ (i = 0 ∧ (ovAt L i).s = 1 ∨ ∃ j, i = j + 1 ∧ ((ovAt L i).a = (ovAt L j).a ∧ (ovAt L i).s = (ovAt L j).s + 1 ∨ (ovAt L j).a < (ovAt L i).a ∧ (ovAt L i).s = 1)) := by
  have hs := h i (by omega)
  have hp := stepN_parts hs
  refine ⟨hp.1, ?_⟩
  have hn : nextB (L.take i) (ovAt L i) = true := decide_eq_true hp.2.1
  by_cases h0 : i = 0
  · subst h0
    rw [chain_zero] at hn
    exact .inl ⟨rfl, of_decide_eq_true hn⟩
  · obtain ⟨j, rfl⟩ : ∃ j, i = j + 1 := ⟨i - 1, by omega⟩
    refine .inr ⟨j, rfl, ?_⟩
    have hle := hp.2.2 (by omega)
    rw [show j + 1 - 1 = j by omega] at hle
    by_cases e : (ovAt L (j + 1)).a = (ovAt L j).a
    · rw [chain_same hi (fun q hq => h q (by omega)) e] at hn
      exact .inl ⟨e, of_decide_eq_true hn⟩
    · rw [chain_more hi (fun q hq => h q (by omega)) (by omega)] at hn
      exact .inr ⟨by omega, of_decide_eq_true hn⟩
theorem bad_at {L : List Ov} {i : Nat} (hi : i < L.length) (h : ∀ q, q < i → stepN L q = true) (hb : stepN L i = false) :
    (ovAt L i).ok = false ∨ ((ovAt L i).ok = true ∧ (i = 0 ∧ ¬ (ovAt L i).s = 1 ∨ ∃ j, i = j + 1 ∧ ((ovAt L i).a = (ovAt L j).a ∧ ¬ (ovAt L i).s = (ovAt L j).s + 1 ∨ (ovAt L i).a < (ovAt L j).a ∧ (ovAt L i).s = 1 ∨ (ovAt L i).a < (ovAt L j).a ∧ ¬ (ovAt L i).s = 1 ∨ (ovAt L j).a < (ovAt L i).a ∧ ¬ (ovAt L i).s = 1))) := by
  cases hok : (ovAt L i).ok with
  | false => exact .inl rfl
  | true =>
    refine .inr ⟨rfl, ?_⟩
    unfold stepN at hb
    rw [hok, Bool.true_and] at hb
    by_cases h0 : i = 0
    · subst h0
      rw [chain_zero, decide_eq_true (fun h => absurd h (by omega) : 0 < 0 → (ovAt L (0 - 1)).a ≤ (ovAt L 0).a), Bool.and_true] at hb
      exact .inl ⟨rfl, of_decide_eq_false hb⟩
    · obtain ⟨j, rfl⟩ : ∃ j, i = j + 1 := ⟨i - 1, by omega⟩
      refine .inr ⟨j, rfl, ?_⟩
      rw [show j + 1 - 1 = j by omega] at hb
      by_cases e : (ovAt L (j + 1)).a = (ovAt L j).a
      · rw [chain_same hi h e, decide_eq_true (fun _ => by omega : 0 < j + 1 → (ovAt L j).a ≤ (ovAt L (j + 1)).a), Bool.and_true] at hb
        exact .inl ⟨e, of_decide_eq_false hb⟩
      · by_cases l : (ovAt L (j + 1)).a < (ovAt L j).a
        · by_cases s : (ovAt L (j + 1)).s = 1
          · exact .inr (.inl ⟨l, s⟩)
          · exact .inr (.inr (.inl ⟨l, s⟩))
        · rw [chain_more hi h (by omega), decide_eq_true (fun _ => by omega : 0 < j + 1 → (ovAt L j).a ≤ (ovAt L (j + 1)).a), Bool.and_true] at hb
          exact .inr (.inr (.inr ⟨by omega, of_decide_eq_false hb⟩))
theorem first_bad (p : Nat → Bool) : ∀ n, (∀ q, q < n → p q = true) ∨ ∃ f, f < n ∧ (∀ q, q < f → p q = true) ∧ p f = false
  | 0 => .inl fun q hq => absurd hq (by omega)
  | n + 1 => by
    rcases first_bad p n with h | ⟨f, hf, h1, h2⟩
    · cases hn : p n with
      | false => exact .inr ⟨n, by omega, h, hn⟩
      | true =>
        refine .inl fun q hq => ?_
        by_cases e : q = n
        · rw [e]; exact hn
        · exact h q (by omega)
    · exact .inr ⟨f, by omega, h1, h2⟩
theorem seq_bound {L : List Ov} {i : Nat} (h : stepN L i = true) : 1 ≤ (ovAt L i).s ∧ (ovAt L i).s ≤ 1000000000000 := by
  have := (stepN_parts h).1
  unfold Ov.ok opB comesOK at this
  simp only [Bool.and_eq_true, decide_eq_true_eq] at this
  omega
theorem stepN_mem {L : List Ov} (h : ∀ q, q < L.length → stepN L q = true) : ∀ x ∈ L, x.ok = true := by
  intro x hx
  obtain ⟨q, hq, e⟩ := List.getElem_of_mem hx
  have h1 := (stepN_parts (h q hq)).1
  have h2 := ovAt_get hq
  rw [List.getElem?_eq_getElem hq, e] at h2
  rwa [← Option.some.inj h2] at h1
theorem ok_kind {x : Ov} (h : x.ok = true) : x.k = 1 ∨ x.k = 2 ∨ x.k = 3 ∨ x.k = 4 := by
  unfold Ov.ok opB at h
  simp only [Bool.and_eq_true] at h
  have h1 := h.2.2.2.2.2.2.2
  unfold saysOK at h1
  by_cases k1 : x.k = 1
  · exact .inl k1
  · by_cases k2 : x.k = 2
    · exact .inr (.inl k2)
    · by_cases k3 : x.k = 3
      · exact .inr (.inr (.inl k3))
      · by_cases k4 : x.k = 4
        · exact .inr (.inr (.inr k4))
        · simp [k1, k2, k3, k4] at h1

/-- What the specification calls a thing. -/
def smT (t : Int) : Int := if t = 4 then 3 else t
/-- What kind of thing a kind belongs to, by the specification. -/
def spT (k : Int) : Int := if k = 1 then 1 else if k = 2 ∨ k = 3 then 2 else 3
theorem spT_eq {k : Int} (h : k = 1 ∨ k = 2 ∨ k = 3 ∨ k = 4) : spT k = smT (thOf k) := by
  rcases h with rfl | rfl | rfl | rfl <;> rfl
theorem thOf_in {k : Int} (h : k = 1 ∨ k = 2 ∨ k = 3 ∨ k = 4) : thOf k = 1 ∨ thOf k = 2 ∨ thOf k = 4 := by
  rcases h with rfl | rfl | rfl | rfl
  · exact .inl rfl
  · exact .inr (.inl rfl)
  · exact .inr (.inl rfl)
  · exact .inr (.inr rfl)
theorem tsOf_in {P : List Ov} (h : ∀ x ∈ P, x.k = 1 ∨ x.k = 2 ∨ x.k = 3 ∨ x.k = 4) : ∀ t ∈ tsOf P, t = 0 ∨ t = 1 ∨ t = 2 ∨ t = 4 := by
  unfold tsOf
  have h0 : ∀ t ∈ List.replicate 101 (0 : Int), t = 0 ∨ t = 1 ∨ t = 2 ∨ t = 4 := fun t ht => .inl (List.eq_of_mem_replicate ht)
  revert h0
  generalize List.replicate 101 (0 : Int) = ts
  intro h0
  induction P generalizing ts with
  | nil => exact h0
  | cons x P ih =>
    refine ih (fun y hy => h y (List.mem_cons_of_mem _ hy)) _ (fun t ht => ?_)
    rcases List.mem_or_eq_of_mem_set ht with ht | rfl
    · exact h0 t ht
    · exact .inr (thOf_in (h x (List.mem_cons_self ..)))
theorem tsOf_get {P : List Ov} (h : ∀ x ∈ P, x.k = 1 ∨ x.k = 2 ∨ x.k = 3 ∨ x.k = 4) {j : Nat} (hj : j < 101) : (tsOf P).getD j 0 = 0 ∨ (tsOf P).getD j 0 = 1 ∨ (tsOf P).getD j 0 = 2 ∨ (tsOf P).getD j 0 = 4 := by
  have hl := tsOf_len P
  rw [List.getD_eq_getElem?_getD, List.getElem?_eq_getElem (by omega)]
  exact tsOf_in h _ (List.getElem_mem _)
theorem smT_zero {t : Int} (h : t = 0 ∨ t = 1 ∨ t = 2 ∨ t = 4) : smT t = 0 ↔ t = 0 := by
  rcases h with rfl | rfl | rfl | rfl <;> decide
theorem smT_same {t u : Int} (h : t = 0 ∨ t = 1 ∨ t = 2 ∨ t = 4) (h' : u = 1 ∨ u = 2 ∨ u = 4) : smT t = smT u ↔ t = u := by
  rcases h with rfl | rfl | rfl | rfl <;> rcases h' with rfl | rfl | rfl <;> decide
theorem smT_val {t : Int} (h : t = 0 ∨ t = 1 ∨ t = 2 ∨ t = 4) : smT t = 0 ∨ smT t = 1 ∨ smT t = 2 ∨ smT t = 3 := by
  rcases h with rfl | rfl | rfl | rfl <;> decide
theorem spT_val {k : Int} (h : k = 1 ∨ k = 2 ∨ k = 3 ∨ k = 4) : spT k = 1 ∨ spT k = 2 ∨ spT k = 3 := by
  rcases h with rfl | rfl | rfl | rfl <;> decide
/-- The row of things, by the specification. -/
def thR (P : List Ov) : List Int := (tsOf P).map smT
theorem thR_len (P : List Ov) : (thR P).length = 101 := by simp [thR, tsOf_len]
theorem thR_at (P : List Ov) {j : Nat} (hj : j < 101) : (thR P)[j]? = some (smT ((tsOf P).getD j 0)) := by
  have hl := tsOf_len P
  unfold thR
  rw [List.getElem?_map, List.getD_eq_getElem?_getD, List.getElem?_eq_getElem (by omega)]
  rfl
theorem thR_nil : thR [] = List.replicate 101 0 := by decide
theorem thR_snoc (P : List Ov) (x : Ov) (h : x.k = 1 ∨ x.k = 2 ∨ x.k = 3 ∨ x.k = 4) : thR (P ++ [x]) = (thR P).set x.o.toNat (spT x.k) := by
  unfold thR
  rw [tsOf_snoc, List.map_set, spT_eq h]
theorem suit_sp {P : List Ov} {x : Ov} {j : Nat} (hP : ∀ y ∈ P, y.k = 1 ∨ y.k = 2 ∨ y.k = 3 ∨ y.k = 4) (hx : x.k = 1 ∨ x.k = 2 ∨ x.k = 3 ∨ x.k = 4) (hj : j < 101) (ho : x.o = (j : Int)) :
    suitB P x = decide (smT ((tsOf P).getD j 0) = 0 ∨ smT ((tsOf P).getD j 0) = spT x.k) := by
  unfold suitB
  rw [ho, Int.toNat_natCast, spT_eq hx]
  have h := tsOf_get hP hj
  rw [decide_eq_decide, smT_zero h, smT_same h (thOf_in hx)]
theorem logI_all {L : List Ov} (hl : L.length ≤ 1024) (h : ∀ i, i < L.length → stepN L i = true) (h2 : ∀ q, q < L.length → causesB L (ovAt L q) = true ∧ suitB (L.take q) (ovAt L q) = true) : logI L = true :=
  logI_yes hl (fun i hi => by rw [stepI_split, h i hi, (h2 i hi).2]; rfl) fun i hi => (h2 i hi).1
theorem logI_stepN {L : List Ov} {i : Nat} (h : i < L.length) (hs : stepN L i = false) : logI L = false := logI_step h (by rw [stepI_split, hs]; rfl)
theorem logI_suit {L : List Ov} {i : Nat} (h : i < L.length) (hs : suitB (L.take i) (ovAt L i) = false) : logI L = false := logI_step h (by rw [stepI_split, hs, Bool.and_false])

set_option maxHeartbeats 400000 in
theorem l08Thing_any (k : Int) (w : World) : Calls Tryz.prog 106 #[.int .i64 k] w fun e w' => e = .returned (.int .i64 (spT k)) ∧ w' = w := by
  unfold spT
  by_cases h1 : k = 1
  · subst h1
    go_enter Tryz.func106, Tryz.ntmps106
    go_wp2_with fail
    go_ret
    exact ⟨rfl, rfl⟩
  · by_cases h2 : k = 2
    · subst h2
      go_enter Tryz.func106, Tryz.ntmps106
      go_wp2_with fail
      go_ret
      exact ⟨rfl, rfl⟩
    · by_cases h3 : k = 3
      · subst h3
        go_enter Tryz.func106, Tryz.ntmps106
        go_wp2_with fail
        go_ret
        exact ⟨rfl, rfl⟩
      · have e1 : (k == 1) = false := by simpa using h1
        have e2 : (k == 2) = false := by simpa using h2
        have e3 : (k == 3) = false := by simpa using h3
        rw [if_neg h1, if_neg (by omega)]
        clear h1 h2 h3
        go_enter Tryz.func106, Tryz.ntmps106
        go_wp2_with fail
        go_ret
        exact ⟨rfl, rfl⟩
end Go.Proofs.YtmmkmkaannlkhaaGreatDoor

namespace Go.Proofs.YtmmkmkaannlkhaaGreatDoor
open Go.RowKit
set_option linter.unusedVariables false

set_option maxHeartbeats 4000000 in
set_option maxRecDepth 100000 in
theorem l08Causes_all (C : Nat) (w : World) (v vv : Value) (L : List Ov) (x : Ov) (hC : C ≤ w.heap.size) (hr : RdO C w v L) (hl : L.length ≤ 1024) (hvv : Rd C w vv ((cnts L).map (Value.int .i64))) (hxd : Rd C w x.dv (x.ds.map (Value.int .i64))) (hv : vecOK x.ds = true) (hSt : ∀ a, a < 16 → ∃ i, Stand L a i) :
    Calls Tryz.prog 71 #[v, .agg #[vv], .agg x.cs.toArray] w fun e w' => e = .returned (.bool (causesB L x)) ∧ Below w.heap.size w w' := by
  have HNO : Hid (∀ a, a < 16 → causeOK L x a = false → causesB L x = false) := fun a ha h => by
    rw [causesB, Bool.eq_false_iff]
    intro h'
    rw [List.all_eq_true] at h'
    rw [h' a (List.mem_range.2 ha)] at h
    cases h
  have HYES : Hid ((∀ a, a < 16 → causeOK L x a = true) → causesB L x = true) := fun h => by
    rw [causesB, List.all_eq_true]
    exact fun a ha => h a (List.mem_range.1 ha)
  have l16 := vec_16 hv
  have HD : Hid (∀ a, a < 16 → 0 ≤ x.ds.getD a 0 ∧ x.ds.getD a 0 ≤ 1000000000000) := fun a ha => by
    unfold vecOK at hv
    simp only [Bool.and_eq_true, List.all_eq_true] at hv
    have := hv.2 (x.ds.getD a 0) (by rw [List.getD_eq_getElem?_getD, List.getElem?_eq_getElem (by omega)]; exact List.getElem_mem _)
    unfold cOK at this
    simpa using this
  have HLE : Hid (∀ a, (byA L a).length ≤ 1024) := fun a => Nat.le_trans (List.length_filter_le _ _) hl
  have HFIND : Hid (∀ (a i m : Nat) (w1 : World), Below w.heap.size w w1 → Stand L a i → m < (byA L a).length → Calls Tryz.prog 68 #[v, .int .i64 (a : Int), .int .i64 ((m + 1 : Nat) : Int)] w1 fun e w' => e = .returned (.int .i64 ((i + m : Nat) : Int)) ∧ Below w1.heap.size w1 w') := fun a i m w1 h hs hm => (l08Find_any C w1 v L a i m (by have := h.size; omega) (hr.below (h.mono hC)) hl hs hm).mono (by rintro e w' ⟨rfl, rfl⟩; exact ⟨rfl, Below.refl _ _⟩)
  have HST : Hid (∀ a, a < 16 → ∃ i, Stand L a i) := hSt
  obtain ⟨⟨ao, cap, rfl, hcap', hmax', hnil', hrow⟩, _⟩ := hr
  have HROW : Hid (0 < L.length → ∃ g off, ao = some ⟨g, off, none⟩ ∧ g < C ∧ ∀ k, k < L.length → w.rangeAt g (off + k * 12) (ovAt L k).cs) := fun h => by
    obtain ⟨g, off, e, hg, hc⟩ := hrow h
    exact ⟨g, off, e, hg, fun k hk => opAt_range (hc k hk)⟩
  obtain ⟨ad, cd, hdv, hcap, hmax, hnil, hrr⟩ := hxd
  rw [List.length_map] at hrr hcap hdv
  obtain ⟨gd, od, rfl, hgd0, hc⟩ := hrr (by omega)
  rw [l16] at hdv
  obtain ⟨av, cv, hvv', hcapv, hmaxv, hnilv, hrv⟩ := hvv
  rw [List.length_map, cnts_len] at hrv hcapv hvv'
  obtain ⟨gv, ov, rfl, hgv0, hcv⟩ := hrv (by omega)
  subst hvv'
  have HDC : Hid (∀ a, a < 16 → w.cell? ⟨gd, od + a, none⟩ = some (.int .i64 (x.ds.getD a 0))) := fun a ha => hc a _ (by rw [List.getElem?_map, List.getD_eq_getElem?_getD, List.getElem?_eq_getElem (by omega)]; rfl)
  have HVC : Hid (∀ a, a < 16 → w.cell? ⟨gv, ov + a, none⟩ = some (.int .i64 ((byA L a).length : Int))) := fun a ha => hcv a _ (by rw [List.getElem?_map, cnts_at L ha]; rfl)
  have hgd : gd < w.heap.size := by omega
  have hgv : gv < w.heap.size := by omega
  obtain ⟨r, HR⟩ : ∃ r, Hid (causesB L x = r) := ⟨_, rfl⟩
  rw [HR.out]
  have HK : Hid (∀ a, causeOK L x a = (decide (x.ds.getD a 0 ≤ ((byA L a).length : Int)) && (decide (x.ds.getD a 0 ≤ 0) || lessS (ovAt (byA L a) (x.ds.getD a 0 - 1).toNat).t (ovAt (byA L a) (x.ds.getD a 0 - 1).toNat).a x.t x.a))) := fun _ => rfl
  have HSX : Hid (∀ w1, Calls Tryz.prog 29 #[.agg x.cs.toArray] w1 fun e w' => e = .returned (.agg #[.int .i64 x.t, .int .i64 x.a]) ∧ Below w1.heap.size w1 w') := fun w1 => l08Stamp_any _ _ _ _ _ _ _ _ _ _ _ _ _
  have HIX : Hid ((Tryz.prog.info? 29).map (·.size) = some x.cs.length) := infoOpB x
  have HB0 : Hid (Below w.heap.size w ((w.alloc (.cells #[.slice (some ⟨gv, ov, none⟩) 16 cv] 25)).alloc (.cells x.cs.toArray 29))) := below_then (below_alloc _ _) _
  have HV0 : Hid (∀ w1, Below ((w.alloc (.cells #[.slice (some ⟨gv, ov, none⟩) 16 cv] 25)).alloc (.cells x.cs.toArray 29)).heap.size ((w.alloc (.cells #[.slice (some ⟨gv, ov, none⟩) 16 cv] 25)).alloc (.cells x.cs.toArray 29)) w1 → w1.cell? ⟨w.heap.size, 0, none⟩ = some (.slice (some ⟨gv, ov, none⟩) 16 cv)) := fun w1 h => cell_made1 (below_seq (below_alloc _ _) h)
  have HP0 : Hid (∀ w1, Below ((w.alloc (.cells #[.slice (some ⟨gv, ov, none⟩) 16 cv] 25)).alloc (.cells x.cs.toArray 29)).heap.size ((w.alloc (.cells #[.slice (some ⟨gv, ov, none⟩) 16 cv] 25)).alloc (.cells x.cs.toArray 29)) w1 → OpBlk w1 (w.heap.size + 1) x) := fun w1 h => by
    have h2 := heap_alloc_new (w.alloc (.cells #[.slice (some ⟨gv, ov, none⟩) 16 cv] 25)) (.cells x.cs.toArray 29)
    rw [World.size_alloc] at h2
    exact (h.block (w.heap.size + 1) (by rw [World.size_alloc, World.size_alloc]; omega)).trans h2
  have hb0 := Below.refl ((w.alloc (.cells #[.slice (some ⟨gv, ov, none⟩) 16 cv] 25)).alloc (.cells x.cs.toArray 29)).heap.size ((w.alloc (.cells #[.slice (some ⟨gv, ov, none⟩) 16 cv] 25)).alloc (.cells x.cs.toArray 29))
  obtain ⟨xa, xs, xt, xdv, xk, xo, xn, xu, xpt, xpa, xky, xtx, xds⟩ := x
  simp only [Ov.cs] at HB0 HV0 HP0 hb0 ⊢
  simp only at hdv HD HDC HK l16 HSX
  subst hdv
  clear hrr hc hnil hcap hrv hcv hrow hgd0 hgv0 hcapv hnilv hnil' hv l16 hSt
  go_enter Tryz.func71, Tryz.ntmps71
  go_wp2_with fail
  generalize ((w.alloc (.cells #[.slice (some ⟨gv, ov, none⟩) 16 cv] 25)).alloc (.cells #[.int .i64 xa, .int .i64 xs, .int .i64 xt, .slice (some ⟨gd, od, none⟩) 16 cd, .int .i64 xk, .int .i64 xo, .int .i64 xn, .int .i64 xu, .int .i64 xpt, .int .i64 xpa, .string xky, .string xtx] 29)) = w0 at HB0 HV0 HP0 hb0 ⊢
  go_loopw [7] (fun ti wr => ∃ k : Nat, k ≤ 16 ∧ ti = .int .i64 (k : Int) ∧ Below w0.heap.size w0 wr ∧ Hid (∀ a, a < k → causeOK L ⟨xa, xs, xt, .slice (some ⟨gd, od, none⟩) 16 cd, xk, xo, xn, xu, xpt, xpa, xky, xtx, xds⟩ a = true)) (fun ti _ => 16 - (intOf ti).toNat)
  case atStart => exact ⟨0, by omega, rfl, hb0, fun a ha => absurd ha (by omega)⟩
  case round =>
    obtain ⟨k, hk, rfl, hB, HA⟩ := hrel
    clear hb0
    by_cases hlt : k < 16
    · have hki : (k : Int) < 16 := by omega
      have hbb := below_seq HB0.out hB
      have hsz := hbb.size
      have cd1 : wr.cell? ⟨gd, od + k, none⟩ = some (.int .i64 (xds.getD k 0)) := (hbb.cell (p := ⟨gd, od + k, none⟩) hgd).trans (HDC.out k hlt)
      have cv1 : wr.cell? ⟨gv, ov + k, none⟩ = some (.int .i64 ((byA L k).length : Int)) := (hbb.cell (p := ⟨gv, ov + k, none⟩) hgv).trans (HVC.out k hlt)
      have v0 := HV0.out wr hB
      have p3 : wr.cell? ⟨w.heap.size + 1, 3, none⟩ = some (.slice (some ⟨gd, od, none⟩) 16 cd) := by
        have := opBlk_range (HP0.out wr hB) 3 _ rfl
        rwa [Nat.zero_add] at this
      have hd := HD.out k hlt
      have hm := HLE.out k
      have HKk := HK.out k
      have HNk : Hid (causeOK L ⟨xa, xs, xt, .slice (some ⟨gd, od, none⟩) 16 cd, xk, xo, xn, xu, xpt, xpa, xky, xtx, xds⟩ k = false → r = false) := fun h => HR.out.symm.trans (HNO.out k hlt h)
      have HAk : Hid (causeOK L ⟨xa, xs, xt, .slice (some ⟨gd, od, none⟩) 16 cd, xk, xo, xn, xu, xpt, xpa, xky, xtx, xds⟩ k = true → Hid (∀ a, a < k + 1 → causeOK L ⟨xa, xs, xt, .slice (some ⟨gd, od, none⟩) 16 cd, xk, xo, xn, xu, xpt, xpa, xky, xtx, xds⟩ a = true)) := fun h a ha => by
        by_cases e : a = k
        · subst e; exact h
        · exact HA.out a (by omega)
      generalize causeOK L ⟨xa, xs, xt, .slice (some ⟨gd, od, none⟩) 16 cd, xk, xo, xn, xu, xpt, xpa, xky, xtx, xds⟩ k = ck at HKk HNk HAk
      generalize xds.getD k 0 = d at *
      by_cases h1 : ((byA L k).length : Int) < d
      · have HE : Hid (r = false) := HNk.out (by rw [HKk, decide_eq_false (by omega)]; rfl)
        generalize (byA L k).length = m at *
        clear HKk HNk HAk HA
        go_wp2_with fail
        go_ret
        exact ⟨by rw [HE.out]; rfl, hbb⟩
      · by_cases h2 : d ≤ 0
        · have HE := HAk.out (by rw [HKk, decide_eq_true (by omega : d ≤ ((byA L k).length : Int)), decide_eq_true h2]; rfl)
          generalize (byA L k).length = m at *
          have h2' : decide (0 < d) = false := by simp; omega
          clear HKk HNk HAk HA h2
          go_wp2_with fail
          have hne := kept_some wr
          have HBW : Hid (∀ p : KeptBy wr, Below w0.heap.size w0 p.W) := fun p => below_seq hB p.kept
          clear cd1 cv1 v0 p3 hd hm h1 hbb hB hsz
          refine wp_region_kept (by kernel_rfl) (by kernel_rfl) ?_
          iterate 3 (quiet_step (fail))
          iterate 12 (with_reducible refine quiet_pass (by kernel_rfl) ?_)
          simp only [tkS, Act.put]
          quiet_step (fail)
          refine wpQuiet_nil ?_
          rintro _ ⟨p, rfl⟩
          have hbp := HBW.out p
          go_wp2_with fail
          go_roundw
          case rel => exact ⟨k + 1, by omega, by go_num, hbp, HE⟩
          case measure => simp [intOf]; omega
        · obtain ⟨q, hdq⟩ : ∃ q : Nat, d = ((q + 1 : Nat) : Int) := ⟨(d - 1).toNat, by omega⟩
          have hq : q < (byA L k).length := by omega
          obtain ⟨i, hS⟩ := HST.out k hlt
          have hfit := hS.fit
          have hy := (hS.yes q hq).1
          have hpl0 : i + q < L.length := by omega
          obtain ⟨g, off, rfl, hg, hcs⟩ := HROW.out (by omega)
          have hyr := hcs (i + q) hpl0
          have hpl : ((i + q : Nat) : Int) < (L.length : Int) := by omega
          have hF := fun p : KeptBy wr => kept_of (HFIND.out k i q p.W (below_seq hbb p.kept) hS hq)
          rw [← hdq] at hF
          have HF : Hid _ := hF
          have HNQ : Hid (ck = (decide (d ≤ ((byA L k).length : Int)) && (decide (d ≤ 0) || lessS (ovAt L (i + q)).t (ovAt L (i + q)).a xt xa))) := by
            unfold Hid
            rw [HKk, hy, show (d - 1).toNat = q by omega]
          have HYR : Hid (∀ p : KeptBy wr, p.W.rangeAt g (off + (i + q) * 12) (ovAt L (i + q)).cs) := fun p j u hj => ((below_seq hbb p.kept).cell (p := ⟨g, _, none⟩) (by show g < w.heap.size; omega)).trans (hyr j u hj)
          have HXR : Hid (∀ p : KeptBy wr, p.W.rangeAt (w.heap.size + 1) 0 (Ov.cs ⟨xa, xs, xt, .slice (some ⟨gd, od, none⟩) 16 cd, xk, xo, xn, xu, xpt, xpa, xky, xtx, xds⟩)) := fun p => opBlk_range (HP0.out p.W (below_seq hB p.kept))
          have HSY : Hid (∀ p : KeptBy wr, Calls Tryz.prog 29 #[.agg (ovAt L (i + q)).cs.toArray] p.W fun e w'' => e = .returned (.agg #[.int .i64 (ovAt L (i + q)).t, .int .i64 (ovAt L (i + q)).a]) ∧ ∃ p : KeptBy wr, w'' = p.W) := fun p => kept_of (l08Stamp_any _ _ _ _ _ _ _ _ _ _ _ _ _)
          have HSXp : Hid (∀ p : KeptBy wr, _) := fun p => kept_of (HSX.out p.W)
          have HLs : Hid (∀ p : KeptBy wr, _) := fun p => kept_of (specStampLess_any (ovAt L (i + q)).t (ovAt L (i + q)).a xt xa p.W)
          have HIY : Hid ((Tryz.prog.info? 29).map (·.size) = some (ovAt L (i + q)).cs.length) := infoOpB _
          have HBW : Hid (∀ p : KeptBy wr, Below w0.heap.size w0 p.W) := fun p => below_seq hB p.kept
          obtain ⟨b, HBB⟩ : ∃ b, Hid (lessS (ovAt L (i + q)).t (ovAt L (i + q)).a xt xa = b) := ⟨_, rfl⟩
          rw [HBB.out] at HLs HNQ
          have hq1 : decide (((byA L k).length : Int) < d) = false := by simp; omega
          have HNQ2 : Hid (ck = b) := by
            unfold Hid
            rw [HNQ.out, decide_eq_true (by omega : d ≤ ((byA L k).length : Int)), decide_eq_false (by omega : ¬ d ≤ 0)]
            simp
          have h0q : decide ((0 : Int) < d) = true := by simp; omega
          clear HKk HNQ hF hyr hcs hy hS hfit HFIND HST HROW HD HDC HVC HLE HK hq HBB hpl0 h1 h2 hm hd HA hdq
          generalize (byA L k).length = m at *
          generalize ovAt L (i + q) = y at *
          generalize i + q = z at *
          go_wp2_with fail
          have hne := kept_some wr
          clear cd1 cv1 v0 p3 hbb hB hsz hq1
          refine wp_region_kept (by kernel_rfl) (by kernel_rfl) ?_
          iterate 7 (quiet_step (fail))
          quiet_step ((go_at_call 68; exact HF.out _))
          quiet_step (fail)
          refine quiet_load 29 _ g (off + z * 12) y.cs _ (fun w' ⟨p, hp⟩ => by rw [hp]; exact HYR.out p) Tryz.underlying29 rfl HIY.out ?_
          simp only [tkS, Act.put]
          quiet_step ((go_at_call 29; exact HSY.out _))
          refine quiet_load 29 _ (w.heap.size + 1) 0 (Ov.cs ⟨xa, xs, xt, .slice (some ⟨gd, od, none⟩) 16 cd, xk, xo, xn, xu, xpt, xpa, xky, xtx, xds⟩) _ (fun w' ⟨p, hp⟩ => by rw [hp]; exact HXR.out p) Tryz.underlying29 rfl HIX.out ?_
          simp only [tkS, Act.put]
          quiet_step ((go_at_call 29; exact HSXp.out _))
          quiet_step ((go_at_call 33; exact HLs.out _))
          iterate 2 (quiet_step (fail))
          refine wpQuiet_nil ?_
          rintro _ ⟨p, rfl⟩
          have hbp := HBW.out p
          cases b with
          | false =>
            have HE : Hid (r = false) := HNk.out HNQ2.out
            go_wp2_with fail
            go_ret
            exact ⟨by rw [HE.out]; rfl, below_seq HB0.out hbp⟩
          | true =>
            have HE := HAk.out HNQ2.out
            go_wp2_with fail
            go_roundw
            case rel => exact ⟨k + 1, by omega, by go_num, hbp, HE⟩
            case measure => simp [intOf]; omega
    · have hki : ¬ (k : Int) < 16 := by omega
      have HE : Hid (r = true) := HR.out.symm.trans (HYES.out fun a ha => HA.out a (by omega))
      go_wp2_with fail
      go_ret
      exact ⟨by rw [HE.out]; rfl, below_seq HB0.out hB⟩
end Go.Proofs.YtmmkmkaannlkhaaGreatDoor

namespace Go.Proofs.YtmmkmkaannlkhaaGreatDoor
set_option linter.unusedVariables false

theorem byA_app (A B : List Ov) (a : Nat) : byA (A ++ B) a = byA A a ++ byA B a := List.filter_append ..
theorem byA_self {L : List Ov} {a : Nat} {M : List Ov} (h : ∀ x ∈ M, x.a = (a : Int)) : byA M a = M := by
  unfold byA
  rw [List.filter_eq_self]
  intro x hx
  exact decide_eq_true (h x hx)
theorem byA_other {a b : Nat} (hab : b ≠ a) {M : List Ov} (h : ∀ x ∈ M, x.a = (a : Int)) : byA M b = [] := by
  unfold byA
  rw [List.filter_eq_nil_iff]
  intro x hx
  have := h x hx
  simp
  omega
theorem byA_all {L : List Ov} {a : Nat} {x : Ov} (h : x ∈ byA L a) : x.a = (a : Int) := by
  have := (List.mem_filter.1 h).2
  simpa using this
theorem sorted_of {L : List Ov} (h : ∀ i, i < L.length → stepN L i = true) : L.Pairwise (fun x y => x.a ≤ y.a) := by
  rw [List.pairwise_iff_getElem]
  intro i j hi hj hij
  have := rising h j hj i (by omega)
  rwa [show ovAt L i = L[i] by have := ovAt_get hi; rw [List.getElem?_eq_getElem hi] at this; exact (Option.some.inj this).symm, show ovAt L j = L[j] by have := ovAt_get hj; rw [List.getElem?_eq_getElem hj] at this; exact (Option.some.inj this).symm] at this
/-- The i-th operation of an actor has the Seq i + 1. -/
theorem seq_at {L : List Ov} (h : ∀ i, i < L.length → stepN L i = true) (a : Nat) : ∀ q, q ≤ L.length → ∀ i, i < (byA (L.take q) a).length → (ovAt (byA (L.take q) a) i).s = (i : Int) + 1
  | 0, _, i, hi => absurd hi (by simp [byA])
  | q + 1, hq, i, hi => by
    have ih := seq_at h a q (by omega)
    rw [take_snoc (by omega), byA_snoc] at hi ⊢
    by_cases e : (ovAt L q).a = (a : Int)
    · rw [if_pos e] at hi ⊢
      rw [List.length_append, List.length_singleton] at hi
      by_cases l : i < (byA (L.take q) a).length
      · have : ovAt (byA (L.take q) a ++ [ovAt L q]) i = ovAt (byA (L.take q) a) i := by
          unfold ovAt
          rw [List.getD_eq_getElem?_getD, List.getElem?_append_left l, ← List.getD_eq_getElem?_getD]
        rw [this]
        exact ih i l
      · have hi' : i = (byA (L.take q) a).length := by omega
        have : ovAt (byA (L.take q) a ++ [ovAt L q]) i = ovAt L q := by
          subst hi'
          unfold ovAt
          rw [List.getD_eq_getElem?_getD, List.getElem?_append_right (Nat.le_refl _), Nat.sub_self]
          rfl
        rw [this, hi']
        have hp := (stepN_parts (h q (by omega))).2.1
        rw [e, Int.toNat_natCast] at hp
        exact hp
    · rw [if_neg e] at hi ⊢
      exact ih i hi
end Go.Proofs.YtmmkmkaannlkhaaGreatDoor

namespace Go.Proofs.YtmmkmkaannlkhaaGreatDoor
open Go.RowKit
set_option linter.unusedVariables false

/-- In a valid log: the first place of actor a (or the log's end), and none of a that many places behind it. -/
theorem none_at {L : List Ov} (h : ∀ i, i < L.length → stepN L i = true) (a : Nat) {m : Nat} (hm : (byA L a).length ≤ m) :
    ∃ i, i ≤ L.length ∧ (∀ q, q < i → (ovAt L q).a ≠ (a : Int)) ∧ (i < L.length → (ovAt L i).a = (a : Int)) ∧ (i + m < L.length → (ovAt L (i + m)).a ≠ (a : Int)) := by
  by_cases hn : (byA L a).length = 0
  · refine ⟨L.length, Nat.le_refl _, fun q hq e => ?_, fun hc => absurd hc (by omega), fun hc => absurd hc (by omega)⟩
    have : ovAt L q ∈ byA L a := List.mem_filter.2 ⟨ovAt_mem hq, by simpa using e⟩
    rw [List.length_eq_zero_iff.1 hn] at this
    exact absurd this (by simp)
  · obtain ⟨i, hS⟩ := stand_of h a
    have hf := hS.fit
    have h0 := (hS.yes 0 (by omega)).2
    rw [Nat.add_zero] at h0
    refine ⟨i, by omega, hS.no, fun _ => h0, fun hi e => ?_⟩
    have hsp : L = L.take i ++ ((L.drop i).take (m + 1) ++ (L.drop i).drop (m + 1)) := by rw [List.take_append_drop, List.take_append_drop]
    have hall : ∀ x ∈ (L.drop i).take (m + 1), x.a = (a : Int) := fun x hx => by
      obtain ⟨q, hq, rfl⟩ := List.mem_iff_getElem.1 hx
      rw [List.length_take, List.length_drop] at hq
      have hg : ((L.drop i).take (m + 1))[q]? = some (ovAt L (i + q)) := by rw [List.getElem?_take_of_lt (by omega), List.getElem?_drop]; exact ovAt_get (by omega)
      rw [List.getElem?_eq_getElem (by rw [List.length_take, List.length_drop]; omega)] at hg
      rw [Option.some.inj hg]
      have r1 := rising h (i + m) hi (i + q) (by omega)
      have r2 := rising h (i + q) (by omega) i (by omega)
      omega
    have hb := congrArg (fun X => (byA X a).length) hsp
    simp only [byA_app, List.length_append] at hb
    rw [byA_self (L := L) hall, List.length_take, List.length_drop] at hb
    omega

set_option maxHeartbeats 2000000 in
set_option maxRecDepth 100000 in
/-- i: the first place of actor a, or the log's end; no operation of a stands m places behind it. -/
theorem l08Find_none (C : Nat) (w : World) (v : Value) (L : List Ov) (a i m : Nat) (hC : C ≤ w.heap.size) (hr : RdO C w v L) (hl : L.length ≤ 1024) (hi : i ≤ L.length) (hno : ∀ q, q < i → (ovAt L q).a ≠ (a : Int)) (hat : i < L.length → (ovAt L i).a = (a : Int)) (hm : i + m < L.length → (ovAt L (i + m)).a ≠ (a : Int)) (hmm : m ≤ 1000000000000) :
    Calls Tryz.prog 68 #[v, .int .i64 (a : Int), .int .i64 ((m + 1 : Nat) : Int)] w fun e w' => e = .returned (.int .i64 (-1)) ∧ w' = w := by
  obtain ⟨⟨ao, cap, rfl, hcap, hmax, hnil, hrow⟩, hdv⟩ := hr
  clear hdv
  go_enter Tryz.func68, Tryz.ntmps68
  go_wp2_with fail
  go_loop [7] (fun ti => ∃ k : Nat, k ≤ i ∧ ti = .int .i64 (k : Int)) (fun ti => i + 1 - (intOf ti).toNat)
  case atStart => exact ⟨0, Nat.zero_le _, rfl⟩
  case round =>
    obtain ⟨k, hk, rfl⟩ := hrel
    by_cases hkl0 : k < L.length
    · have hkl : (k : Int) < (L.length : Int) := by omega
      have hk2 : (k : Int) + 1 < 9223372036854775808 := by omega
      obtain ⟨g, off, rfl, hg, hcs⟩ := hrow (by omega)
      have HC : Hid (∀ k, k < L.length → w.cell? ⟨g, off + k * 12, none⟩ = some (.int .i64 (ovAt L k).a)) := fun k hk => (hcs k hk).c0
      clear hcs
      have c0 := HC.out k (by omega)
      by_cases e : k = i
      · have hy := hat (by omega)
        rw [← e] at hy hm
        rw [hy] at c0
        have h1 : ¬ ((m : Int) + 1 < 1) := by omega
        by_cases hfar : k + m < L.length
        · have hz : ((ovAt L (k + m)).a != (a : Int)) = true := by simpa using hm hfar
          have c1 := HC.out (k + m) hfar
          generalize (ovAt L (k + m)).a = z at c1 hz
          have h2 : ¬ ((L.length : Int) - (k : Int) < (m : Int) + 1) := by omega
          have hkm : ((k + m : Nat) : Int) < (L.length : Int) := by omega
          clear hy e hm hat hno hrow hnil hfar hmm hkl0 hi hk HC
          go_wp2_with fail
          go_ret
          exact ⟨rfl, rfl⟩
        · have h2 : (L.length : Int) - (k : Int) < (m : Int) + 1 := by omega
          clear hy e hm hat hno
          go_wp2_with fail
          go_ret
          exact ⟨rfl, rfl⟩
      · have hne : ((ovAt L k).a == (a : Int)) = false := by simpa using hno k (by omega)
        generalize (ovAt L k).a = z at c0 hne
        have hki : k < i := by omega
        clear e
        go_wp2_with fail
        go_round
        case rel => exact ⟨k + 1, by omega, by go_num⟩
        case measure => simp [intOf]; omega
    · have hkl : ¬ ((k : Int) < (L.length : Int)) := by omega
      go_wp2_with fail
      go_ret
      exact ⟨rfl, rfl⟩
end Go.Proofs.YtmmkmkaannlkhaaGreatDoor

namespace Go.Proofs.YtmmkmkaannlkhaaGreatDoor
set_option linter.unusedVariables false

/-- Of each operation whether it is undone. -/
def udB : List Ov → List Bool
  | [] => []
  | x :: L => (L.zip (udB L)).any (fun p => decide (p.1.a = x.a) && (decide (p.1.u = x.s) && !p.2)) :: udB L
theorem udB_len : ∀ L, (udB L).length = L.length
  | [] => rfl
  | x :: L => by simp [udB, udB_len L]
theorem udB_drop : ∀ (L : List Ov) (i : Nat), udB (L.drop i) = (udB L).drop i
  | _, 0 => rfl
  | [], i + 1 => rfl
  | x :: L, i + 1 => by rw [List.drop_succ_cons, udB_drop L i]; rfl
def uAt (L : List Ov) (i : Nat) : Bool := (udB L).getD i false
theorem uAt_get {L : List Ov} {i : Nat} (h : i < L.length) : (udB L)[i]? = some (uAt L i) := by
  unfold uAt
  rw [List.getD_eq_getElem?_getD, List.getElem?_eq_getElem (by rw [udB_len]; exact h)]
  rfl
theorem drop_ov {L : List Ov} {i : Nat} (h : i < L.length) : L.drop i = ovAt L i :: L.drop (i + 1) := by
  rw [List.drop_eq_getElem_cons h]
  congr 1
  have := ovAt_get h
  rw [List.getElem?_eq_getElem h] at this
  exact Option.some.inj this
/-- Undone: by a later one of its actor that is not undone itself. -/
theorem uAt_any {L : List Ov} {i : Nat} (h : i < L.length) : uAt L i = ((L.drop (i + 1)).zip ((udB L).drop (i + 1))).any (fun p => decide (p.1.a = (ovAt L i).a) && (decide (p.1.u = (ovAt L i).s) && !p.2)) := by
  have h1 := udB_drop L i
  rw [drop_ov h, udB, udB_drop] at h1
  unfold uAt
  rw [List.getD_eq_getElem?_getD, show (udB L)[i]? = ((udB L).drop i)[0]? by rw [List.getElem?_drop]; rfl, ← h1]
  rfl
theorem mem_zip_at {L : List Ov} {U : List Bool} {p : Ov × Bool} : p ∈ L.zip U ↔ ∃ k : Nat, L[k]? = some p.1 ∧ U[k]? = some p.2 := by
  rw [List.mem_iff_getElem?]
  refine ⟨fun ⟨k, hk⟩ => ⟨k, ?_⟩, fun ⟨k, h1, h2⟩ => ⟨k, ?_⟩⟩
  · rw [List.getElem?_zip_eq_some] at hk
    exact hk
  · rw [List.getElem?_zip_eq_some]
    exact ⟨h1, h2⟩
theorem uAt_iff {L : List Ov} {i : Nat} (h : i < L.length) : uAt L i = true ↔ ∃ k, i < k ∧ k < L.length ∧ (ovAt L k).a = (ovAt L i).a ∧ (ovAt L k).u = (ovAt L i).s ∧ uAt L k = false := by
  rw [uAt_any h, List.any_eq_true]
  constructor
  · rintro ⟨p, hp, hq⟩
    obtain ⟨k, h1, h2⟩ := mem_zip_at.1 hp
    simp only [Bool.and_eq_true, decide_eq_true_eq, Bool.not_eq_true'] at hq
    rw [List.getElem?_drop] at h1 h2
    have hk : i + 1 + k < L.length := (List.getElem?_eq_some_iff.1 h1).1
    rw [ovAt_get hk] at h1
    rw [uAt_get hk] at h2
    have e1 := Option.some.inj h1
    have e2 := Option.some.inj h2
    exact ⟨i + 1 + k, by omega, hk, by rw [e1]; exact hq.1, by rw [e1]; exact hq.2.1, by rw [e2]; exact hq.2.2⟩
  · rintro ⟨k, h1, h2, h3, h4, h5⟩
    refine ⟨(ovAt L k, uAt L k), mem_zip_at.2 ⟨k - (i + 1), ?_, ?_⟩, ?_⟩
    · rw [List.getElem?_drop, show i + 1 + (k - (i + 1)) = k by omega]; exact ovAt_get h2
    · rw [List.getElem?_drop, show i + 1 + (k - (i + 1)) = k by omega]; exact uAt_get h2
    · simp [h3, h4, h5]
/-- The Seqs of the actor's operations that are undone, as far as the first i go. -/
def sqT (L : List Ov) (a : Int) : Nat → List Int
  | 0 => []
  | i + 1 => if (ovAt L i).a = a ∧ uAt L i = true then sqT L a i ++ [(ovAt L i).s] else sqT L a i
theorem sqT_len (L : List Ov) (a : Int) : ∀ i, (sqT L a i).length ≤ i
  | 0 => Nat.le_refl _
  | i + 1 => by
    have := sqT_len L a i
    unfold sqT
    split
    · rw [List.length_append, List.length_singleton]; omega
    · omega
theorem sqT_mem {L : List Ov} {a s : Int} : ∀ {i : Nat}, s ∈ sqT L a i ↔ ∃ q, q < i ∧ (ovAt L q).a = a ∧ uAt L q = true ∧ (ovAt L q).s = s
  | 0 => ⟨fun h => absurd h (by simp [sqT]), fun ⟨q, h, _⟩ => absurd h (by omega)⟩
  | i + 1 => by
    unfold sqT
    split
    · rename_i h
      rw [List.mem_append, List.mem_singleton, sqT_mem]
      constructor
      · rintro (⟨q, h1, h2⟩ | rfl)
        · exact ⟨q, by omega, h2⟩
        · exact ⟨i, by omega, h.1, h.2, rfl⟩
      · rintro ⟨q, h1, h2, h3, h4⟩
        by_cases e : q = i
        · subst e; exact .inr h4.symm
        · exact .inl ⟨q, by omega, h2, h3, h4⟩
    · rename_i h
      rw [sqT_mem]
      constructor
      · rintro ⟨q, h1, h2⟩
        exact ⟨q, by omega, h2⟩
      · rintro ⟨q, h1, h2, h3, h4⟩
        by_cases e : q = i
        · subst e; exact absurd ⟨h2, h3⟩ h
        · exact ⟨q, by omega, h2, h3, h4⟩
/-- Of one actor's operations the later one has the greater Seq. -/
theorem seq_lt {L : List Ov} (hs : ∀ i, i < L.length → stepN L i = true) (ha : ∀ x ∈ L, 0 ≤ x.a) {i j : Nat} (hij : i < j) (hj : j < L.length) (he : (ovAt L i).a = (ovAt L j).a) : (ovAt L i).s < (ovAt L j).s := by
  have hi : i < L.length := by omega
  have h1 := (stepN_parts (hs i hi)).2.1
  have h2 := (stepN_parts (hs j hj)).2.1
  have h3 := byA_one hi (a := (ovAt L i).a.toNat) (by have := ha _ (ovAt_mem hi); omega)
  rw [← he] at h2
  have h4 : (byA (L.take (i + 1)) (ovAt L i).a.toNat).length ≤ (byA (L.take j) (ovAt L i).a.toNat).length := by
    have e : L.take (i + 1) = (L.take j).take (i + 1) := by rw [List.take_take, Nat.min_eq_left (by omega)]
    rw [e]
    exact (List.Sublist.filter _ (List.take_sublist _ _)).length_le
  omega
theorem sqT_rise {L : List Ov} (hs : ∀ i, i < L.length → stepN L i = true) (ha : ∀ x ∈ L, 0 ≤ x.a) (a : Int) : ∀ i, i ≤ L.length → (sqT L a i).Pairwise (· < ·)
  | 0, _ => List.Pairwise.nil
  | i + 1, h => by
    have ih := sqT_rise hs ha a i (by omega)
    unfold sqT
    split
    · rename_i hx
      refine List.pairwise_append.2 ⟨ih, List.pairwise_singleton _ _, fun s hs1 t ht => ?_⟩
      rw [List.mem_singleton] at ht
      subst ht
      obtain ⟨q, h1, h2, h3, rfl⟩ := sqT_mem.1 hs1
      exact seq_lt hs ha h1 (by omega) (by rw [h2, hx.1])
    · exact ih
theorem byA_cons (x : Ov) (L : List Ov) (a : Nat) : byA (x :: L) a = if x.a = (a : Int) then x :: byA L a else byA L a := by
  unfold byA
  rw [List.filter_cons]
  by_cases e : x.a = (a : Int)
  · rw [if_pos e, if_pos (by simpa using e)]
  · rw [if_neg e, if_neg (by simpa using e)]
theorem uAt_succ (x : Ov) (L : List Ov) (k : Nat) : uAt (x :: L) (k + 1) = uAt L k := rfl
theorem ovAt_succ (x : Ov) (L : List Ov) (k : Nat) : ovAt (x :: L) (k + 1) = ovAt L k := rfl
/-- What the code's set has: the Undos of those that are not undone. -/
theorem undS_iff (a : Nat) {s : Int} : ∀ {L : List Ov}, (∀ x ∈ L, x.s ≠ 0) → (s ∈ undS (byA L a) ↔ s ≠ 0 ∧ ∃ k, k < L.length ∧ (ovAt L k).a = (a : Int) ∧ (ovAt L k).u = s ∧ uAt L k = false)
  | [], _ => ⟨fun h => by simp [byA, undS] at h, fun ⟨_, k, h, _⟩ => by simp at h⟩
  | x :: L, hnz => by
    have hnz' : ∀ y ∈ L, y.s ≠ 0 := fun y hy => hnz y (List.mem_cons_of_mem _ hy)
    have hx0 := hnz x (List.mem_cons_self ..)
    have up : (∃ k, k < L.length ∧ (ovAt L k).a = (a : Int) ∧ (ovAt L k).u = s ∧ uAt L k = false) → ∃ k, k < (x :: L).length ∧ (ovAt (x :: L) k).a = (a : Int) ∧ (ovAt (x :: L) k).u = s ∧ uAt (x :: L) k = false := by
      rintro ⟨k, h1, h2⟩
      exact ⟨k + 1, by simpa using h1, h2⟩
    rw [byA_cons]
    by_cases e : x.a = (a : Int)
    · rw [if_pos e, undS_cons]
      have hx : uAt (x :: L) 0 = true ↔ x.s ∈ undS (byA L a) := by
        rw [undS_iff a hnz', uAt_iff (by simp)]
        constructor
        · rintro ⟨k, h1, h2, h3, h4, h5⟩
          obtain ⟨q, rfl⟩ : ∃ q, k = q + 1 := ⟨k - 1, by omega⟩
          exact ⟨hx0, q, by simpa using h2, h3.trans e, h4, h5⟩
        · rintro ⟨_, k, h1, h2, h3, h4⟩
          exact ⟨k + 1, by omega, by simpa using h1, h2.trans e.symm, h3, h4⟩
      unfold stepU
      split
      · rename_i hu
        rw [List.mem_cons, undS_iff a hnz']
        constructor
        · rintro (rfl | ⟨h1, h2⟩)
          · refine ⟨hu.1, 0, by simp, e, rfl, ?_⟩
            cases hh : uAt (x :: L) 0 with
            | false => rfl
            | true => exact absurd (hx.1 hh) hu.2
          · exact ⟨h1, up h2⟩
        · rintro ⟨h1, k, h2, h3, h4, h5⟩
          cases k with
          | zero => exact .inl h4.symm
          | succ k => exact .inr ⟨h1, k, by simpa using h2, h3, h4, h5⟩
      · rename_i hu
        rw [undS_iff a hnz']
        constructor
        · rintro ⟨h1, h2⟩
          exact ⟨h1, up h2⟩
        · rintro ⟨h1, k, h2, h3, h4, h5⟩
          cases k with
          | zero =>
            exfalso
            refine hu ⟨fun h0 => h1 ?_, fun hm => ?_⟩
            · have h4' : x.u = s := h4
              rw [← h4', h0]
            · rw [hx.2 hm] at h5
              cases h5
          | succ k => exact ⟨h1, k, by simpa using h2, h3, h4, h5⟩
    · rw [if_neg e, undS_iff a hnz']
      constructor
      · rintro ⟨h1, h2⟩
        exact ⟨h1, up h2⟩
      · rintro ⟨h1, k, h2, h3, h4, h5⟩
        cases k with
        | zero => exact absurd h3 e
        | succ k => exact ⟨h1, k, by simpa using h2, h3, h4, h5⟩
/-- Both say the same Seqs. -/
theorem undone_same {L : List Ov} (hs : ∀ i, i < L.length → stepN L i = true) (ha : ∀ x ∈ L, 0 ≤ x.a) (hu : ∀ x ∈ L, 0 ≤ x.u ∧ x.u < x.s) (a : Nat) (s : Int) : s ∈ sqT L (a : Int) L.length ↔ s ∈ undS (byA L a) := by
  have hnz : ∀ x ∈ L, x.s ≠ 0 := fun x hx => by have := hu x hx; omega
  rw [sqT_mem, undS_iff a hnz]
  constructor
  · rintro ⟨q, h1, h2, h3, rfl⟩
    refine ⟨hnz _ (ovAt_mem h1), ?_⟩
    obtain ⟨k, k1, k2, k3, k4, k5⟩ := (uAt_iff h1).1 h3
    exact ⟨k, k2, by rw [k3, h2], k4, k5⟩
  · rintro ⟨h0, k, k2, k3, k4, k5⟩
    have hk := (stepN_parts (hs k k2)).2.1
    have hku := hu _ (ovAt_mem k2)
    rw [k3, Int.toNat_natCast] at hk
    have hq := seq_at hs a k (by omega) (s - 1).toNat (by omega)
    have hm := ovAt_mem (L := byA (L.take k) a) (k := (s - 1).toNat) (by omega)
    obtain ⟨hm1, hm2⟩ := List.mem_filter.1 hm
    obtain ⟨i, hi, e⟩ := List.getElem_of_mem hm1
    have hik : i < k := by simp at hi; omega
    have hiL : i < L.length := by omega
    have ex : ovAt L i = ovAt (byA (L.take k) a) (s - 1).toNat := by
      rw [← e]
      have := ovAt_get hiL
      rw [List.getElem?_eq_getElem hiL] at this
      rw [List.getElem_take]
      exact (Option.some.inj this).symm
    have ea : (ovAt L i).a = (a : Int) := by rw [ex]; simpa using hm2
    have es : (ovAt L i).s = s := by rw [ex, hq]; omega
    exact ⟨i, hiL, ea, (uAt_iff hiL).2 ⟨k, hik, k2, by rw [k3, ea], by rw [k4, es], k5⟩, es⟩
end Go.Proofs.YtmmkmkaannlkhaaGreatDoor
