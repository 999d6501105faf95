/- Logs, plain facts: what the specification's LogOK asks of two neighbours, and of the objects. -/
import Derived.Test.YtnpiinjdaiobgaaLogMath
namespace Go.Proofs.Ytnpiinjdaiobgaa
open Go.RowKit
set_option linter.unusedVariables false

theorem good_at {L : List Ov} {i : Nat} (hi : i < L.length) (h : ∀ q, q < i + 1 → stepN L q = true) :
    (ovAt L i).ok = true ∧ (i = 0 ∧ (ovAt L i).s = 1 ∨ ∃ j, i = j + 1 ∧ ((ovAt L i).a = (ovAt L j).a ∧ (ovAt L i).s = (ovAt L j).s + 1 ∨ (ovAt L j).a < (ovAt L i).a ∧ (ovAt L i).s = 1)) := by
  have hs := h i (by omega)
  have hp := stepN_parts hs
  refine ⟨hp.1, ?_⟩
  have hn : nextB (L.take i) (ovAt L i) = true := decide_eq_true hp.2.1
  by_cases h0 : i = 0
  · subst h0
    rw [chain_zero] at hn
    exact .inl ⟨rfl, of_decide_eq_true hn⟩
  · obtain ⟨j, rfl⟩ : ∃ j, i = j + 1 := ⟨i - 1, by omega⟩
    refine .inr ⟨j, rfl, ?_⟩
    have hle := hp.2.2 (by omega)
    rw [show j + 1 - 1 = j by omega] at hle
    by_cases e : (ovAt L (j + 1)).a = (ovAt L j).a
    · rw [chain_same hi (fun q hq => h q (by omega)) e] at hn
      exact .inl ⟨e, of_decide_eq_true hn⟩
    · rw [chain_more hi (fun q hq => h q (by omega)) (by omega)] at hn
      exact .inr ⟨by omega, of_decide_eq_true hn⟩
theorem bad_at {L : List Ov} {i : Nat} (hi : i < L.length) (h : ∀ q, q < i → stepN L q = true) (hb : stepN L i = false) :
    (ovAt L i).ok = false ∨ ((ovAt L i).ok = true ∧ (i = 0 ∧ ¬ (ovAt L i).s = 1 ∨ ∃ j, i = j + 1 ∧ ((ovAt L i).a = (ovAt L j).a ∧ ¬ (ovAt L i).s = (ovAt L j).s + 1 ∨ (ovAt L i).a < (ovAt L j).a ∧ (ovAt L i).s = 1 ∨ (ovAt L i).a < (ovAt L j).a ∧ ¬ (ovAt L i).s = 1 ∨ (ovAt L j).a < (ovAt L i).a ∧ ¬ (ovAt L i).s = 1))) := by
  cases hok : (ovAt L i).ok with
  | false => exact .inl rfl
  | true =>
    refine .inr ⟨rfl, ?_⟩
    unfold stepN at hb
    rw [hok, Bool.true_and] at hb
    by_cases h0 : i = 0
    · subst h0
      rw [chain_zero, decide_eq_true (fun h => absurd h (by omega) : 0 < 0 → (ovAt L (0 - 1)).a ≤ (ovAt L 0).a), Bool.and_true] at hb
      exact .inl ⟨rfl, of_decide_eq_false hb⟩
    · obtain ⟨j, rfl⟩ : ∃ j, i = j + 1 := ⟨i - 1, by omega⟩
      refine .inr ⟨j, rfl, ?_⟩
      rw [show j + 1 - 1 = j by omega] at hb
      by_cases e : (ovAt L (j + 1)).a = (ovAt L j).a
      · rw [chain_same hi h e, decide_eq_true (fun _ => by omega : 0 < j + 1 → (ovAt L j).a ≤ (ovAt L (j + 1)).a), Bool.and_true] at hb
        exact .inl ⟨e, of_decide_eq_false hb⟩
      · by_cases l : (ovAt L (j + 1)).a < (ovAt L j).a
        · by_cases s : (ovAt L (j + 1)).s = 1
          · exact .inr (.inl ⟨l, s⟩)
          · exact .inr (.inr (.inl ⟨l, s⟩))
        · rw [chain_more hi h (by omega), decide_eq_true (fun _ => by omega : 0 < j + 1 → (ovAt L j).a ≤ (ovAt L (j + 1)).a), Bool.and_true] at hb
          exact .inr (.inr (.inr ⟨by omega, of_decide_eq_false hb⟩))
theorem first_bad (p : Nat → Bool) : ∀ n, (∀ q, q < n → p q = true) ∨ ∃ f, f < n ∧ (∀ q, q < f → p q = true) ∧ p f = false
  | 0 => .inl fun q hq => absurd hq (by omega)
  | n + 1 => by
    rcases first_bad p n with h | ⟨f, hf, h1, h2⟩
    · cases hn : p n with
      | false => exact .inr ⟨n, by omega, h, hn⟩
      | true =>
        refine .inl fun q hq => ?_
        by_cases e : q = n
        · rw [e]; exact hn
        · exact h q (by omega)
    · exact .inr ⟨f, by omega, h1, h2⟩
theorem seq_bound {L : List Ov} {i : Nat} (h : stepN L i = true) : 1 ≤ (ovAt L i).s ∧ (ovAt L i).s ≤ 1000000000000 := by
  have := (stepN_parts h).1
  unfold Ov.ok opB comesOK at this
  simp only [Bool.and_eq_true, decide_eq_true_eq] at this
  omega
theorem stepN_mem {L : List Ov} (h : ∀ q, q < L.length → stepN L q = true) : ∀ x ∈ L, x.ok = true := by
  intro x hx
  obtain ⟨q, hq, e⟩ := List.getElem_of_mem hx
  have h1 := (stepN_parts (h q hq)).1
  have h2 := ovAt_get hq
  rw [List.getElem?_eq_getElem hq, e] at h2
  rwa [← Option.some.inj h2] at h1
theorem ok_kind {x : Ov} (h : x.ok = true) : x.k = 1 ∨ x.k = 2 ∨ x.k = 3 ∨ x.k = 4 := by
  unfold Ov.ok opB at h
  simp only [Bool.and_eq_true] at h
  have h1 := h.2.2.2.2.2.2.2
  unfold saysOK at h1
  by_cases k1 : x.k = 1
  · exact .inl k1
  · by_cases k2 : x.k = 2
    · exact .inr (.inl k2)
    · by_cases k3 : x.k = 3
      · exact .inr (.inr (.inl k3))
      · by_cases k4 : x.k = 4
        · exact .inr (.inr (.inr k4))
        · simp [k1, k2, k3, k4] at h1

/-- What the specification calls a thing. -/
def smT (t : Int) : Int := if t = 4 then 3 else t
/-- What kind of thing a kind belongs to, by the specification. -/
def spT (k : Int) : Int := if k = 1 then 1 else if k = 2 ∨ k = 3 then 2 else 3
theorem spT_eq {k : Int} (h : k = 1 ∨ k = 2 ∨ k = 3 ∨ k = 4) : spT k = smT (thOf k) := by
  rcases h with rfl | rfl | rfl | rfl <;> rfl
theorem thOf_in {k : Int} (h : k = 1 ∨ k = 2 ∨ k = 3 ∨ k = 4) : thOf k = 1 ∨ thOf k = 2 ∨ thOf k = 4 := by
  rcases h with rfl | rfl | rfl | rfl
  · exact .inl rfl
  · exact .inr (.inl rfl)
  · exact .inr (.inl rfl)
  · exact .inr (.inr rfl)
theorem tsOf_in {P : List Ov} (h : ∀ x ∈ P, x.k = 1 ∨ x.k = 2 ∨ x.k = 3 ∨ x.k = 4) : ∀ t ∈ tsOf P, t = 0 ∨ t = 1 ∨ t = 2 ∨ t = 4 := by
  unfold tsOf
  have h0 : ∀ t ∈ List.replicate 101 (0 : Int), t = 0 ∨ t = 1 ∨ t = 2 ∨ t = 4 := fun t ht => .inl (List.eq_of_mem_replicate ht)
  revert h0
  generalize List.replicate 101 (0 : Int) = ts
  intro h0
  induction P generalizing ts with
  | nil => exact h0
  | cons x P ih =>
    refine ih (fun y hy => h y (List.mem_cons_of_mem _ hy)) _ (fun t ht => ?_)
    rcases List.mem_or_eq_of_mem_set ht with ht | rfl
    · exact h0 t ht
    · exact .inr (thOf_in (h x (List.mem_cons_self ..)))
theorem tsOf_get {P : List Ov} (h : ∀ x ∈ P, x.k = 1 ∨ x.k = 2 ∨ x.k = 3 ∨ x.k = 4) {j : Nat} (hj : j < 101) : (tsOf P).getD j 0 = 0 ∨ (tsOf P).getD j 0 = 1 ∨ (tsOf P).getD j 0 = 2 ∨ (tsOf P).getD j 0 = 4 := by
  have hl := tsOf_len P
  rw [List.getD_eq_getElem?_getD, List.getElem?_eq_getElem (by omega)]
  exact tsOf_in h _ (List.getElem_mem _)
theorem smT_zero {t : Int} (h : t = 0 ∨ t = 1 ∨ t = 2 ∨ t = 4) : smT t = 0 ↔ t = 0 := by
  rcases h with rfl | rfl | rfl | rfl <;> decide
theorem smT_same {t u : Int} (h : t = 0 ∨ t = 1 ∨ t = 2 ∨ t = 4) (h' : u = 1 ∨ u = 2 ∨ u = 4) : smT t = smT u ↔ t = u := by
  rcases h with rfl | rfl | rfl | rfl <;> rcases h' with rfl | rfl | rfl <;> decide
theorem smT_val {t : Int} (h : t = 0 ∨ t = 1 ∨ t = 2 ∨ t = 4) : smT t = 0 ∨ smT t = 1 ∨ smT t = 2 ∨ smT t = 3 := by
  rcases h with rfl | rfl | rfl | rfl <;> decide
theorem spT_val {k : Int} (h : k = 1 ∨ k = 2 ∨ k = 3 ∨ k = 4) : spT k = 1 ∨ spT k = 2 ∨ spT k = 3 := by
  rcases h with rfl | rfl | rfl | rfl <;> decide
/-- The row of things, by the specification. -/
def thR (P : List Ov) : List Int := (tsOf P).map smT
theorem thR_len (P : List Ov) : (thR P).length = 101 := by simp [thR, tsOf_len]
theorem thR_at (P : List Ov) {j : Nat} (hj : j < 101) : (thR P)[j]? = some (smT ((tsOf P).getD j 0)) := by
  have hl := tsOf_len P
  unfold thR
  rw [List.getElem?_map, List.getD_eq_getElem?_getD, List.getElem?_eq_getElem (by omega)]
  rfl
theorem thR_nil : thR [] = List.replicate 101 0 := by decide
theorem thR_snoc (P : List Ov) (x : Ov) (h : x.k = 1 ∨ x.k = 2 ∨ x.k = 3 ∨ x.k = 4) : thR (P ++ [x]) = (thR P).set x.o.toNat (spT x.k) := by
  unfold thR
  rw [tsOf_snoc, List.map_set, spT_eq h]
theorem suit_sp {P : List Ov} {x : Ov} {j : Nat} (hP : ∀ y ∈ P, y.k = 1 ∨ y.k = 2 ∨ y.k = 3 ∨ y.k = 4) (hx : x.k = 1 ∨ x.k = 2 ∨ x.k = 3 ∨ x.k = 4) (hj : j < 101) (ho : x.o = (j : Int)) :
    suitB P x = decide (smT ((tsOf P).getD j 0) = 0 ∨ smT ((tsOf P).getD j 0) = spT x.k) := by
  unfold suitB
  rw [ho, Int.toNat_natCast, spT_eq hx]
  have h := tsOf_get hP hj
  rw [decide_eq_decide, smT_zero h, smT_same h (thOf_in hx)]
theorem logI_all {L : List Ov} (hl : L.length ≤ 1024) (h : ∀ i, i < L.length → stepN L i = true) (h2 : ∀ q, q < L.length → causesB L (ovAt L q) = true ∧ suitB (L.take q) (ovAt L q) = true) : logI L = true :=
  logI_yes hl (fun i hi => by rw [stepI_split, h i hi, (h2 i hi).2]; rfl) fun i hi => (h2 i hi).1
theorem logI_stepN {L : List Ov} {i : Nat} (h : i < L.length) (hs : stepN L i = false) : logI L = false := logI_step h (by rw [stepI_split, hs]; rfl)
theorem logI_suit {L : List Ov} {i : Nat} (h : i < L.length) (hs : suitB (L.take i) (ovAt L i) = false) : logI L = false := logI_step h (by rw [stepI_split, hs, Bool.and_false])

set_option maxHeartbeats 400000 in
theorem l08Thing_any (k : Int) (w : World) : Calls Try.prog 13 #[.int .i64 k] w fun e w' => e = .returned (.int .i64 (spT k)) ∧ w' = w := by
  unfold spT
  by_cases h1 : k = 1
  · subst h1
    go_enter Try.func13, Try.ntmps13
    go_wp2_with fail
    go_ret
    exact ⟨rfl, rfl⟩
  · by_cases h2 : k = 2
    · subst h2
      go_enter Try.func13, Try.ntmps13
      go_wp2_with fail
      go_ret
      exact ⟨rfl, rfl⟩
    · by_cases h3 : k = 3
      · subst h3
        go_enter Try.func13, Try.ntmps13
        go_wp2_with fail
        go_ret
        exact ⟨rfl, rfl⟩
      · have e1 : (k == 1) = false := by simpa using h1
        have e2 : (k == 2) = false := by simpa using h2
        have e3 : (k == 3) = false := by simpa using h3
        rw [if_neg h1, if_neg (by omega)]
        clear h1 h2 h3
        go_enter Try.func13, Try.ntmps13
        go_wp2_with fail
        go_ret
        exact ⟨rfl, rfl⟩
end Go.Proofs.Ytnpiinjdaiobgaa
