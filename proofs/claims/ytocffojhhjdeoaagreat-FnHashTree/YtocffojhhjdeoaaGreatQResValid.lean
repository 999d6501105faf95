/- What LogAdd answers with no code is a valid log: plain facts. -/
import Derived.Test.YtocffojhhjdeoaaGreatQGrowOpsToSameSpec
namespace Go.Proofs.YtocffojhhjdeoaaGreat
open Go.RowKit
set_option linter.unusedVariables false

/-- Where an operation stands in a log by its actors. -/
theorem allK_place (P : List Ov) : ∀ k i, i < (allK P k).length → ∃ a j, a < k ∧ j < (byA P a).length ∧ ovAt (allK P k) i = ovAt (byA P a) j ∧ (allK P k).take i = allK P a ++ (byA P a).take j
  | 0, i, h => absurd h (by simp [allK])
  | k + 1, i, h => by
    rw [allK] at h ⊢
    by_cases hi : i < (allK P k).length
    · obtain ⟨a, j, h1, h2, h3, h4⟩ := allK_place P k i hi
      refine ⟨a, j, by omega, h2, ?_, ?_⟩
      · rw [← h3]
        unfold ovAt
        rw [List.getD_eq_getElem?_getD, List.getD_eq_getElem?_getD, List.getElem?_append_left hi]
      · rw [← h4, List.take_append_of_le_length (by omega)]
    · rw [List.length_append] at h
      refine ⟨k, i - (allK P k).length, by omega, by omega, ?_, ?_⟩
      · unfold ovAt
        rw [List.getD_eq_getElem?_getD, List.getD_eq_getElem?_getD, List.getElem?_append_right (by omega)]
      · rw [List.take_append, List.take_of_length_le (by omega)]
/-- A cause stays one when more comes behind. -/
theorem cause_more {P : List Ov} (x y : Ov) (h : causesB P y = true) : causesB (P ++ [x]) y = true := by
  unfold causesB at h ⊢
  rw [List.all_eq_true] at h ⊢
  intro a ha
  have h1 := h a ha
  unfold causeOK at h1 ⊢
  rw [byA_app]
  simp only [Bool.and_eq_true, Bool.or_eq_true, decide_eq_true_eq] at h1 ⊢
  refine ⟨by rw [List.length_append]; omega, ?_⟩
  rcases h1.2 with h2 | h2
  · exact .inl h2
  · by_cases h3 : y.ds.getD a 0 ≤ 0
    · exact .inl h3
    · refine .inr ?_
      have e : ovAt (byA P a ++ byA [x] a) (y.ds.getD a 0 - 1).toNat = ovAt (byA P a) (y.ds.getD a 0 - 1).toNat := by
        have hi : (y.ds.getD a 0 - 1).toNat < (byA P a).length := by have := h1.1; omega
        generalize (y.ds.getD a 0 - 1).toNat = q at hi
        unfold ovAt
        rw [List.getD_eq_getElem?_getD, List.getD_eq_getElem?_getD, List.getElem?_append_left hi]
      rw [e]
      exact h2
/-- A log that is numbered, of one kind an object, and closed is a valid one by its actors. -/
theorem logP_valid {P : List Ov} (h : LogP P) (hc : ∀ x ∈ P, causesB P x = true) : logI (allK P 16) = true := by
  have hsz := h.size
  unfold logI
  rw [Bool.and_eq_true, Bool.and_eq_true, decide_eq_true_eq, List.all_eq_true, List.all_eq_true]
  refine ⟨by rw [hsz]; exact h.len, fun i hi => ?_, fun x hx => by rw [causes_allK]; exact hc x (allK_mem hx)⟩
  have hi' := List.mem_range.1 hi
  obtain ⟨a, j, ha, hj, h3, h4⟩ := allK_place P 16 i hi'
  have hm : ovAt (byA P a) j ∈ P := (List.mem_filter.1 (ovAt_mem hj)).1
  have hax : (ovAt (byA P a) j).a = (a : Int) := byA_all (ovAt_mem hj)
  have hok := h.ok _ hm
  unfold stepI
  rw [h3, h4, Bool.and_eq_true, Bool.and_eq_true, Bool.and_eq_true]
  refine ⟨hok, ?_, ?_, ?_⟩
  · unfold nextB
    rw [decide_eq_true_eq, hax, Int.toNat_natCast, byA_app, byA_allK, if_neg (Nat.lt_irrefl _), List.nil_append, byA_self (L := P) (fun x hx => byA_all (List.mem_of_mem_take hx)), List.length_take, h.num a ha j hj]
    omega
  · have hsub : ∀ y ∈ allK P a ++ (byA P a).take j, y ∈ P := fun y hy => by
      rcases List.mem_append.1 hy with h5 | h5
      · exact allK_mem h5
      · exact (List.mem_filter.1 (List.mem_of_mem_take h5)).1
    rw [suit_fits (fun y hy z hz e => h.one y (hsub y hy) z (hsub z hz) e) (fun y hy => ok_kind (h.ok y (hsub y hy))) (fun y hy => by have := (ok_parts (h.ok y (hsub y hy))).2.1; omega) (ok_kind hok) (by have := (ok_parts hok).2.1; omega)]
    unfold fitsB
    rw [List.all_eq_true]
    intro y hy
    rw [decide_eq_true_eq]
    intro e
    exact (spT_inj (ok_kind (h.ok y (hsub y hy))) (ok_kind hok)).2 (h.one y (hsub y hy) _ hm e)
  · rw [decide_eq_true_eq]
    intro hpos
    have hp := List.pairwise_iff_getElem.1 (allK_rise P 16) (i - 1) i (by omega) hi' (by omega)
    have e1 := ovAt_get (L := allK P 16) (k := i - 1) (by omega)
    have e2 := ovAt_get hi'
    rw [List.getElem?_eq_getElem (by omega)] at e1
    rw [List.getElem?_eq_getElem hi'] at e2
    rw [Option.some.inj e1, Option.some.inj e2, h3] at hp
    exact hp
theorem add_valid : ∀ (n : Nat) (P W : List Ov), LogP P → (∀ x ∈ P, causesB P x = true) → (∀ x ∈ W, x.ok = true) → (addL n P W).1 = 0 → LogP (addL n P W).2.1 ∧ ∀ x ∈ (addL n P W).2.1, causesB (addL n P W).2.1 x = true
  | 0, P, W, h, hc, _, _ => ⟨h, hc⟩
  | n + 1, P, W, h, hc, hw, h0 => by
    unfold addL at h0 ⊢
    cases hf : W.findIdx? (dueB P) with
    | none => exact ⟨h, hc⟩
    | some i =>
      rw [hf] at h0
      obtain ⟨hi, hd, _⟩ := List.findIdx?_eq_some_iff_getElem.1 hf
      simp only at h0 ⊢
      split at h0
      · cases h0
      · rename_i hs
        split at h0
        · cases h0
        · rename_i hl
          have hx : ovAt W i = W[i] := by
            have := ovAt_get hi
            rw [List.getElem?_eq_getElem hi] at this
            exact (Option.some.inj this).symm
          rw [if_neg hs, if_neg hl]
          unfold dueB at hd
          rw [Bool.and_eq_true, ← hx] at hd
          have hok := hw _ (ovAt_mem hi)
          refine add_valid n _ _ (h.snoc hok hd.1 (by simpa using hs) (by omega)) (fun y hy => ?_) (fun y hy => hw y (List.mem_of_mem_eraseIdx hy)) h0
          rcases List.mem_append.1 hy with h5 | h5
          · exact cause_more _ y (hc y h5)
          · obtain rfl := List.mem_singleton.1 h5
            exact cause_more _ _ hd.2
/-- What LogAdd answers with no code is a valid log. -/
theorem res_valid {L M : List Ov} (h : (resAdd L M).1 = 0) : logI (resAdd L M).2.1 = true := by
  unfold resAdd at h ⊢
  split at h
  · cases h
  · rename_i hlong
    rw [if_neg hlong]
    split at h
    · cases h
    · rename_i hno
      rw [if_neg hno]
      cases hu : unk L M with
      | none => rw [hu] at h; cases h
      | some acc =>
        rw [hu] at h
        simp only at h ⊢
        have hlog : logI L = true := by
          cases h : logI L with
          | true => rfl
          | false => exact absurd (.inl h) hno
        obtain ⟨hlen, hst, hok⟩ := logU_steps hlog
        have hokM : ∀ x ∈ M, x.ok = true := fun x hx => by
          cases h : x.ok with
          | true => rfl
          | false => exact absurd (.inr (List.any_eq_true.2 ⟨x, hx, by unfold wrongB; rw [h]; rfl⟩)) hno
        obtain ⟨-, hla, hma⟩ := unk_apart (apart_log hst (fun x hx => (ok_parts (hok x hx)).1.1)) M.reverse (by rw [List.reverse_reverse]; exact hu)
        have hc : ∀ x ∈ L, causesB L x = true := by
          unfold logI at hlog
          simp only [Bool.and_eq_true] at hlog
          exact List.all_eq_true.1 hlog.2.2
        split at h
        · rename_i h1
          rw [if_pos h1]
          obtain ⟨hp, hcl⟩ := add_valid acc.length L acc (logP_of hlog hlen hst hok) hc (fun x hx => hokM x (by simpa using hma x hx)) h1
          exact logP_valid hp hcl
        · rename_i h1
          exact absurd h h1
end Go.Proofs.YtocffojhhjdeoaaGreat
