/- How many operations a vector lacks of a log: plain facts. -/
import Derived.Test.YtfjekbfejbgneaaQSinceImplToSinceSpec
import Derived.Test.YtfjekbfejbgneaaQGrowOpsToFindOps
namespace Go.Proofs.Ytfjekbfejbgneaa
open Go.RowKit
set_option linter.unusedVariables false

/-- What ys counts less than os, of the first k actors. -/
def lackS (os ys : List Int) : Nat → Int
  | 0 => 0
  | k + 1 => lackS os ys k + max 0 (os.getD k 0 - ys.getD k 0)
theorem lackS_low (os ys : List Int) : ∀ k, 0 ≤ lackS os ys k
  | 0 => Int.le_refl _
  | k + 1 => by
    have := lackS_low os ys k
    rw [lackS]
    omega
theorem lackS_high {os ys : List Int} (h : ∀ a, a < 16 → os.getD a 0 ≤ 1024) (h' : ∀ a, a < 16 → 0 ≤ ys.getD a 0) : ∀ k, k ≤ 16 → lackS os ys k ≤ 1024 * (k : Int)
  | 0, _ => Int.le_refl _
  | k + 1, hk => by
    have := lackS_high h h' k (by omega)
    have h1 := h k (by omega)
    have h2 := h' k (by omega)
    rw [lackS]
    omega
theorem cnts_getD (L : List Ov) {a : Nat} (h : a < 16) : (cnts L).getD a 0 = ((byA L a).length : Int) := by
  rw [List.getD_eq_getElem?_getD, cnts_at L h]
  rfl
theorem since_count (ys : List Int) : ∀ L : List Ov, (sinceL ys L).length + (countL ys L).length = L.length
  | [] => rfl
  | x :: L => by
    have ih := since_count ys L
    unfold sinceL countL at ih ⊢
    by_cases h : ys.getD x.a.toNat 0 < x.s
    · rw [List.filter_cons, if_pos (decide_eq_true h), List.filter_cons, if_neg (by rw [decide_eq_true_eq]; omega)]
      simp only [List.length_cons]
      omega
    · rw [List.filter_cons, if_neg (by rw [decide_eq_true_eq]; exact h), List.filter_cons, if_pos (decide_eq_true (by omega))]
      simp only [List.length_cons]
      omega
theorem lack_cut {L : List Ov} {ys : List Int} (hy : ∀ a, a < 16 → 0 ≤ ys.getD a 0) : ∀ k, k ≤ 16 → ((allK L k).length : Int) = (cutK ys L k).length + lackS (cnts L) ys k
  | 0, _ => rfl
  | k + 1, hk => by
    have ih := lack_cut (L := L) hy k (by omega)
    have h1 := hy k (by omega)
    rw [allK, cutK, lackS, cnts_getD L (by omega), List.length_append, List.length_append, List.length_take]
    omega
/-- How many are lacking. -/
theorem lack_since {L : List Ov} {ys : List Int} (h : logI L = true) (hy : ∀ a, a < 16 → 0 ≤ ys.getD a 0) : lackS (cnts L) ys 16 = ((sinceL ys L).length : Int) := by
  obtain ⟨hlen, hst, hok⟩ := logU_steps h
  have ha : ∀ x ∈ L, 0 ≤ x.a ∧ x.a < 16 := fun x hx => (ok_parts (hok x hx)).1
  have h1 := lack_cut (L := L) hy 16 (Nat.le_refl _)
  rw [allK_self hst ha, ← countL_cut hst ha ys] at h1
  have h2 := since_count ys L
  omega
/-- Of what the log itself counts nothing is lacking. -/
theorem since_own {L : List Ov} (h : logI L = true) : sinceL (cnts L) L = [] := by
  obtain ⟨hlen, hst, hok⟩ := logU_steps h
  unfold sinceL
  refine List.filter_eq_nil_iff.2 fun x hx => ?_
  have ha := (ok_parts (hok x hx)).1
  obtain ⟨a, ea⟩ := Int.eq_ofNat_of_zero_le ha.1
  have hx2 : x ∈ byA L a := List.mem_filter.2 ⟨hx, by simpa using ea⟩
  obtain ⟨i, hi, e⟩ := List.getElem_of_mem hx2
  have hn := numbered_of hst a i hi
  have e1 := ovAt_get hi
  rw [List.getElem?_eq_getElem hi, e] at e1
  rw [← Option.some.inj e1] at hn
  rw [ea, Int.toNat_natCast, cnts_getD L (by omega)]
  simp
  omega
theorem cnts_small {L : List Ov} (h : L.length ≤ 1024) : ∀ a, a < 16 → (cnts L).getD a 0 ≤ 1024 := fun a ha => by
  rw [cnts_getD L ha]
  have : (byA L a).length ≤ L.length := List.length_filter_le _ _
  omega
theorem cnts_vec {L : List Ov} (h : L.length ≤ 1024) : vecOK (cnts L) = true := by
  have hl := cnts_len L
  unfold vecOK
  rw [decide_eq_true hl, Bool.true_and, List.all_eq_true]
  intro c hc
  obtain ⟨a, ha, e⟩ := List.getElem_of_mem hc
  have h1 := cnts_small h a (by omega)
  have h2 := cnts_getD L (a := a) (by omega)
  have h3 : (cnts L).getD a 0 = c := by rw [List.getD_eq_getElem?_getD, List.getElem?_eq_getElem ha, e]; rfl
  unfold cOK
  simp only [decide_eq_true_eq]
  omega
end Go.Proofs.Ytfjekbfejbgneaa
