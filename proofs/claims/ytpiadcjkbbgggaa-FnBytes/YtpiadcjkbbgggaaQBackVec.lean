/- Vectors come back from their bytes: plain facts. -/
import Derived.Test.YtpiadcjkbbgggaaQTextsToPutTextsSpec
import Derived.Test.YtpiadcjkbbgggaaQVecArrToVecRead
namespace Go.Proofs.Ytpiadcjkbbgggaa
open Go.RowKit Go.Lib
set_option linter.unusedVariables false

theorem rdN_back {bs : List Int} : ∀ m (T : List Int) p, T.length ≤ m → (∀ a ∈ T, 0 ≤ a ∧ a ≤ 1000000000000) → p ≤ bs.length → bs.drop p = T.flatMap (fun a => enc a.toNat) → rdN bs m p = some (T, bs.length) := by
  intro m
  induction m with
  | zero =>
    intro T p hl _ hp hd
    obtain rfl : T = [] := List.eq_nil_of_length_eq_zero (by omega)
    have := congrArg List.length hd
    simp at this
    simp [rdN]
    omega
  | succ m ih =>
    intro T p hl ha hp hd
    cases T with
    | nil =>
      have := congrArg List.length hd
      simp at this
      rw [rdN_end (by omega)]
      simp
      omega
    | cons a T =>
      rw [List.flatMap_cons] at hd
      have h0 := ha a (by simp)
      have hr := drop_room hp hd
      have he := enc_pos a.toNat
      have g := getL_back (by omega) hd
      rw [Int.toNat_of_nonneg h0.1] at g
      have h1 := ih T _ (by simpa using hl) (fun b hb => ha b (by simp [hb])) hr (drop_more hd)
      rw [rdN, if_pos (by omega), g]
      simp only
      rw [h1]
theorem told_zero (X : List Int) : ∀ k j, toldN X k ≤ j → j < k → X.getD j 0 = 0 := by
  intro k
  induction k with
  | zero => intro j _ h; omega
  | succ k ih =>
    intro j h1 h2
    simp only [toldN] at h1
    split at h1
    · rename_i hz
      by_cases he : j = k
      · subst he; exact hz
      · exact ih j h1 (by omega)
    · omega
theorem pad_told {X : List Int} (h : X.length = 16) : pad (X.take (toldN X 16)) = X := by
  have hl := toldN_le X 16
  apply List.ext_getElem
  · rw [pad_len (by simp; omega), h]
  · intro j h1 h2
    have e := pad_get (T := X.take (toldN X 16)) j
    rw [List.getD_eq_getElem?_getD, List.getElem?_eq_getElem h1, Option.getD_some] at e
    rw [e]
    by_cases hj : j < toldN X 16
    · simp [List.getD, hj, h2]
    · have hz := told_zero X 16 j (by omega) (by omega)
      rw [List.getD_eq_getElem?_getD, List.getElem?_eq_getElem h2, Option.getD_some] at hz
      rw [hz]
      rw [List.getD_eq_getElem?_getD, List.getElem?_eq_none (by simp; omega)]
      rfl
theorem readV_back {xs : List Int} (h : vecOK xs = true) : readV (vecB xs) = some xs := by
  have hl := (vecOK_get h).1
  have ht := toldN_le xs 16
  have hp := pad_told hl
  have hb : vecB xs = (xs.take (toldN xs 16)).flatMap fun a => enc a.toNat := by
    unfold vecB
    rw [if_pos h]
    have := bytesTo_pad (xs.take (toldN xs 16)) (toldN xs 16) (by simp; omega)
    rw [hp] at this
    rw [this, List.take_take, Nat.min_self]
  have hr := rdN_back (bs := vecB xs) 16 (xs.take (toldN xs 16)) 0 (by simp; omega) (fun a ha => by
    obtain ⟨j, hj, rfl⟩ := List.getElem_of_mem (List.mem_of_mem_take ha)
    exact (vecOK_get h).2 j hj) (Nat.zero_le _) (by rw [List.drop_zero]; exact hb)
  unfold readV
  rw [hr]
  simp only
  rw [hp, if_pos]
  exact ⟨trivial, h, by simp; omega⟩
theorem vecB_bytes (xs : List Int) : Bytes (vecB xs) := by
  unfold vecB
  split
  · have : ∀ k, Bytes (bytesTo xs k) := by
      intro k
      induction k with
      | zero => intro c hc; simp [bytesTo] at hc
      | succ k ih => exact Bytes.app ih (Bytes.enc _)
    exact this _
  · intro c hc; simp at hc
theorem vecB_len (xs : List Int) : (vecB xs).length ≤ 160 := by
  unfold vecB
  split
  · rename_i h
    have : ∀ k, (bytesTo xs k).length ≤ 10 * k := by
      intro k
      induction k with
      | zero => simp [bytesTo]
      | succ k ih =>
        have h1 := vec_get h k
        have h2 := enc_len (n := (xs.getD k 0).toNat) (by omega)
        simp only [bytesTo, List.length_append]
        omega
    have h1 := this (toldN xs 16)
    have h2 := toldN_le xs 16
    omega
  · simp
end Go.Proofs.Ytpiadcjkbbgggaa
