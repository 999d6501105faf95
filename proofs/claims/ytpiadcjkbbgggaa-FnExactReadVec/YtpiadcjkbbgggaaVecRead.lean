/- Vectors out of bytes: plain facts. -/
import Derived.Test.YtpiadcjkbbgggaaRunsGet
import Derived.Test.YtpiadcjkbbgggaaVecBytesImpl
namespace Go.Proofs.Ytpiadcjkbbgggaa
open Go.RowKit
set_option linter.unusedVariables false

/-- At most m numbers from a place on, and the place behind them; none: one is not of the form. -/
def rdN (bs : List Int) : Nat → Nat → Option (List Int × Nat)
  | 0, p => some ([], p)
  | m + 1, p => if p < bs.length then (match getL bs p with
    | none => none
    | some (a, q) => match rdN bs m q with
      | none => none
      | some (T, r) => some (a :: T, r)) else some ([], p)
/-- Noughts behind, up to sixteen. -/
def pad (T : List Int) : List Int := T ++ List.replicate (16 - T.length) 0
theorem pad_len {T : List Int} (h : T.length ≤ 16) : (pad T).length = 16 := by simp [pad]; omega
theorem pad_get {T : List Int} (k : Nat) : (pad T).getD k 0 = T.getD k 0 := by
  unfold pad
  by_cases h : k < T.length
  · simp [List.getD, List.getElem?_append, h]
  · simp only [List.getD, List.getElem?_append, h, if_false]
    rw [List.getElem?_eq_none (show T.length ≤ k by omega)]
    by_cases h2 : k - T.length < 16 - T.length
    · rw [List.getElem?_replicate, if_pos h2]
      rfl
    · rw [List.getElem?_replicate, if_neg h2]
theorem pad_set {T : List Int} (h : T.length < 16) (a : Int) : (pad T).set T.length a = pad (T ++ [a]) := by
  unfold pad
  rw [List.set_append_right _ _ (Nat.le_refl _), Nat.sub_self, List.append_assoc]
  congr 1
  rw [show 16 - T.length = (16 - (T ++ [a]).length) + 1 by simp; omega, List.replicate_succ, List.set_cons_zero]
  rfl
/-- What is read so far, ahead of what is still to come. -/
def addV (acc : List Int) : Option (List Int × Nat) → Option (List Int × Nat)
  | none => none
  | some (T, r) => some (acc ++ T, r)
theorem addV_nil (o : Option (List Int × Nat)) : addV [] o = o := by
  cases o with
  | none => rfl
  | some z => rfl
theorem rdN_none {bs : List Int} {m p : Nat} (hp : p < bs.length) (h : getL bs p = none) : rdN bs (m + 1) p = none := by
  rw [rdN, if_pos hp, h]
theorem rdN_some {bs : List Int} {m p q : Nat} {a : Int} (hp : p < bs.length) (h : getL bs p = some (a, q)) (acc : List Int) : addV acc (rdN bs (m + 1) p) = addV (acc ++ [a]) (rdN bs m q) := by
  rw [rdN, if_pos hp, h]
  simp only
  cases rdN bs m q with
  | none => rfl
  | some z => obtain ⟨T, r⟩ := z; simp [addV]
theorem rdN_end {bs : List Int} {m p : Nat} (hp : ¬ p < bs.length) : rdN bs m p = some ([], p) := by
  cases m with
  | zero => rfl
  | succ m => rw [rdN, if_neg hp]
theorem rdN_zero (bs : List Int) (p : Nat) : rdN bs 0 p = some ([], p) := rfl
/-- What ReadVec answers. -/
def readV (bs : List Int) : Option (List Int) := match rdN bs 16 0 with
  | none => none
  | some (T, r) => if r = bs.length ∧ vecOK (pad T) = true ∧ toldN (pad T) 16 = T.length then some (pad T) else none
theorem vecOK_bad' {xs : List Int} {k : Nat} (hk : k < xs.length) (h : ¬ (0 ≤ xs[k] ∧ xs[k] ≤ 1000000000000)) : vecOK xs = false := vecOK_bad hk (by unfold cOK; exact decide_eq_false h)
/-- A count that is too great spoils all. -/
theorem readV_great {bs acc : List Int} {m q : Nat} {a : Int} (h : rdN bs 16 0 = addV (acc ++ [a]) (rdN bs m q)) (hl : acc.length < 16) (ha : ¬ (0 ≤ a ∧ a ≤ 1000000000000)) : readV bs = none := by
  unfold readV
  rw [h]
  cases rdN bs m q with
  | none => rfl
  | some z =>
    obtain ⟨T, r⟩ := z
    simp only [addV]
    rw [if_neg]
    rintro ⟨_, h2, _⟩
    have hk : acc.length < (pad (acc ++ [a] ++ T)).length := by simp [pad]
    have : (pad (acc ++ [a] ++ T))[acc.length] = a := by simp [pad]
    rw [vecOK_bad' hk (by rw [this]; exact ha)] at h2
    exact absurd h2 (by decide)
theorem readV_bad {bs acc : List Int} {m q : Nat} (h : rdN bs 16 0 = addV acc (rdN bs m q)) (hn : rdN bs m q = none) : readV bs = none := by
  unfold readV
  rw [h, hn]
  rfl
theorem readV_full {bs acc : List Int} {p : Nat} (h : rdN bs 16 0 = addV acc (rdN bs 0 p)) (hp : p < bs.length) : readV bs = none := by
  unfold readV
  rw [h]
  simp only [rdN_zero, addV, List.append_nil]
  rw [if_neg]
  rintro ⟨h1, _⟩
  omega
theorem pad_ok {acc : List Int} (hl : acc.length ≤ 16) (h : ∀ a ∈ acc, 0 ≤ a ∧ a ≤ 1000000000000) : vecOK (pad acc) = true := by
  refine vecOK_all (pad_len hl) fun k hk => ?_
  have hm : (pad acc)[k] ∈ pad acc := List.getElem_mem hk
  generalize (pad acc)[k] = y at hm
  unfold pad at hm
  unfold cOK
  rcases List.mem_append.1 hm with hm | hm
  · exact decide_eq_true (h _ hm)
  · rw [List.eq_of_mem_replicate hm]
    decide
theorem readV_end {bs acc : List Int} {m p : Nat} (h : rdN bs 16 0 = addV acc (rdN bs m p)) (hp : p = bs.length) (hl : acc.length ≤ 16) (ha : ∀ a ∈ acc, 0 ≤ a ∧ a ≤ 1000000000000) : readV bs = if toldN (pad acc) 16 = acc.length then some (pad acc) else none := by
  unfold readV
  rw [h, rdN_end (by omega)]
  simp only [addV, List.append_nil]
  by_cases ht : toldN (pad acc) 16 = acc.length
  · rw [if_pos ⟨hp, pad_ok hl ha, ht⟩, if_pos ht]
  · rw [if_neg (fun h => ht h.2.2), if_neg ht]
/-- The bytes that numbers were read from. -/
theorem rdN_bytes {bs : List Int} (hx : Bytes bs) : ∀ m p T r, p ≤ bs.length → rdN bs m p = some (T, r) → T.length ≤ m ∧ p ≤ r ∧ r ≤ bs.length ∧ bs.drop p = (T.flatMap fun a => enc a.toNat) ++ bs.drop r := by
  intro m
  induction m with
  | zero =>
    intro p T r hp h
    simp only [rdN, Option.some.injEq, Prod.mk.injEq] at h
    obtain ⟨rfl, rfl⟩ := h
    exact ⟨Nat.le_refl _, Nat.le_refl _, hp, rfl⟩
  | succ m ih =>
    intro p T r hp h
    rw [rdN] at h
    by_cases hlt : p < bs.length
    · rw [if_pos hlt] at h
      cases hG : getL bs p with
      | none => rw [hG] at h; simp at h
      | some z =>
        obtain ⟨a, q⟩ := z
        rw [hG] at h
        simp only at h
        have hok := getL_ok hx hG
        cases hR : rdN bs m q with
        | none => rw [hR] at h; simp at h
        | some y =>
          obtain ⟨T', r'⟩ := y
          rw [hR] at h
          simp only [Option.some.injEq, Prod.mk.injEq] at h
          obtain ⟨rfl, rfl⟩ := h
          obtain ⟨h1, h2, h3, h4⟩ := ih q T' r' hok.2.2.2 hR
          refine ⟨by simp; omega, by omega, h3, ?_⟩
          rw [getL_enc hx hG, h4, List.flatMap_cons, List.append_assoc]
    · rw [if_neg hlt] at h
      simp only [Option.some.injEq, Prod.mk.injEq] at h
      obtain ⟨rfl, rfl⟩ := h
      exact ⟨Nat.zero_le _, Nat.le_refl _, hp, rfl⟩
theorem bytesTo_pad (T : List Int) : ∀ k, k ≤ T.length → bytesTo (pad T) k = (T.take k).flatMap fun a => enc a.toNat := by
  intro k
  induction k with
  | zero => intro _; rfl
  | succ k ih =>
    intro hk
    rw [bytesTo, ih (by omega), List.take_succ_eq_append_getElem (show k < T.length by omega), List.flatMap_append, pad_get]
    simp [List.getD, show k < T.length by omega]
theorem told_pad (T : List Int) : ∀ k, T.length ≤ k → toldN (pad T) k ≤ T.length := by
  intro k
  induction k with
  | zero => intro h; exact Nat.zero_le _
  | succ k ih =>
    intro h
    by_cases e : T.length = k + 1
    · rw [e]; exact toldN_le _ _
    · have h0 : (pad T).getD k 0 = 0 := by
        rw [pad_get]
        simp [List.getD, List.getElem?_eq_none (show T.length ≤ k by omega)]
      rw [toldN, if_pos h0]
      exact ih (by omega)
theorem bytesTo_lt (X : List Int) (i j : Nat) (h : i < j) : (bytesTo X i).length < (bytesTo X j).length := by
  induction j with
  | zero => omega
  | succ j ih =>
    have := enc_pos (X.getD j 0).toNat
    rw [bytesTo, List.length_append]
    by_cases e : i = j
    · subst e; omega
    · have := ih (by omega); omega
/-- Written again, the bytes are the same just where no nought is at the end. -/
theorem again_iff {bs : List Int} (hx : Bytes bs) {T : List Int} (h : rdN bs 16 0 = some (T, bs.length)) : bytesTo (pad T) (toldN (pad T) 16) = bs ↔ toldN (pad T) 16 = T.length := by
  obtain ⟨h1, _, _, h4⟩ := rdN_bytes hx 16 0 T bs.length (Nat.zero_le _) h
  rw [List.drop_zero, List.drop_length, List.append_nil] at h4
  have hb : bs = bytesTo (pad T) T.length := by rw [bytesTo_pad T T.length (Nat.le_refl _), List.take_length]; exact h4
  have hle := told_pad T 16 h1
  constructor
  · intro he
    by_cases e : toldN (pad T) 16 = T.length
    · exact e
    · have := bytesTo_lt (pad T) _ _ (show toldN (pad T) 16 < T.length by omega)
      rw [he, ← hb] at this
      omega
  · intro e
    rw [e]
    exact hb.symm
def readB (bs : List Int) : List Int := match readV bs with
  | some X => X
  | none => []
def readC (bs : List Int) : Int := match readV bs with
  | some _ => 0
  | none => 3
theorem readV_len {bs : List Int} (hx : Bytes bs) {X : List Int} (h : readV bs = some X) : X.length = 16 := by
  unfold readV at h
  cases hR : rdN bs 16 0 with
  | none => rw [hR] at h; simp at h
  | some z =>
    obtain ⟨T, r⟩ := z
    rw [hR] at h
    simp only at h
    split at h
    · simp only [Option.some.injEq] at h
      subst h
      exact pad_len (rdN_bytes hx 16 0 T r (Nat.zero_le _) hR).1
    · simp at h

end Go.Proofs.Ytpiadcjkbbgggaa
