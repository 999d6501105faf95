/- The bytes of an operation: plain facts. -/
import Derived.Test.YtaglbacicpknaaaOpSpecBase
import Derived.Test.YtaglbacicpknaaaRunsBase
import Derived.Test.YtaglbacicpknaaaTextsBase
namespace Go.Proofs.Ytaglbacicpknaaa
open Go.RowKit
set_option linter.unusedVariables false

/-- The numbers of an operation, in the order in which they stand in bytes. -/
def numsO (a s t k o n u pt pa : Int) (ds : List Int) : List Int := [a, s, t, k, o, ((foldS n : Nat) : Int), u, pt, pa] ++ ds
/-- Its bytes. -/
def opBy (a s t k o n u pt pa : Int) (ky tx : ByteArray) (ds : List Int) : List Int := putR (numsO a s t k o n u pt pa ds) ++ putN [ky, tx] 2
structure OpFacts (a s t k o n u pt pa : Int) (ky tx : ByteArray) (ds : List Int) : Prop where
  ha : 0 ≤ a ∧ a < 16
  hs : 1 ≤ s ∧ s ≤ 1000000000000
  ht : 1 ≤ t ∧ t ≤ 1000000000000
  hk : 1 ≤ k ∧ k ≤ 4
  ho : 1 ≤ o ∧ o ≤ 100
  hn : -1000000000000 ≤ n ∧ n ≤ 1000000000000
  hu : 0 ≤ u ∧ u < s
  hpt : 0 ≤ pt ∧ pt ≤ 1000000000000
  hpa : 0 ≤ pa ∧ pa < 16
  hky : ky.size ≤ 200
  htx : tx.size ≤ 200
  hds : vecOK ds = true
theorem says_facts {k n pt pa : Int} {ky tx : ByteArray} (h : saysOK k n pt pa ky tx = true) : (1 ≤ k ∧ k ≤ 4) ∧ (-1000000000000 ≤ n ∧ n ≤ 1000000000000) ∧ ky.size ≤ 200 ∧ tx.size ≤ 200 := by
  unfold saysOK at h
  split at h
  · simp only [Bool.and_eq_true, decide_eq_true_eq] at h
    omega
  · split at h
    · simp only [Bool.and_eq_true, decide_eq_true_eq, chOK] at h
      have h1 := size_nil h.2.1
      have h2 := size_nil h.2.2
      omega
    · split at h
      · simp only [Bool.and_eq_true, decide_eq_true_eq] at h
        have h1 := size_nil h.2.2.1
        have h2 := size_nil h.2.2.2
        omega
      · split at h
        · simp only [Bool.and_eq_true, decide_eq_true_eq] at h
          have h1 := size_nil h.2.2.2.1
          have h2 := size_nil h.2.2.2.2
          omega
        · simp at h
theorem op_facts {a s t k o n u pt pa : Int} {ky tx : ByteArray} {ds : List Int} (h : opB a s t k o n u pt pa ky tx ds = true) : OpFacts a s t k o n u pt pa ky tx ds := by
  unfold opB comesOK stOK okS stOK at h
  simp only [Bool.and_eq_true, Bool.or_eq_true, decide_eq_true_eq] at h
  obtain ⟨h1, h2, h3, h4, h5, h6, h7, h8⟩ := h
  obtain ⟨k1, k2, k3, k4⟩ := says_facts h8
  obtain ⟨⟨⟨⟨c1, c2⟩, c3⟩, c4⟩, c5⟩ := h1
  exact ⟨by omega, by omega, by omega, k1, by omega, k2, by omega, by omega, by omega, k3, k4, c4⟩
theorem nums_len {a s t k o n u pt pa : Int} {ds : List Int} (h : ds.length = 16) : (numsO a s t k o n u pt pa ds).length = 25 := by
  simp [numsO, h]
theorem nums_ok {a s t k o n u pt pa : Int} {ky tx : ByteArray} {ds : List Int} (h : OpFacts a s t k o n u pt pa ky tx ds) : runsOK (numsO a s t k o n u pt pa ds) = true := by
  obtain ⟨h1, h2⟩ := vecOK_get h.hds
  have hf := foldS_le (d := n) (by have := h.hn; omega) (by have := h.hn; omega)
  have hf2 : foldS n ≤ 2000000000000 := by
    have := h.hn
    unfold foldS
    split <;> omega
  refine runsOK_of fun j hj => ?_
  rw [nums_len h1] at hj
  unfold numsO nth
  by_cases hj9 : 9 ≤ j
  · obtain ⟨i, rfl⟩ : ∃ i, j = 9 + i := ⟨j - 9, by omega⟩
    have e : ([a, s, t, k, o, ((foldS n : Nat) : Int), u, pt, pa] ++ ds).getD (9 + i) 0 = ds.getD i 0 := by
      simp only [List.getD_eq_getElem?_getD]
      rw [List.getElem?_append_right (by simp)]
      simp
    rw [e]
    have := h2 i (by omega)
    rw [List.getD_eq_getElem?_getD, List.getElem?_eq_getElem (show i < ds.length by omega)]
    simp only [Option.getD_some]
    omega
  · have e : ([a, s, t, k, o, ((foldS n : Nat) : Int), u, pt, pa] ++ ds).getD j 0 = [a, s, t, k, o, ((foldS n : Nat) : Int), u, pt, pa].getD j 0 := by
      simp only [List.getD_eq_getElem?_getD]
      rw [List.getElem?_append_left (by simp; omega)]
    rw [e]
    have q1 := h.ha
    have q2 := h.hs
    have q3 := h.ht
    have q4 := h.hk
    have q5 := h.ho
    have q6 := h.hu
    have q7 := h.hpt
    have q8 := h.hpa
    match j, hj9 with
    | 0, _ => simp; omega
    | 1, _ => simp; omega
    | 2, _ => simp; omega
    | 3, _ => simp; omega
    | 4, _ => simp; omega
    | 5, _ => simp; omega
    | 6, _ => simp; omega
    | 7, _ => simp; omega
    | 8, _ => simp; omega
    | j + 9, hj => omega
theorem tot2 (ky tx : ByteArray) : tot [ky, tx] 2 = ky.size + tx.size := by simp [tot, txt]
theorem texts2 {ky tx : ByteArray} (h1 : ky.size ≤ 200) (h2 : tx.size ≤ 200) : (putN [ky, tx] 2).length ≤ 450 := by
  have := putN_len [ky, tx] (by simp) 2 (by rw [tot2]; omega) 2 (Nat.le_refl _)
  rw [tot2] at this
  omega
theorem texts2_ans {ky tx : ByteArray} (h1 : ky.size ≤ 200) (h2 : tx.size ≤ 200) : putTextsB [ky, tx] = putN [ky, tx] 2 ∧ putTextsC [ky, tx] = 0 :=
  putTexts_yes (ss := [ky, tx]) ⟨by simp, by show tot [ky, tx] 2 ≤ _; rw [tot2]; omega, by have := texts2 h1 h2; show (putN [ky, tx] 2).length ≤ _; omega⟩
theorem nums_ans {a s t k o n u pt pa : Int} {ky tx : ByteArray} {ds : List Int} (h : OpFacts a s t k o n u pt pa ky tx ds) : putRunsB (numsO a s t k o n u pt pa ds) = putR (numsO a s t k o n u pt pa ds) ∧ putRunsC (numsO a s t k o n u pt pa ds) = 0 :=
  putRuns_ok (by rw [nums_len (vecOK_get h.hds).1]; omega) (nums_ok h)
theorem opBy_len {a s t k o n u pt pa : Int} {ky tx : ByteArray} {ds : List Int} (h : OpFacts a s t k o n u pt pa ky tx ds) : (opBy a s t k o n u pt pa ky tx ds).length ≤ 1250 := by
  have h1 := putRF_len (nums_ok h) (by rw [nums_len (vecOK_get h.hds).1]; omega) (numsO a s t k o n u pt pa ds).length 0
  have h2 := texts2 h.hky h.htx
  have h3 := enc_len (n := (numsO a s t k o n u pt pa ds).length) (by rw [nums_len (vecOK_get h.hds).1]; omega)
  rw [nums_len (vecOK_get h.hds).1] at h1 h3
  unfold opBy putR
  simp only [List.length_append]
  rw [nums_len (vecOK_get h.hds).1]
  omega
end Go.Proofs.Ytaglbacicpknaaa
