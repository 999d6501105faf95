/- One round of pdqsort at stamps, said in plain values; that it sorts. -/
import Derived.Sort.Walk13a
import Derived.Sort.AssemblyPlain
import Derived.Test.YtfnlnigeaioocaaGreatQSortHeapToSortPiv
namespace Go.Proofs.YtfnlnigeaioocaaGreat
open Go.RowKit
open Go.Sort (swp insertionSort heapSort breakPatterns choosePivot reverseRange partialInsertionSort partitionEqual partition pdq Hint SWO PermIn SortedIn rd rd_facts rd_dec rd_not rd_pi_yes rd_pi_no rd_lim_le pdq_done pdq_eq pdq_left pdq_right pdq_sorts round_part round_eq partition_holds partitionEqual_holds partialInsertionSort_holds reverseRange_holds)
set_option linter.unusedVariables false

theorem ltS_iff (x y : Sp) : ltS x y = true ↔ (x.1 < y.1 ∨ x.1 = y.1 ∧ x.2 < y.2) := by simp [ltS, lessS]
theorem ltS_not (x y : Sp) : ltS x y = false ↔ ¬ (x.1 < y.1 ∨ x.1 = y.1 ∧ x.2 < y.2) := by simp only [ltS, lessS, decide_eq_false_iff_not]
theorem swoS : SWO ltS where
  irrefl x := by rw [ltS_not]; omega
  trans x y z h1 h2 := by rw [ltS_iff] at *; omega
  ntrans x y z h1 h2 := by rw [ltS_not] at *; omega
/-- What one round of the sort comes to: the values ahead of the partition, and what is left to do. -/
structure Rnd (dk : Array Sp) (a b lim : Nat) (wb wp : Bool) (d1 : Array Sp) (lm c : Nat) (h : Hint) (d2 : Array Sp) (pv : Nat) (hint : Hint) (d3 : Array Sp) (done : Bool) : Prop where
  brk : wb = false → d1 = breakPatterns dk a b ∧ lm = lim - 1
  nbrk : wb = true → d1 = dk ∧ lm = lim
  piv : choosePivot ltS d1 a b = (c, h)
  dec : h = .decreasing → d2 = reverseRange d1 a b ∧ pv = (b - 1) - (c - a) ∧ hint = .increasing
  ndec : h ≠ .decreasing → d2 = d1 ∧ pv = c ∧ hint = h
  yes : (wb && wp && decide (hint = .increasing)) = true → partialInsertionSort ltS d2 a b = (d3, done)
  no : (wb && wp && decide (hint = .increasing)) = false → d3 = d2 ∧ done = false
  s1 : d1.size = dk.size
  s2 : d2.size = dk.size
  s3 : d3.size = dk.size
  c0 : a ≤ c
  c1 : c < b
  p0 : a ≤ pv
  p1 : pv < b
  lmle : lm ≤ lim
  ready : done = true → pdq ltS dk a b lim wb wp = d3
  eq : done = false → 0 < a → ltS d3[a - 1]! d3[pv]! = false → ∀ mid d4, partitionEqual ltS d3 a b pv = (mid, d4) → a < mid ∧ mid ≤ b ∧ d4.size = dk.size ∧ Go.Sort.Below ltS mid b d4 ∧ pdq ltS dk a b lim wb wp = pdq ltS d4 mid b lm wb wp
  part : done = false → (a = 0 ∨ ltS d3[a - 1]! d3[pv]! = true) → ∀ mid ap d4, partition ltS d3 a b pv = (mid, ap, d4) → a ≤ mid ∧ mid < b ∧ d4.size = dk.size ∧ Go.Sort.Below ltS a mid d4 ∧ Go.Sort.Below ltS (mid + 1) b d4 ∧
    (mid - a < b - mid → ∀ d5, pdq ltS d4 a mid lm true true = d5 → d5.size = dk.size ∧ Go.Sort.Below ltS (mid + 1) b d5 ∧ pdq ltS dk a b lim wb wp = pdq ltS d5 (mid + 1) b lm (decide (mid - a ≥ (b - a) / 8)) ap) ∧
    (¬ mid - a < b - mid → ∀ d5, pdq ltS d4 (mid + 1) b lm true true = d5 → d5.size = dk.size ∧ Go.Sort.Below ltS a mid d5 ∧ pdq ltS dk a b lim wb wp = pdq ltS d5 a mid lm (decide (b - mid ≥ (b - a) / 8)) ap)
theorem rnd_at (dk : Array Sp) (a b lim : Nat) (wb wp : Bool) (h12 : ¬ b - a ≤ 12) (hl0 : ¬ lim = 0) (hb : b ≤ dk.size) (hB : Go.Sort.Below ltS a b dk) : ∃ d1 lm c h d2 pv hint d3 done, Rnd dk a b lim wb wp d1 lm c h d2 pv hint d3 done := by
  obtain ⟨s1, B1, hc1, s2, B2, hpv, s3, B3⟩ := rd_facts (limit := lim) (wb := wb) (wp := wp) swoS partialInsertionSort_holds reverseRange_holds (show a < b by omega) hb hB
  refine ⟨(rd ltS dk a b lim wb wp).d1, (rd ltS dk a b lim wb wp).lim, (rd ltS dk a b lim wb wp).c.1, (rd ltS dk a b lim wb wp).c.2, (rd ltS dk a b lim wb wp).d2, (rd ltS dk a b lim wb wp).pivot, (rd ltS dk a b lim wb wp).hint, (rd ltS dk a b lim wb wp).pi.1, (rd ltS dk a b lim wb wp).pi.2, ?_⟩
  refine ⟨fun h => by subst h; exact ⟨rfl, rfl⟩, fun h => by subst h; exact ⟨rfl, rfl⟩, rfl, rd_dec, rd_not, fun h => (rd_pi_yes h).symm, fun h => by rw [rd_pi_no h]; exact ⟨rfl, rfl⟩, s1, s2, s3, hc1.1, hc1.2, hpv.1, hpv.2, rd_lim_le, fun h => pdq_done h12 hl0 h, ?_, ?_⟩
  · intro hd ha hl mid d4 hx
    obtain ⟨r1, r2, r3, r4, _⟩ := round_eq swoS (partitionEqual_holds ltS) ha hpv.1 hpv.2 (by rw [s3]; exact hb) B3 hl hx
    refine ⟨r1, r2, r3.trans s3, r4, ?_⟩
    rw [pdq_eq h12 hl0 hd (by simp [ha, hl]) (by rw [hx]; exact ⟨r1, r2⟩), hx]
  · intro hd hl mid ap d4 hx
    obtain ⟨r1, r2, r3, r4, r5, r6, r7⟩ := round_part swoS (partition_holds ltS) hpv.1 hpv.2 (by rw [s3]; exact hb) B3 hx
    have hs4 : d4.size = dk.size := r3.trans s3
    have h87 : (decide (a > 0) && !ltS (rd ltS dk a b lim wb wp).pi.1[a - 1]! (rd ltS dk a b lim wb wp).pi.1[(rd ltS dk a b lim wb wp).pivot]!) = false := by
      rcases hl with hl | hl
      · simp [hl]
      · simp [hl]
    refine ⟨r1, r2, hs4, r4, r5, ?_, ?_⟩
    · intro h4 d5 h5
      obtain ⟨pL, sL⟩ := pdq_sorts ltS swoS d4 a mid (rd ltS dk a b lim wb wp).lim true true (by omega) (by omega) r4
      rw [h5] at pL sL
      refine ⟨pL.1.trans hs4, (r6 _ pL sL).1, ?_⟩
      rw [pdq_left h12 hl0 hd h87 (by rw [hx]; exact ⟨r1, r2⟩) (by rw [hx]; exact h4), hx, h5]
    · intro h4 d5 h5
      obtain ⟨pL, sL⟩ := pdq_sorts ltS swoS d4 (mid + 1) b (rd ltS dk a b lim wb wp).lim true true (by omega) (by omega) r5
      rw [h5] at pL sL
      refine ⟨pL.1.trans hs4, (r7 _ pL sL).1, ?_⟩
      rw [pdq_right h12 hl0 hd h87 (by rw [hx]; exact ⟨r1, r2⟩) (by rw [hx]; exact h4), hx, h5]
/-- The whole row: a permutation, in order. -/
theorem pdq_list (d : Array Sp) (limit : Nat) : (pdq ltS d 0 d.size limit true true).size = d.size ∧ (pdq ltS d 0 d.size limit true true).toList.Perm d.toList ∧ (pdq ltS d 0 d.size limit true true).toList.Pairwise leS := by
  obtain ⟨⟨p1, p2, p3⟩, s⟩ := pdq_sorts ltS swoS d 0 d.size limit true true (Nat.zero_le _) (Nat.le_refl _) (Or.inl rfl)
  refine ⟨p1, ?_, ?_⟩
  · have e1 : (pdq ltS d 0 d.size limit true true).extract 0 d.size = pdq ltS d 0 d.size limit true true := by
      generalize pdq ltS d 0 d.size limit true true = z at p1 ⊢
      rw [← p1]
      simp
    have e2 : d.extract 0 d.size = d := by simp
    rw [e1, e2] at p3
    exact p3
  · rw [List.pairwise_iff_getElem]
    intro i j hi hj hij
    simp only [Array.length_toList] at hi hj
    have := s i j (Nat.zero_le _) hij (by omega)
    unfold leS
    rw [Array.getElem_toList, Array.getElem_toList]
    have h1 : (pdq ltS d 0 d.size limit true true)[i]! = (pdq ltS d 0 d.size limit true true)[i] := getElem!_pos _ i hi
    have h2 : (pdq ltS d 0 d.size limit true true)[j]! = (pdq ltS d 0 d.size limit true true)[j] := getElem!_pos _ j hj
    rw [h1, h2] at this
    exact this

end Go.Proofs.YtfnlnigeaioocaaGreat
