/- The law on LogOK, walked: over what the specification's LogOK answers (hsp). -/
import Derived.Test.YtnpiinjdaiobgaaLogOKImpl
import Derived.Test.YtnpiinjdaiobgaaLogSame
import Derived.Test.YtnpiinjdaiobgaaOpEq
import Derived.Test.YtnpiinjdaiobgaaOpSz
namespace Go.Proofs.Ytnpiinjdaiobgaa
open Go.RowKit
set_option linter.unusedVariables false

theorem RowO.rdL {w : World} {B g : Nat} {M L : List Ov} (h : RowO w B g L.length M) (hs : SameL M L) (hm : L.length ≤ maxLen) : RdO w.heap.size w (.slice (some ⟨g, 0, none⟩) L.length L.length) M := by
  have e := hs.1
  rw [← e] at h hm ⊢
  exact h.rd hm

set_option maxHeartbeats 2000000 in
set_option maxRecDepth 100000 in
theorem lawLogOK_walk (hsp : ∀ (C : Nat) (w : World) (v : Value) (L : List Ov), C ≤ w.heap.size → RdO C w v L → Calls Try.prog 5 #[v] w fun e w' => e = .returned (.bool (logI L)) ∧ Below w.heap.size w w')
    (w : World) (v : Value) (L : List Ov) (hr : RdO w.heap.size w v L) (ht : ∀ x ∈ L, x.ky.size ≤ maxLen ∧ x.tx.size ≤ maxLen) :
    Calls Try.prog 3 #[v] w fun e w' => e = .returned (.bool true) ∧ Below w.heap.size w w' := by
  have hz := szOpS_any w.heap.size w v L (Nat.le_refl _) hr ht
  go_enter Try.func3, Try.ntmps3
  go_wp2_with fail
  refine hz.mono ?_
  rintro e w1 ⟨⟨z, rfl, hzz⟩, hb1⟩
  rcases hzz with rfl | ⟨q, hzq, hq, hlen, hds⟩
  · go_wp2_with fail
    go_ret
    exact ⟨rfl, hb1⟩
  · have z0 : decide (z < 0) = false := by simp; omega
    have z1 : 0 ≤ z := by omega
    clear hzq hq
    have hm : L.length ≤ maxLen := by unfold maxLen; omega
    go_wp2_with fail
    refine (toOpS_any w.heap.size w1 v L hlen hds hb1.size (hr.below hb1)).mono ?_
    rintro e w2 ⟨rfl, ⟨M0, hs0, hM0⟩, hb2⟩
    have hB2 := below_seq hb1 hb2
    go_wp2_with fail
    refine (hsp _ w2 _ M0 (Nat.le_refl _) (hM0.rdL hs0 hm)).mono ?_
    rintro e w3 ⟨rfl, hb3⟩
    have hB3 := below_seq hB2 hb3
    rw [logI_same hs0]
    go_wp2_with fail
    refine (toOpS_any w.heap.size w3 v L hlen hds hB3.size (hr.below hB3)).mono ?_
    rintro e w4 ⟨rfl, ⟨M1, hs1, hM1⟩, hb4⟩
    have hB4 := below_seq hB3 hb4
    have hR4 := hM1.rdL hs1 hm
    go_wp2_with fail
    refine (implLogOK_any _ w4 _ M1 (Nat.le_refl _) hR4).mono ?_
    rintro e w5 ⟨rfl, hb5⟩
    have hB5 := below_seq hB4 hb5
    rw [logI_same hs1]
    generalize logI L = b
    have hR5 := hR4.below hb5
    have hrow1 := hM1.on hb5
    have hs5 := hb5.size
    cases b
    all_goals
      go_wp2_with fail
      refine (toOpS_any w.heap.size w5 v L hlen hds hB5.size (hr.below hB5)).mono ?_
      rintro e w6 ⟨rfl, ⟨M2, hs2, hM2⟩, hb6⟩
      have hB6 := below_seq hB5 hb6
      have hs6 := hb6.size
      have hsame : SameL M2 M1 := ⟨hs2.1.trans hs1.1.symm, fun k hk => by
        have h1 := hs1.2 k (by rw [← hs1.1]; exact hk)
        have h2 := hs2.2 k (by rw [← hs1.1]; exact hk)
        obtain ⟨a1, a2, a3, a4, a5, a6, a7, a8, a9, a10, a11, a12⟩ := h1
        obtain ⟨c1, c2, c3, c4, c5, c6, c7, c8, c9, c10, c11, c12⟩ := h2
        exact ⟨c1.trans a1.symm, c2.trans a2.symm, c3.trans a3.symm, c4.trans a4.symm, c5.trans a5.symm, c6.trans a6.symm, c7.trans a7.symm, c8.trans a8.symm, c9.trans a9.symm, c10.trans a10.symm, c11.trans a11.symm, c12.trans a12.symm⟩⟩
      have hd1 : ∀ x ∈ M1, x.ds.length ≤ 1048576 := fun x hx => by
        obtain ⟨i, hi, rfl⟩ := List.getElem_of_mem hx
        have hi' : i < L.length := by rw [← hs1.1]; exact hi
        have h1 := (hs1.2 i hi').2.2.2.1
        rw [show ovAt M1 i = M1[i] by have := ovAt_get hi; rw [List.getElem?_eq_getElem hi] at this; exact (Option.some.inj this).symm] at h1
        rw [h1]
        exact hds _ (ovAt_mem hi')
      go_wp2_with fail
      refine (eqOpS_same w4.heap.size w6.heap.size w6 _ _ M1 M2 (by rw [hs1.1]; exact hlen) hd1 (by omega) (Nat.le_refl _) (hR5.below (hb6.mono (by omega))) (hM2.rdL hs2 hm) hsame).mono ?_
      rintro e w7 ⟨rfl, hb7⟩
      go_wp2_with fail
      go_ret
      exact ⟨rfl, below_seq hB6 hb7⟩
end Go.Proofs.Ytnpiinjdaiobgaa
