/- FnExactLensFlip answers true at every argument, by what the code's LensFlip and the specification's answer. -/
import Derived.Test.YtmhfchgbciiaiaaLensFlipSpec
import Derived.Test.YtmhfchgbciiaiaaOwRows
namespace Go.Proofs.Ytmhfchgbciiaiaa
open Go.RowKit
set_option linter.unusedVariables false

set_option maxHeartbeats 4000000 in
set_option maxRecDepth 100000 in
theorem lawLensFlip_walk (w : World) (v0 : Value) (L0 : List St) (h0 : RdSt w.heap.size w v0 L0) (n0 : L0.length ≤ maxLen) (s0 : ∀ k, (stAt L0 k).2.1.size ≤ maxLen ∧ (stAt L0 k).2.2.1.size ≤ maxLen ∧ (stAt L0 k).2.2.2.size ≤ maxLen) :
    Calls Try.prog 4 #[v0] w fun e w' => e = .returned (.bool true) ∧ Below w.heap.size w w' := by
  have n0' : L0.length ≤ 9223372036854775807 := Nat.le_trans n0 (by decide)
  have s0' : ∀ k, (stAt L0 k).2.1.size ≤ 9223372036854775807 ∧ (stAt L0 k).2.2.1.size ≤ 9223372036854775807 ∧ (stAt L0 k).2.2.2.size ≤ 9223372036854775807 := fun k => s0 k
  have H0 : Hid (RdSt w.heap.size w v0 L0) := h0
  obtain ⟨a0, c0, rfl, _⟩ := h0
  have hB := Below.refl w.heap.size w
  have H63 : Hid (∀ x : Nat, x ≤ 16777216 → decide ((x : Int) < 0) = false) := fun x _ => decide_eq_false (by omega)
  go_enter Try.func4, Try.ntmps4
  go_wp2_with fail
  refine (szStepS_any w.heap.size w (.slice a0 L0.length c0) L0 1048576 (by omega) (by omega) n0' s0' hB.size (H0.out.on (Nat.le_refl _) hB)).mono ?_
  rintro e w1 ⟨⟨x0, rfl, x0a, x0b, x0c⟩, hb⟩
  have zw1 : w.heap.size ≤ w1.heap.size := hb.size
  replace hB := below_seq hB hb
  clear hb
  by_cases hx0 : x0 < 0
  · go_wp2_with fail
    go_ret
    exact ⟨rfl, hB⟩
  have hd0 : decide (x0 < 0) = false := by simp; omega
  have hp0 : 0 ≤ x0 := by omega
  have l0 := x0c hp0
  clear hx0 x0c n0' s0' n0 s0
  have lj : (flipL L0).length ≤ 1048576 := flipL_len L0
  have hSp := specFlip_any
  have hIm := implFlip_any
  have HSI : Hid ((∀ (C : Nat) (w : World) (v0 : Value), L0.length ≤ 1048576 → C ≤ w.heap.size → RdM 4 C w v0 L0.length (stCs L0) → Calls Try.prog 18 #[v0] w fun e w' => ∃ r, e = .returned (.tuple #[r, .int .i64 (flipC L0)]) ∧ OwnSt w' w.heap.size r (flipL L0) ∧ Below w.heap.size w w') ∧ (∀ (C : Nat) (w : World) (v0 : Value), L0.length ≤ 1048576 → C ≤ w.heap.size → RdM 4 C w v0 L0.length (stCs L0) → Calls Try.prog 19 #[v0] w fun e w' => ∃ r, e = .returned (.tuple #[r, .int .i64 (flipC L0)]) ∧ OwnSt w' w.heap.size r (flipL L0) ∧ Below w.heap.size w w')) := ⟨fun C w v0 => specFlip_any C w v0 L0, fun C w v0 => implFlip_any C w v0 L0⟩
  clear hSp hIm
  generalize (flipL L0) = JL at *
  generalize (flipC L0) = JC at *
  go_wp2_with fail
  refine (toStepS_any w.heap.size w1 (.slice a0 L0.length c0) L0 l0 hB.size (H0.out.on (Nat.le_refl _) hB)).mono ?_
  rintro e w2 ⟨rfl, ho, hb⟩
  have Y0 : Hid (Ow 50 4 w2 w1.heap.size w2.heap.size (.slice (some ⟨w1.heap.size, 0, none⟩) L0.length L0.length) L0.length (stCs L0)) := Ow.mk ho
  have zw2 : w1.heap.size ≤ w2.heap.size := hb.size
  clear ho
  replace hB := below_seq hB hb
  clear hb
  clear hd0
  go_wp2_with fail
  refine ((Hid.out HSI).1 w2.heap.size w2 _ l0 (Nat.le_refl _) (Hid.out Y0).rd).mono ?_
  rintro e w3 ⟨Rv, rfl, ho, hb⟩
  have R : Hid (Ow 50 4 w3 w2.heap.size w3.heap.size Rv JL.length (stCs JL)) := Ow.mk ho
  obtain ⟨Ra, Rc, Re⟩ := Ow.shape (Hid.out R)
  subst Re
  have zw3 : w2.heap.size ≤ w3.heap.size := hb.size
  clear ho
  replace Y0 := Ow.onH Y0 hb
  replace hB := below_seq hB hb
  clear hb
  clear Y0
  go_wp2_with fail
  refine (toStepS_any w.heap.size w3 (.slice a0 L0.length c0) L0 l0 hB.size (H0.out.on (Nat.le_refl _) hB)).mono ?_
  rintro e w4 ⟨rfl, ho, hb⟩
  have X0 : Hid (Ow 50 4 w4 w3.heap.size w4.heap.size (.slice (some ⟨w3.heap.size, 0, none⟩) L0.length L0.length) L0.length (stCs L0)) := Ow.mk ho
  have zw4 : w3.heap.size ≤ w4.heap.size := hb.size
  clear ho
  replace R := Ow.onH R hb
  replace hB := below_seq hB hb
  clear hb
  go_wp2_with fail
  refine ((Hid.out HSI).2 w4.heap.size w4 _ l0 (Nat.le_refl _) (Hid.out X0).rd).mono ?_
  rintro e w5 ⟨Gv, rfl, ho, hb⟩
  have G : Hid (Ow 50 4 w5 w4.heap.size w5.heap.size Gv JL.length (stCs JL)) := Ow.mk ho
  obtain ⟨Ga, Gc, Ge⟩ := Ow.shape (Hid.out G)
  subst Ge
  have zw5 : w4.heap.size ≤ w5.heap.size := hb.size
  clear ho
  replace R := Ow.onH R hb
  replace X0 := Ow.onH X0 hb
  replace hB := below_seq hB hb
  clear hb
  go_wp2_with fail
  refine (eqStepS_same w5.heap.size w5.heap.size w5 _ _ JL (by omega) (Nat.le_refl _) (Nat.le_refl _) (Hid.out G).rd.st (Hid.out R).rd.st).mono ?_
  rintro e w6 ⟨rfl, hb⟩
  have zw6 : w5.heap.size ≤ w6.heap.size := hb.size
  replace R := Ow.onH R hb
  replace X0 := Ow.onH X0 hb
  replace G := Ow.onH G hb
  replace hB := below_seq hB hb
  clear hb
  go_wp2_with fail
  refine (toStepS_any w.heap.size w6 (.slice a0 L0.length c0) L0 l0 hB.size (H0.out.on (Nat.le_refl _) hB)).mono ?_
  rintro e w7 ⟨rfl, ho, hb⟩
  have Z0 : Hid (Ow 50 4 w7 w6.heap.size w7.heap.size (.slice (some ⟨w6.heap.size, 0, none⟩) L0.length L0.length) L0.length (stCs L0)) := Ow.mk ho
  have zw7 : w6.heap.size ≤ w7.heap.size := hb.size
  clear ho
  replace R := Ow.onH R hb
  replace X0 := Ow.onH X0 hb
  replace G := Ow.onH G hb
  replace hB := below_seq hB hb
  clear hb
  go_wp2_with fail
  refine (eqStepS_same w7.heap.size w7.heap.size w7 _ _ L0 (by omega) (Nat.le_refl _) (Nat.le_refl _) (Hid.out X0).rd.st (Hid.out Z0).rd.st).mono ?_
  rintro e w8 ⟨rfl, hb⟩
  have zw8 : w7.heap.size ≤ w8.heap.size := hb.size
  replace R := Ow.onH R hb
  replace X0 := Ow.onH X0 hb
  replace G := Ow.onH G hb
  replace Z0 := Ow.onH Z0 hb
  replace hB := below_seq hB hb
  clear hb
  clear Z0
  go_wp2_with fail
  refine (markStepS_own _ w8 _ L0 1 l0 (by omega) (Hid.out X0).1).mono ?_
  rintro e w9 ⟨rfl, ho, hg⟩
  replace R := Ow.awayH R hg X0 (by omega)
  replace G := Ow.awayH G hg X0 (by omega)
  replace hB := Ow.grown hB hg (Hid.out X0) (by omega)
  have zw9 : w8.heap.size ≤ w9.heap.size := hg.size
  clear ho hg X0
  have hk9 := H63.out (1 + 4 * L0.length) (by omega)
  generalize hkk : ((1 + 4 * L0.length : Nat) : Int) = kk at hk9 ⊢
  have hk8 : 0 ≤ kk := by omega
  clear hkk
  go_wp2_with fail
  refine (eqStepS_same w9.heap.size w9.heap.size w9 _ _ JL (by omega) (Nat.le_refl _) (Nat.le_refl _) (Hid.out G).rd.st (Hid.out R).rd.st).mono ?_
  rintro e w10 ⟨rfl, hb⟩
  have zw10 : w9.heap.size ≤ w10.heap.size := hb.size
  replace R := Ow.onH R hb
  replace G := Ow.onH G hb
  replace hB := below_seq hB hb
  clear hb
  clear hk9 hk8
  go_wp2_with fail
  refine (markStepS_own _ w10 _ JL 1 lj (by omega) (Hid.out G).1).mono ?_
  rintro e w11 ⟨rfl, ho, hg⟩
  replace R := Ow.awayH R hg G (by omega)
  replace hB := Ow.grown hB hg (Hid.out G) (by omega)
  have hG9 := (Hid.out G).2
  have zw11 : w10.heap.size ≤ w11.heap.size := hg.size
  clear G
  have G : Hid (Ow 50 4 w11 _ _ _ (marksSt 1 JL.length).length (stCs (marksSt 1 JL.length))) := ⟨ho, hG9⟩
  clear ho hg hG9
  have hk9 := H63.out (1 + 4 * JL.length) (by omega)
  generalize hkk : ((1 + 4 * JL.length : Nat) : Int) = mm at hk9 ⊢
  have hk8 : 0 ≤ mm := by omega
  have HKK : Hid _ := hkk
  clear hkk
  go_wp2_with fail
  refine (heldStepS_same w11.heap.size w11 _ 1 JL.length lj (by omega) (Nat.le_refl _) (Hid.out G).rd.st).mono ?_
  rintro e w12 ⟨rfl, hb⟩
  rw [HKK.out]
  have zw12 : w11.heap.size ≤ w12.heap.size := hb.size
  replace R := Ow.onH R hb
  replace G := Ow.onH G hb
  replace hB := below_seq hB hb
  clear hb
  go_wp2_with fail
  refine (toStepS_any w.heap.size w12 (.slice a0 L0.length c0) L0 l0 hB.size (H0.out.on (Nat.le_refl _) hB)).mono ?_
  rintro e w13 ⟨rfl, ho, hb⟩
  have Y0 : Hid (Ow 50 4 w13 w12.heap.size w13.heap.size (.slice (some ⟨w12.heap.size, 0, none⟩) L0.length L0.length) L0.length (stCs L0)) := Ow.mk ho
  have zw13 : w12.heap.size ≤ w13.heap.size := hb.size
  clear ho
  replace R := Ow.onH R hb
  replace G := Ow.onH G hb
  replace hB := below_seq hB hb
  clear hb
  go_wp2_with fail
  refine ((Hid.out HSI).2 w13.heap.size w13 _ l0 (Nat.le_refl _) (Hid.out Y0).rd).mono ?_
  rintro e w14 ⟨Qv, rfl, ho, hb⟩
  have Q : Hid (Ow 50 4 w14 w13.heap.size w14.heap.size Qv JL.length (stCs JL)) := Ow.mk ho
  obtain ⟨Qa, Qc, Qe⟩ := Ow.shape (Hid.out Q)
  subst Qe
  have zw14 : w13.heap.size ≤ w14.heap.size := hb.size
  clear ho
  replace R := Ow.onH R hb
  replace G := Ow.onH G hb
  replace Y0 := Ow.onH Y0 hb
  replace hB := below_seq hB hb
  clear hb
  clear Y0
  go_wp2_with fail
  refine (eqStepS_same w14.heap.size w14.heap.size w14 _ _ JL (by omega) (Nat.le_refl _) (Nat.le_refl _) (Hid.out Q).rd.st (Hid.out R).rd.st).mono ?_
  rintro e w15 ⟨rfl, hb⟩
  have zw15 : w14.heap.size ≤ w15.heap.size := hb.size
  replace R := Ow.onH R hb
  replace G := Ow.onH G hb
  replace Q := Ow.onH Q hb
  replace hB := below_seq hB hb
  clear hb
  clear Q
  go_wp2_with fail
  refine (heldStepS_same w15.heap.size w15 _ 1 JL.length lj (by omega) (Nat.le_refl _) (Hid.out G).rd.st).mono ?_
  rintro e w16 ⟨rfl, hb⟩
  rw [HKK.out]
  have zw16 : w15.heap.size ≤ w16.heap.size := hb.size
  replace R := Ow.onH R hb
  replace G := Ow.onH G hb
  replace hB := below_seq hB hb
  clear hb
  go_wp2_with fail
  go_ret
  exact ⟨rfl, hB⟩
end Go.Proofs.Ytmhfchgbciiaiaa
