/- FnExactLensForward answers true at every argument, by what the code's LensForward and the specification's answer. -/
import Derived.Test.YtaiaffhphejjcaaLensFwdSpec
import Derived.Test.YtaiaffhphejjcaaStepRows
import Derived.Test.YtaiaffhphejjcaaOwRows
namespace Go.Proofs.Ytaiaffhphejjcaa
open Go.RowKit
set_option linter.unusedVariables false

set_option maxHeartbeats 4000000 in
set_option maxRecDepth 100000 in
theorem lawLensForward_walk (w : World) (v0 : Value) (v1 : Value) (L0 : List St) (L1 : List Pr) (h0 : RdSt w.heap.size w v0 L0) (n0 : L0.length ≤ maxLen) (s0 : ∀ k, (stAt L0 k).2.1.size ≤ maxLen ∧ (stAt L0 k).2.2.1.size ≤ maxLen ∧ (stAt L0 k).2.2.2.size ≤ maxLen) (h1 : RdPr w.heap.size w v1 L1) (n1 : L1.length ≤ maxLen) (s1 : ∀ k, (prAt L1 k).1.size ≤ maxLen ∧ (prAt L1 k).2.size ≤ maxLen) :
    Calls Try.prog 3 #[v0, v1] w fun e w' => e = .returned (.bool true) ∧ Below w.heap.size w w' := by
  have n0' : L0.length ≤ 9223372036854775807 := Nat.le_trans n0 (by decide)
  have s0' : ∀ k, (stAt L0 k).2.1.size ≤ 9223372036854775807 ∧ (stAt L0 k).2.2.1.size ≤ 9223372036854775807 ∧ (stAt L0 k).2.2.2.size ≤ 9223372036854775807 := fun k => s0 k
  have H0 : Hid (RdSt w.heap.size w v0 L0) := h0
  obtain ⟨a0, c0, rfl, _⟩ := h0
  have n1' : L1.length ≤ 9223372036854775807 := Nat.le_trans n1 (by decide)
  have s1' : ∀ k, (prAt L1 k).1.size ≤ 9223372036854775807 ∧ (prAt L1 k).2.size ≤ 9223372036854775807 := fun k => s1 k
  have H1 : Hid (RdPr w.heap.size w v1 L1) := h1
  obtain ⟨a1, c1, rfl, _⟩ := h1
  have hB := Below.refl w.heap.size w
  have H63 : Hid (∀ x : Nat, x ≤ 16777216 → decide ((x : Int) < 0) = false) := fun x _ => decide_eq_false (by omega)
  go_enter Try.func3, Try.ntmps3
  go_wp2_with fail
  refine (szStepS_any w.heap.size w (.slice a0 L0.length c0) L0 1048576 (by omega) (by omega) n0' s0' hB.size (H0.out.on (Nat.le_refl _) hB)).mono ?_
  rintro e w1 ⟨⟨x0, rfl, x0a, x0b, x0c⟩, hb⟩
  have zw1 : w.heap.size ≤ w1.heap.size := hb.size
  replace hB := below_seq hB hb
  clear hb
  by_cases hx0 : x0 < 0
  · go_wp2_with fail
    go_ret
    exact ⟨rfl, hB⟩
  have hd0 : decide (x0 < 0) = false := by simp; omega
  have hp0 : 0 ≤ x0 := by omega
  have l0 := x0c hp0
  clear hx0 x0c n0' s0' n0 s0
  go_wp2_with fail
  refine (szPairS_any w.heap.size w1 (.slice a1 L1.length c1) L1 x0 (by omega) (by omega) n1' s1' hB.size (H1.out.on (Nat.le_refl _) hB)).mono ?_
  rintro e w2 ⟨⟨x1, rfl, x1a, x1b, x1c⟩, hb⟩
  have zw2 : w1.heap.size ≤ w2.heap.size := hb.size
  replace hB := below_seq hB hb
  clear hb
  by_cases hx1 : x1 < 0
  · go_wp2_with fail
    go_ret
    exact ⟨rfl, hB⟩
  have hd1 : decide (x1 < 0) = false := by simp; omega
  have hp1 : 0 ≤ x1 := by omega
  have l1 := x1c hp1
  clear hx1 x1c n1' s1' n1 s1
  clear hd0
  have lj : (fwdL L0 L1).length ≤ 1048576 := fwdL_len L0 L1
  have hSp := specFwd_any
  have hIm := implFwd_any
  have HSI : Hid ((∀ (C : Nat) (w : World) (v0 : Value) (v1 : Value), L0.length ≤ 1048576 → L1.length ≤ 1048576 → C ≤ w.heap.size → RdM 4 C w v0 L0.length (stCs L0) → RdM 2 C w v1 L1.length (prCs L1) → Calls Try.prog 7 #[v0, v1] w fun e w' => ∃ r, e = .returned (.tuple #[r, .int .i64 (fwdC L0 L1)]) ∧ OwnPr w' w.heap.size r (fwdL L0 L1) ∧ Below w.heap.size w w') ∧ (∀ (C : Nat) (w : World) (v0 : Value) (v1 : Value), L0.length ≤ 1048576 → L1.length ≤ 1048576 → C ≤ w.heap.size → RdM 4 C w v0 L0.length (stCs L0) → RdM 2 C w v1 L1.length (prCs L1) → Calls Try.prog 10 #[v0, v1] w fun e w' => ∃ r, e = .returned (.tuple #[r, .int .i64 (fwdC L0 L1)]) ∧ OwnPr w' w.heap.size r (fwdL L0 L1) ∧ Below w.heap.size w w')) := ⟨fun C w v0 v1 => specFwd_any C w v0 v1 L0 L1, fun C w v0 v1 => implFwd_any C w v0 v1 L0 L1⟩
  clear hSp hIm
  generalize (fwdL L0 L1) = JL at *
  generalize (fwdC L0 L1) = JC at *
  go_wp2_with fail
  refine (toStepS_any w.heap.size w2 (.slice a0 L0.length c0) L0 l0 hB.size (H0.out.on (Nat.le_refl _) hB)).mono ?_
  rintro e w3 ⟨rfl, ho, hb⟩
  have Y0 : Hid (Ow 45 4 w3 w2.heap.size w3.heap.size (.slice (some ⟨w2.heap.size, 0, none⟩) L0.length L0.length) L0.length (stCs L0)) := Ow.mk ho
  have zw3 : w2.heap.size ≤ w3.heap.size := hb.size
  clear ho
  replace hB := below_seq hB hb
  clear hb
  clear hd1
  go_wp2_with fail
  refine (toPairS_any w.heap.size w3 (.slice a1 L1.length c1) L1 l1 hB.size (H1.out.on (Nat.le_refl _) hB)).mono ?_
  rintro e w4 ⟨rfl, ho, hb⟩
  have Y1 : Hid (Ow 47 2 w4 w3.heap.size w4.heap.size (.slice (some ⟨w3.heap.size, 0, none⟩) L1.length L1.length) L1.length (prCs L1)) := Ow.mk ho
  have zw4 : w3.heap.size ≤ w4.heap.size := hb.size
  clear ho
  replace Y0 := Ow.onH Y0 hb
  replace hB := below_seq hB hb
  clear hb
  go_wp2_with fail
  refine ((Hid.out HSI).1 w4.heap.size w4 _ _ l0 l1 (Nat.le_refl _) (Hid.out Y0).rd (Hid.out Y1).rd).mono ?_
  rintro e w5 ⟨Rv, rfl, ho, hb⟩
  have R : Hid (Ow 47 2 w5 w4.heap.size w5.heap.size Rv JL.length (prCs JL)) := Ow.mk ho
  obtain ⟨Ra, Rc, Re⟩ := Ow.shape (Hid.out R)
  subst Re
  have zw5 : w4.heap.size ≤ w5.heap.size := hb.size
  clear ho
  replace Y0 := Ow.onH Y0 hb
  replace Y1 := Ow.onH Y1 hb
  replace hB := below_seq hB hb
  clear hb
  clear Y0
  clear Y1
  go_wp2_with fail
  refine (toStepS_any w.heap.size w5 (.slice a0 L0.length c0) L0 l0 hB.size (H0.out.on (Nat.le_refl _) hB)).mono ?_
  rintro e w6 ⟨rfl, ho, hb⟩
  have X0 : Hid (Ow 45 4 w6 w5.heap.size w6.heap.size (.slice (some ⟨w5.heap.size, 0, none⟩) L0.length L0.length) L0.length (stCs L0)) := Ow.mk ho
  have zw6 : w5.heap.size ≤ w6.heap.size := hb.size
  clear ho
  replace R := Ow.onH R hb
  replace hB := below_seq hB hb
  clear hb
  go_wp2_with fail
  refine (toPairS_any w.heap.size w6 (.slice a1 L1.length c1) L1 l1 hB.size (H1.out.on (Nat.le_refl _) hB)).mono ?_
  rintro e w7 ⟨rfl, ho, hb⟩
  have X1 : Hid (Ow 47 2 w7 w6.heap.size w7.heap.size (.slice (some ⟨w6.heap.size, 0, none⟩) L1.length L1.length) L1.length (prCs L1)) := Ow.mk ho
  have zw7 : w6.heap.size ≤ w7.heap.size := hb.size
  clear ho
  replace R := Ow.onH R hb
  replace X0 := Ow.onH X0 hb
  replace hB := below_seq hB hb
  clear hb
  go_wp2_with fail
  refine ((Hid.out HSI).2 w7.heap.size w7 _ _ l0 l1 (Nat.le_refl _) (Hid.out X0).rd (Hid.out X1).rd).mono ?_
  rintro e w8 ⟨Gv, rfl, ho, hb⟩
  have G : Hid (Ow 47 2 w8 w7.heap.size w8.heap.size Gv JL.length (prCs JL)) := Ow.mk ho
  obtain ⟨Ga, Gc, Ge⟩ := Ow.shape (Hid.out G)
  subst Ge
  have zw8 : w7.heap.size ≤ w8.heap.size := hb.size
  clear ho
  replace R := Ow.onH R hb
  replace X0 := Ow.onH X0 hb
  replace X1 := Ow.onH X1 hb
  replace hB := below_seq hB hb
  clear hb
  go_wp2_with fail
  refine (eqPairS_same w8.heap.size w8.heap.size w8 _ _ JL (by omega) (Nat.le_refl _) (Nat.le_refl _) (Hid.out G).rd.pr (Hid.out R).rd.pr).mono ?_
  rintro e w9 ⟨rfl, hb⟩
  have zw9 : w8.heap.size ≤ w9.heap.size := hb.size
  replace R := Ow.onH R hb
  replace X0 := Ow.onH X0 hb
  replace X1 := Ow.onH X1 hb
  replace G := Ow.onH G hb
  replace hB := below_seq hB hb
  clear hb
  go_wp2_with fail
  refine (toStepS_any w.heap.size w9 (.slice a0 L0.length c0) L0 l0 hB.size (H0.out.on (Nat.le_refl _) hB)).mono ?_
  rintro e w10 ⟨rfl, ho, hb⟩
  have Z0 : Hid (Ow 45 4 w10 w9.heap.size w10.heap.size (.slice (some ⟨w9.heap.size, 0, none⟩) L0.length L0.length) L0.length (stCs L0)) := Ow.mk ho
  have zw10 : w9.heap.size ≤ w10.heap.size := hb.size
  clear ho
  replace R := Ow.onH R hb
  replace X0 := Ow.onH X0 hb
  replace X1 := Ow.onH X1 hb
  replace G := Ow.onH G hb
  replace hB := below_seq hB hb
  clear hb
  go_wp2_with fail
  refine (eqStepS_same w10.heap.size w10.heap.size w10 _ _ L0 (by omega) (Nat.le_refl _) (Nat.le_refl _) (Hid.out X0).rd.st (Hid.out Z0).rd.st).mono ?_
  rintro e w11 ⟨rfl, hb⟩
  have zw11 : w10.heap.size ≤ w11.heap.size := hb.size
  replace R := Ow.onH R hb
  replace X0 := Ow.onH X0 hb
  replace X1 := Ow.onH X1 hb
  replace G := Ow.onH G hb
  replace Z0 := Ow.onH Z0 hb
  replace hB := below_seq hB hb
  clear hb
  clear Z0
  go_wp2_with fail
  refine (toPairS_any w.heap.size w11 (.slice a1 L1.length c1) L1 l1 hB.size (H1.out.on (Nat.le_refl _) hB)).mono ?_
  rintro e w12 ⟨rfl, ho, hb⟩
  have Z1 : Hid (Ow 47 2 w12 w11.heap.size w12.heap.size (.slice (some ⟨w11.heap.size, 0, none⟩) L1.length L1.length) L1.length (prCs L1)) := Ow.mk ho
  have zw12 : w11.heap.size ≤ w12.heap.size := hb.size
  clear ho
  replace R := Ow.onH R hb
  replace X0 := Ow.onH X0 hb
  replace X1 := Ow.onH X1 hb
  replace G := Ow.onH G hb
  replace hB := below_seq hB hb
  clear hb
  go_wp2_with fail
  refine (eqPairS_same w12.heap.size w12.heap.size w12 _ _ L1 (by omega) (Nat.le_refl _) (Nat.le_refl _) (Hid.out X1).rd.pr (Hid.out Z1).rd.pr).mono ?_
  rintro e w13 ⟨rfl, hb⟩
  have zw13 : w12.heap.size ≤ w13.heap.size := hb.size
  replace R := Ow.onH R hb
  replace X0 := Ow.onH X0 hb
  replace X1 := Ow.onH X1 hb
  replace G := Ow.onH G hb
  replace Z1 := Ow.onH Z1 hb
  replace hB := below_seq hB hb
  clear hb
  clear Z1
  go_wp2_with fail
  refine (markStepS_own _ w13 _ L0 1 l0 (by omega) (Hid.out X0).1).mono ?_
  rintro e w14 ⟨rfl, ho, hg⟩
  replace R := Ow.awayH R hg X0 (by omega)
  replace X1 := Ow.awayH X1 hg X0 (by omega)
  replace G := Ow.awayH G hg X0 (by omega)
  replace hB := Ow.grown hB hg (Hid.out X0) (by omega)
  have zw14 : w13.heap.size ≤ w14.heap.size := hg.size
  clear ho hg X0
  go_wp2_with fail
  refine (markPairS_own _ w14 _ L1 (1 + 4 * L0.length) l1 (by omega) (Hid.out X1).1).mono ?_
  rintro e w15 ⟨rfl, ho, hg⟩
  replace R := Ow.awayH R hg X1 (by omega)
  replace G := Ow.awayH G hg X1 (by omega)
  replace hB := Ow.grown hB hg (Hid.out X1) (by omega)
  have zw15 : w14.heap.size ≤ w15.heap.size := hg.size
  clear ho hg X1
  have hk9 := H63.out (1 + 4 * L0.length + 2 * L1.length) (by omega)
  generalize hkk : ((1 + 4 * L0.length + 2 * L1.length : Nat) : Int) = kk at hk9 ⊢
  have hk8 : 0 ≤ kk := by omega
  clear hkk
  go_wp2_with fail
  refine (eqPairS_same w15.heap.size w15.heap.size w15 _ _ JL (by omega) (Nat.le_refl _) (Nat.le_refl _) (Hid.out G).rd.pr (Hid.out R).rd.pr).mono ?_
  rintro e w16 ⟨rfl, hb⟩
  have zw16 : w15.heap.size ≤ w16.heap.size := hb.size
  replace R := Ow.onH R hb
  replace G := Ow.onH G hb
  replace hB := below_seq hB hb
  clear hb
  clear hk9 hk8
  go_wp2_with fail
  refine (markPairS_own _ w16 _ JL 1 lj (by omega) (Hid.out G).1).mono ?_
  rintro e w17 ⟨rfl, ho, hg⟩
  replace R := Ow.awayH R hg G (by omega)
  replace hB := Ow.grown hB hg (Hid.out G) (by omega)
  have hG9 := (Hid.out G).2
  have zw17 : w16.heap.size ≤ w17.heap.size := hg.size
  clear G
  have G : Hid (Ow 47 2 w17 _ _ _ (marksPr 1 JL.length).length (prCs (marksPr 1 JL.length))) := ⟨ho, hG9⟩
  clear ho hg hG9
  have hk9 := H63.out (1 + 2 * JL.length) (by omega)
  generalize hkk : ((1 + 2 * JL.length : Nat) : Int) = mm at hk9 ⊢
  have hk8 : 0 ≤ mm := by omega
  have HKK : Hid _ := hkk
  clear hkk
  go_wp2_with fail
  refine (heldPairS_same w17.heap.size w17 _ 1 JL.length lj (by omega) (Nat.le_refl _) (Hid.out G).rd.pr).mono ?_
  rintro e w18 ⟨rfl, hb⟩
  rw [HKK.out]
  have zw18 : w17.heap.size ≤ w18.heap.size := hb.size
  replace R := Ow.onH R hb
  replace G := Ow.onH G hb
  replace hB := below_seq hB hb
  clear hb
  go_wp2_with fail
  refine (toStepS_any w.heap.size w18 (.slice a0 L0.length c0) L0 l0 hB.size (H0.out.on (Nat.le_refl _) hB)).mono ?_
  rintro e w19 ⟨rfl, ho, hb⟩
  have Y0 : Hid (Ow 45 4 w19 w18.heap.size w19.heap.size (.slice (some ⟨w18.heap.size, 0, none⟩) L0.length L0.length) L0.length (stCs L0)) := Ow.mk ho
  have zw19 : w18.heap.size ≤ w19.heap.size := hb.size
  clear ho
  replace R := Ow.onH R hb
  replace G := Ow.onH G hb
  replace hB := below_seq hB hb
  clear hb
  go_wp2_with fail
  refine (toPairS_any w.heap.size w19 (.slice a1 L1.length c1) L1 l1 hB.size (H1.out.on (Nat.le_refl _) hB)).mono ?_
  rintro e w20 ⟨rfl, ho, hb⟩
  have Y1 : Hid (Ow 47 2 w20 w19.heap.size w20.heap.size (.slice (some ⟨w19.heap.size, 0, none⟩) L1.length L1.length) L1.length (prCs L1)) := Ow.mk ho
  have zw20 : w19.heap.size ≤ w20.heap.size := hb.size
  clear ho
  replace R := Ow.onH R hb
  replace G := Ow.onH G hb
  replace Y0 := Ow.onH Y0 hb
  replace hB := below_seq hB hb
  clear hb
  go_wp2_with fail
  refine ((Hid.out HSI).2 w20.heap.size w20 _ _ l0 l1 (Nat.le_refl _) (Hid.out Y0).rd (Hid.out Y1).rd).mono ?_
  rintro e w21 ⟨Qv, rfl, ho, hb⟩
  have Q : Hid (Ow 47 2 w21 w20.heap.size w21.heap.size Qv JL.length (prCs JL)) := Ow.mk ho
  obtain ⟨Qa, Qc, Qe⟩ := Ow.shape (Hid.out Q)
  subst Qe
  have zw21 : w20.heap.size ≤ w21.heap.size := hb.size
  clear ho
  replace R := Ow.onH R hb
  replace G := Ow.onH G hb
  replace Y0 := Ow.onH Y0 hb
  replace Y1 := Ow.onH Y1 hb
  replace hB := below_seq hB hb
  clear hb
  clear Y0
  clear Y1
  go_wp2_with fail
  refine (eqPairS_same w21.heap.size w21.heap.size w21 _ _ JL (by omega) (Nat.le_refl _) (Nat.le_refl _) (Hid.out Q).rd.pr (Hid.out R).rd.pr).mono ?_
  rintro e w22 ⟨rfl, hb⟩
  have zw22 : w21.heap.size ≤ w22.heap.size := hb.size
  replace R := Ow.onH R hb
  replace G := Ow.onH G hb
  replace Q := Ow.onH Q hb
  replace hB := below_seq hB hb
  clear hb
  clear Q
  go_wp2_with fail
  refine (heldPairS_same w22.heap.size w22 _ 1 JL.length lj (by omega) (Nat.le_refl _) (Hid.out G).rd.pr).mono ?_
  rintro e w23 ⟨rfl, hb⟩
  rw [HKK.out]
  have zw23 : w22.heap.size ≤ w23.heap.size := hb.size
  replace R := Ow.onH R hb
  replace G := Ow.onH G hb
  replace hB := below_seq hB hb
  clear hb
  go_wp2_with fail
  go_ret
  exact ⟨rfl, hB⟩
end Go.Proofs.Ytaiaffhphejjcaa
