/- The law on DocObjects, walked: over what both functions answer. -/
import Derived.Test.YtkndagdecifekaaQOpEqToMarkOps
import Derived.Test.YtkndagdecifekaaQInfoToStr
import Derived.Test.YtkndagdecifekaaQOpToToLawKit
namespace Go.Proofs.Ytkndagdecifekaa
open Go.RowKit
set_option linter.unusedVariables false

set_option maxHeartbeats 4000000 in
set_option maxRecDepth 100000 in
theorem lawDocObjects_walk (ans : List Ov → List Int) (cod : List Ov → Int) (hans : ∀ L, (ans L).length ≤ 1048576) (hsm : ∀ M L, SameL M L → ans M = ans L ∧ cod M = cod L)
    (hsp : ∀ (C : Nat) (w : World) (v : Value) (L : List Ov), C ≤ w.heap.size → RdO C w v L → Calls Try.prog 14 #[v] w fun e w' => ∃ r, e = .returned (.tuple #[r, .int .i64 (cod L)]) ∧ Own 3 w' w.heap.size r ((ans L).map (Value.int .i64)) ∧ Below w.heap.size w w')
    (him : ∀ (C : Nat) (w : World) (v : Value) (L : List Ov), C ≤ w.heap.size → RdO C w v L → Calls Try.prog 15 #[v] w fun e w' => ∃ r, e = .returned (.tuple #[r, .int .i64 (cod L)]) ∧ Own 3 w' w.heap.size r ((ans L).map (Value.int .i64)) ∧ Below w.heap.size w w')
    (w : World) (v : Value) (L : List Ov) (hr : RdO w.heap.size w v L) (ht : ∀ x ∈ L, x.ky.size ≤ maxLen ∧ x.tx.size ≤ maxLen) :
    Calls Try.prog 4 #[v] w fun e w' => e = .returned (.bool true) ∧ Below w.heap.size w w' := by
  have hz := szOpS_any w.heap.size w v L (Nat.le_refl _) hr ht
  go_enter Try.func4, Try.ntmps4
  go_wp2_with fail
  refine hz.mono ?_
  rintro e w1 ⟨⟨z, rfl, hzz⟩, hb1⟩
  rcases hzz with rfl | ⟨q, hzq, hq, hlen, hds⟩
  · go_wp2_with fail
    go_ret
    exact ⟨rfl, hb1⟩
  · have z0 : decide (z < 0) = false := by simp; omega
    have z1 : 0 ≤ z := by omega
    clear hzq hq
    have hm : L.length ≤ maxLen := by unfold maxLen; omega
    have hal := hans L
    obtain ⟨cd, HCD⟩ : ∃ cd, Hid (cod L = cd) := ⟨_, rfl⟩
    have hTO := fun (w9 : World) (hb : Below w.heap.size w w9) => toOpS_any w.heap.size w9 v L hlen hds hb.size (hr.below hb)
    go_wp2_with fail
    refine (hTO w1 hb1).mono ?_
    rintro e w2 ⟨rfl, ⟨M0, hs0, hM0⟩, hb2⟩
    have hB2 := below_seq hb1 hb2
    go_wp2_with fail
    refine (hsp _ w2 _ M0 (Nat.le_refl _) (hM0.rdL hs0 hm)).mono ?_
    rintro e w3 ⟨r0, rfl, ho0, hb3⟩
    have hB3 := below_seq hB2 hb3
    rw [(hsm M0 L hs0).1] at ho0
    rw [(hsm M0 L hs0).2, HCD.out]
    clear hM0 hs0
    go_wp2_with fail
    refine (hTO w3 hB3).mono ?_
    rintro e w4 ⟨rfl, ⟨M1, hs1, hM1⟩, hb4⟩
    have hB4 := below_seq hB3 hb4
    have hR4 := hM1.rdL hs1 hm
    go_wp2_with fail
    refine (him _ w4 _ M1 (Nat.le_refl _) hR4).mono ?_
    rintro e w5 ⟨r1, rfl, ho1, hb5⟩
    have hB5 := below_seq hB4 hb5
    rw [(hsm M1 L hs1).1] at ho1
    rw [(hsm M1 L hs1).2, HCD.out]
    have hs4 := hb4.size
    have hs5 := hb5.size
    have hR5 := hR4.below hb5
    have ho0_5 := (ho0.below hb4 (Nat.le_refl _)).below hb5 (by omega)
    go_wp2_with fail
    refine (eqIntS_same _ _ w5 r1 r0 (ans L) (by omega) ho1.rd ho0_5.rd).mono ?_
    rintro e w6 ⟨rfl, n6, hw6⟩
    have hb6 : Below w5.heap.size w5 w6 := by rw [hw6]; exact below_drewN (Below.refl _ _) n6
    clear hw6
    have hB6 := below_seq hB5 hb6
    have hs6 := hb6.size
    go_wp2_with fail
    refine (hTO w6 hB6).mono ?_
    rintro e w7 ⟨rfl, ⟨M2, hs2, hM2⟩, hb7⟩
    have hB7 := below_seq hB6 hb7
    have hs7 := hb7.size
    have hd1 := sameL_ds hs1 hds
    go_wp2_with fail
    refine (eqOpS_same w4.heap.size w7.heap.size w7 _ _ M1 M2 (by rw [hs1.1]; exact hlen) hd1 (by omega) (Nat.le_refl _) ((hR5.below (hb6.mono (by omega))).below (hb7.mono (by omega))) (hM2.rdL hs2 hm) (sameL_two hs1 hs2)).mono ?_
    rintro e w8 ⟨rfl, hb8⟩
    have hB8 := below_seq hB7 hb8
    have hs8 := hb8.size
    have hb48 : Below w4.heap.size w4 w8 := below_seq (below_seq (below_seq hb5 hb6) hb7) hb8
    have hb58 : Below w5.heap.size w5 w8 := below_seq (below_seq hb6 hb7) hb8
    have hIv := hM1.iv hs1.1 hd1 hb48
    have ho1_8 := ho1.below hb58 (Nat.le_refl _)
    have ho0_8 := ho0_5.below hb58 (Nat.le_refl _)
    have hl0 := ho0.blk
    clear ho0 ho1 ho0_5 hM2 hs2 hR5 hR4 hM1 hd1
    go_wp2_with fail
    refine (markOpS_frame w8 w3.heap.size w4.heap.size w3.heap.size L.length L.length _ 1 hlen (by omega) (by omega) hIv).mono ?_
    rintro e w9 ⟨⟨y, hy0, hy1, rfl⟩, hIv9⟩
    have hb9 := hIv9.bel
    have hs9 := hb9.size
    have hB9 : Below w.heap.size w w9 := hB8.trans (hb9.mono hB3.size)
    have ho1_9 := ownSame ho1_8 (fun k hk => hIv9.fr k (World.ownsRow.lt ho1_8 k hk).1 (World.ownsRow.lt ho1_8 k hk).2)
    have ho0_9 := ownSame ho0_8 (fun k hk => hb9.block k (hl0 k hk))
    have y0 : decide (y < 0) = false := by simp; omega
    clear hIv hIv9 ho1_8 ho0_8
    go_wp2_with fail
    refine (eqIntS_same _ _ w9 r1 r0 (ans L) (by omega) ho1_9.rd ho0_9.rd).mono ?_
    rintro e w10 ⟨rfl, n10, hw10⟩
    have hb10 : Below w9.heap.size w9 w10 := by rw [hw10]; exact below_drewN (Below.refl _ _) n10
    clear hw10
    have hB10 := below_seq hB9 hb10
    have hs10 := hb10.size
    have ho1_10 := ho1_9.below hb10 (Nat.le_refl _)
    have ho0_10 := ho0_9.below hb10 (Nat.le_refl _)
    clear ho1_9 ho0_9
    go_wp2_with fail
    refine (markIntS_any w4.heap.size w10 r1 _ 1 (by rw [List.length_map]; omega) (by omega) ho1_10).mono ?_
    rintro e w11 ⟨rfl, ho1_11, hb11, hg11⟩
    rw [List.length_map] at ho1_11 ⊢
    have hs11 := hb11.size
    have hB11 : Below w.heap.size w w11 := hB10.trans (hb11.mono hB4.size)
    have ho0_11 := ownSame ho0_10 (fun k hk => hb11.block k (by have := hl0 k hk; omega))
    clear ho1_10 ho0_10 hg11
    go_wp2_with fail
    refine (heldIntS_same _ w11 r1 1 (ans L).length (by omega) (by omega) ho1_11.rd).mono ?_
    rintro e w12 ⟨rfl, hw12⟩
    have hb12 : Below w11.heap.size w11 w12 := by rw [hw12]; exact Below.refl _ _
    clear hw12
    have hB12 := below_seq hB11 hb12
    have hs12 := hb12.size
    have ho1_12 := ho1_11.below hb12 (Nat.le_refl _)
    have ho0_12 := ho0_11.below hb12 (Nat.le_refl _)
    clear ho1_11 ho0_11
    go_wp2_with fail
    refine (hTO w12 hB12).mono ?_
    rintro e w13 ⟨rfl, ⟨M3, hs3, hM3⟩, hb13⟩
    have hB13 := below_seq hB12 hb13
    have hs13 := hb13.size
    go_wp2_with fail
    refine (him _ w13 _ M3 (Nat.le_refl _) (hM3.rdL hs3 hm)).mono ?_
    rintro e w14 ⟨r2, rfl, ho2, hb14⟩
    have hB14 := below_seq hB13 hb14
    have hs14 := hb14.size
    rw [(hsm M3 L hs3).1] at ho2
    rw [(hsm M3 L hs3).2, HCD.out]
    have ho1_14 := (ho1_12.below hb13 (Nat.le_refl _)).below hb14 (Nat.le_refl _)
    have ho0_14 := (ho0_12.below hb13 (Nat.le_refl _)).below hb14 (Nat.le_refl _)
    clear ho1_12 ho0_12 hM3
    go_wp2_with fail
    refine (eqIntS_same _ _ w14 r2 r0 (ans L) (by omega) ho2.rd ho0_14.rd).mono ?_
    rintro e w15 ⟨rfl, n15, hw15⟩
    have hb15 : Below w14.heap.size w14 w15 := by rw [hw15]; exact below_drewN (Below.refl _ _) n15
    clear hw15
    have hB15 := below_seq hB14 hb15
    have ho1_15 := ho1_14.below hb15 (Nat.le_refl _)
    go_wp2_with fail
    refine (heldIntS_same _ w15 r1 1 (ans L).length (by omega) (by omega) ho1_15.rd).mono ?_
    rintro e w16 ⟨rfl, hw16⟩
    have hb16 : Below w15.heap.size w15 w16 := by rw [hw16]; exact Below.refl _ _
    clear hw16
    go_wp2_with fail
    go_ret
    exact ⟨rfl, below_seq hB15 hb16⟩
end Go.Proofs.Ytkndagdecifekaa
