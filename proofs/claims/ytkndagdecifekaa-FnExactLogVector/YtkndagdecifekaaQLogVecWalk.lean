/- The law on LogVector, walked: over what both functions answer. -/
import Derived.Test.YtkndagdecifekaaQOpEqToMarkOps
import Derived.Test.YtkndagdecifekaaQVecMarks
import Derived.Test.YtkndagdecifekaaQOpToToLawKit
namespace Go.Proofs.Ytkndagdecifekaa
open Go.RowKit
set_option linter.unusedVariables false

set_option maxHeartbeats 4000000 in
set_option maxRecDepth 100000 in
theorem lawLogVector_walk (ans : List Ov → List Int) (cod : List Ov → Int) (hans : ∀ L, (ans L).length ≤ 1048576) (hsm : ∀ M L, SameL M L → ans M = ans L ∧ cod M = cod L)
    (hsp : ∀ (C : Nat) (w : World) (v : Value) (L : List Ov), C ≤ w.heap.size → RdO C w v L → Calls Try.prog 6 #[v] w fun e w' => ∃ a n k T, e = .returned (.tuple #[.agg #[.slice a n k], .int .i64 (cod L)]) ∧ Own T w' w.heap.size (.slice a n k) ((ans L).map (Value.int .i64)) ∧ Below w.heap.size w w')
    (him : ∀ (C : Nat) (w : World) (v : Value) (L : List Ov), C ≤ w.heap.size → RdO C w v L → Calls Try.prog 8 #[v] w fun e w' => ∃ a n k T, e = .returned (.tuple #[.agg #[.slice a n k], .int .i64 (cod L)]) ∧ Own T w' w.heap.size (.slice a n k) ((ans L).map (Value.int .i64)) ∧ Below w.heap.size w w')
    (w : World) (v : Value) (L : List Ov) (hr : RdO w.heap.size w v L) (ht : ∀ x ∈ L, x.ky.size ≤ maxLen ∧ x.tx.size ≤ maxLen) :
    Calls Try.prog 3 #[v] w fun e w' => e = .returned (.bool true) ∧ Below w.heap.size w w' := by
  have hz := szOpS_any w.heap.size w v L (Nat.le_refl _) hr ht
  go_enter Try.func3, Try.ntmps3
  go_wp2_with fail
  refine hz.mono ?_
  rintro e w1 ⟨⟨z, rfl, hzz⟩, hb1⟩
  rcases hzz with rfl | ⟨q, hzq, hq, hlen, hds⟩
  · go_wp2_with fail
    go_ret
    exact ⟨rfl, hb1⟩
  · have z0 : decide (z < 0) = false := by simp; omega
    have z1 : 0 ≤ z := by omega
    clear hzq hq
    have hm : L.length ≤ maxLen := by unfold maxLen; omega
    have hal := hans L
    obtain ⟨cd, HCD⟩ : ∃ cd, Hid (cod L = cd) := ⟨_, rfl⟩
    have hTO := fun (w9 : World) (hb : Below w.heap.size w w9) => toOpS_any w.heap.size w9 v L hlen hds hb.size (hr.below hb)
    go_wp2_with fail
    refine (hTO w1 hb1).mono ?_
    rintro e w2 ⟨rfl, ⟨M0, hs0, hM0⟩, hb2⟩
    have hB2 := below_seq hb1 hb2
    go_wp2_with fail
    refine (hsp _ w2 _ M0 (Nat.le_refl _) (hM0.rdL hs0 hm)).mono ?_
    rintro e w3 ⟨a0, n0, k0, T0, rfl, ho0, hb3⟩
    have hBw3 := below_seq hB2 hb3
    rw [(hsm M0 L hs0).1] at ho0
    rw [(hsm M0 L hs0).2, HCD.out]
    clear hM0 hs0
    have hbx3 : Below w3.heap.size w3 (w3.alloc (.cells #[.slice a0 n0 k0] 26)) := below_alloc _ _
    have hp0 : (w3.alloc (.cells #[.slice a0 n0 k0] 26)).heap[w3.heap.size]? = some (.cells #[.slice a0 n0 k0] 26 (0, 0)) := heap_alloc_new _ _
    have hsx3 : w3.heap.size < (w3.alloc (.cells #[.slice a0 n0 k0] 26)).heap.size := by rw [World.size_alloc]; omega
    have ho0b := ho0.below hbx3 (Nat.le_refl _)
    have hBx3 := below_seq hBw3 hbx3
    clear ho0
    go_wp2_with fail
    generalize hwx : w3.alloc (.cells #[.slice a0 n0 k0] 26) = x3 at *
    clear hwx
    refine (hTO x3 hBx3).mono ?_
    rintro e w4 ⟨rfl, ⟨M1, hs1, hM1⟩, hb4⟩
    have hB4 := below_seq hBx3 hb4
    have hR4 := hM1.rdL hs1 hm
    go_wp2_with fail
    refine (him _ w4 _ M1 (Nat.le_refl _) hR4).mono ?_
    rintro e w5 ⟨a1, n1, k1, T1, rfl, ho1, hb5⟩
    have hBw5 := below_seq hB4 hb5
    rw [(hsm M1 L hs1).1] at ho1
    rw [(hsm M1 L hs1).2, HCD.out]
    have hs3 := hbx3.size
    have hs4 := hb4.size
    have hs5 := hb5.size
    have hbx5 : Below w5.heap.size w5 (w5.alloc (.cells #[.slice a1 n1 k1] 26)) := below_alloc _ _
    have hp1 : (w5.alloc (.cells #[.slice a1 n1 k1] 26)).heap[w5.heap.size]? = some (.cells #[.slice a1 n1 k1] 26 (0, 0)) := heap_alloc_new _ _
    have hsx5 : w5.heap.size < (w5.alloc (.cells #[.slice a1 n1 k1] 26)).heap.size := by rw [World.size_alloc]; omega
    have ho1b := ho1.below hbx5 (Nat.le_refl _)
    have hBx5 := below_seq hBw5 hbx5
    have hne1 : ∀ k, (Value.slice a1 n1 k1).ownBlock = some k → k ≠ w5.heap.size := fun k hk => by have := (World.ownsRow.lt ho1 k hk).2; omega
    clear ho1
    have hb4x : Below w4.heap.size w4 (w5.alloc (.cells #[.slice a1 n1 k1] 26)) := below_seq hb5 hbx5
    have ho0_5 := (ho0b.below hb4 (Nat.le_refl _)).below hb4x (Nat.le_refl _)
    have hR5 := hR4.below hb4x
    have hp0_5 := (hb4x.block w3.heap.size (by omega)).trans ((hb4.block w3.heap.size (by omega)).trans hp0)
    have c0 := blk_cell hp0_5 0 rfl
    have c1 := blk_cell hp1 0 rfl
    have hl0 := ho0b.blk
    go_wp2_with fail
    generalize hwx : w5.alloc (.cells #[.slice a1 n1 k1] 26) = x5 at *
    clear hwx c0 c1
    refine (eqVector_same _ _ x5 _ _ (ans L) (by omega) (Nat.le_refl _) (Nat.le_refl _) ho1b.rd ho0_5.rd).mono ?_
    rintro e w6 ⟨rfl, hb6⟩
    have hB6 := below_seq hBx5 hb6
    have hs6 := hb6.size
    go_wp2_with fail
    refine (hTO w6 hB6).mono ?_
    rintro e w7 ⟨rfl, ⟨M2, hs2, hM2⟩, hb7⟩
    have hB7 := below_seq hB6 hb7
    have hs7 := hb7.size
    have hd1 := sameL_ds hs1 hds
    go_wp2_with fail
    refine (eqOpS_same w4.heap.size w7.heap.size w7 _ _ M1 M2 (by rw [hs1.1]; exact hlen) hd1 (by omega) (Nat.le_refl _) ((hR5.below (hb6.mono (by omega))).below (hb7.mono (by omega))) (hM2.rdL hs2 hm) (sameL_two hs1 hs2)).mono ?_
    rintro e w8 ⟨rfl, hb8⟩
    have hB8 := below_seq hB7 hb8
    have hs8 := hb8.size
    have hb58 : Below x5.heap.size x5 w8 := below_seq (below_seq hb6 hb7) hb8
    have hb48 : Below w4.heap.size w4 w8 := below_seq hb4x hb58
    have hIv := hM1.iv hs1.1 hd1 hb48
    have ho1_8 := ho1b.below hb58 (Nat.le_refl _)
    have ho0_8 := ho0_5.below hb58 (Nat.le_refl _)
    have hp0_8 := (hb58.block w3.heap.size (by omega)).trans hp0_5
    have hp1_8 := (hb58.block w5.heap.size (by omega)).trans hp1
    clear ho0b ho1b ho0_5 hM2 hs2 hR5 hR4 hM1 hd1 hp0 hp0_5 hp1
    go_wp2_with fail
    refine (markOpS_frame w8 x3.heap.size w4.heap.size x3.heap.size L.length L.length _ 1 hlen (by omega) (by omega) hIv).mono ?_
    rintro e w9 ⟨⟨y, hy0, hy1, rfl⟩, hIv9⟩
    have hb9 := hIv9.bel
    have hs9 := hb9.size
    have hB9 : Below w.heap.size w w9 := hB8.trans (hb9.mono hBx3.size)
    have ho1_9 := ownSame ho1_8 (fun k hk => hIv9.fr k (World.ownsRow.lt ho1_8 k hk).1 (World.ownsRow.lt ho1_8 k hk).2)
    have ho0_9 := ownSame ho0_8 (fun k hk => hb9.block k (hl0 k hk))
    have hp0_9 := (hb9.block w3.heap.size (by omega)).trans hp0_8
    have hp1_9 := (hIv9.fr w5.heap.size (by omega) (by omega)).trans hp1_8
    have y0 : decide (y < 0) = false := by simp; omega
    have c0 := blk_cell hp0_9 0 rfl
    have c1 := blk_cell hp1_9 0 rfl
    clear hIv hIv9 ho1_8 ho0_8 hp0_8 hp1_8
    go_wp2_with fail
    clear c0 c1
    refine (eqVector_same _ _ w9 _ _ (ans L) (by omega) (Nat.le_refl _) (Nat.le_refl _) ho1_9.rd ho0_9.rd).mono ?_
    rintro e w10 ⟨rfl, hb10⟩
    have hB10 := below_seq hB9 hb10
    have hs10 := hb10.size
    have ho1_10 := ho1_9.below hb10 (Nat.le_refl _)
    have ho0_10 := ho0_9.below hb10 (Nat.le_refl _)
    have hp0_10 := (hb10.block w3.heap.size (by omega)).trans hp0_9
    have hp1_10 := (hb10.block w5.heap.size (by omega)).trans hp1_9
    have c1 := blk_cell hp1_10 0 rfl
    clear ho1_9 ho0_9 hp0_9 hp1_9
    go_wp2_with fail
    clear c1
    refine (markVector_any w4.heap.size w10 a1 n1 k1 _ 1 (by rw [List.length_map]; omega) (by omega) (by omega) ho1_10).mono ?_
    rintro e w11 ⟨rfl, ho1_11, hb11, hg11⟩
    rw [List.length_map] at ho1_11 ⊢
    have hs11 := hb11.size
    have hB11 : Below w.heap.size w w11 := hB10.trans (hb11.mono hB4.size)
    have ho0_11 := ownSame ho0_10 (fun k hk => hb11.block k (by have := hl0 k hk; omega))
    have hp0_11 := (hb11.block w3.heap.size (by omega)).trans hp0_10
    have hp1_11 := (hg11.block w5.heap.size (by omega) (fun h => hne1 _ h.symm rfl)).trans hp1_10
    have c1 := blk_cell hp1_11 0 rfl
    clear ho1_10 ho0_10 hg11 hp0_10 hp1_10
    go_wp2_with fail
    clear c1
    refine (heldVector_same _ w11 _ 1 (ans L).length (by omega) (by omega) (Nat.le_refl _) ho1_11.rd).mono ?_
    rintro e w12 ⟨rfl, hb12⟩
    have hB12 := below_seq hB11 hb12
    have hs12 := hb12.size
    have ho1_12 := ho1_11.below hb12 (Nat.le_refl _)
    have ho0_12 := ho0_11.below hb12 (Nat.le_refl _)
    have hp0_12 := (hb12.block w3.heap.size (by omega)).trans hp0_11
    have hp1_12 := (hb12.block w5.heap.size (by omega)).trans hp1_11
    clear ho1_11 ho0_11 hp0_11 hp1_11
    go_wp2_with fail
    refine (hTO w12 hB12).mono ?_
    rintro e w13 ⟨rfl, ⟨M3, hs3', hM3⟩, hb13⟩
    have hB13 := below_seq hB12 hb13
    have hs13 := hb13.size
    go_wp2_with fail
    refine (him _ w13 _ M3 (Nat.le_refl _) (hM3.rdL hs3' hm)).mono ?_
    rintro e w14 ⟨a2, n2, k2, T2, rfl, ho2, hb14⟩
    have hBw14 := below_seq hB13 hb14
    have hs14 := hb14.size
    rw [(hsm M3 L hs3').1] at ho2
    rw [(hsm M3 L hs3').2, HCD.out]
    have hbx14 : Below w14.heap.size w14 (w14.alloc (.cells #[.slice a2 n2 k2] 26)) := below_alloc _ _
    have hp2 : (w14.alloc (.cells #[.slice a2 n2 k2] 26)).heap[w14.heap.size]? = some (.cells #[.slice a2 n2 k2] 26 (0, 0)) := heap_alloc_new _ _
    have hsx14 : w14.heap.size < (w14.alloc (.cells #[.slice a2 n2 k2] 26)).heap.size := by rw [World.size_alloc]; omega
    have ho2b := ho2.below hbx14 (Nat.le_refl _)
    have hBx14 := below_seq hBw14 hbx14
    have hb12x : Below w12.heap.size w12 (w14.alloc (.cells #[.slice a2 n2 k2] 26)) := below_seq (below_seq hb13 hb14) hbx14
    have ho1_14 := ho1_12.below hb12x (Nat.le_refl _)
    have ho0_14 := ho0_12.below hb12x (Nat.le_refl _)
    have hp0_14 := (hb12x.block w3.heap.size (by omega)).trans hp0_12
    have hp1_14 := (hb12x.block w5.heap.size (by omega)).trans hp1_12
    have c0 := blk_cell hp0_14 0 rfl
    have c2 := blk_cell hp2 0 rfl
    clear ho1_12 ho0_12 hM3 ho2 hp0_12 hp1_12
    go_wp2_with fail
    generalize hwx : w14.alloc (.cells #[.slice a2 n2 k2] 26) = x14 at *
    clear hwx c0 c2
    refine (eqVector_same _ _ x14 _ _ (ans L) (by omega) (Nat.le_refl _) (Nat.le_refl _) ho2b.rd ho0_14.rd).mono ?_
    rintro e w15 ⟨rfl, hb15⟩
    have hB15 := below_seq hBx14 hb15
    have ho1_15 := ho1_14.below hb15 (Nat.le_refl _)
    have hp1_15 := (hb15.block w5.heap.size (by omega)).trans hp1_14
    have c1 := blk_cell hp1_15 0 rfl
    go_wp2_with fail
    clear c1
    refine (heldVector_same _ w15 _ 1 (ans L).length (by omega) (by omega) (Nat.le_refl _) ho1_15.rd).mono ?_
    rintro e w16 ⟨rfl, hb16⟩
    go_wp2_with fail
    go_ret
    exact ⟨rfl, below_seq hB15 hb16⟩
end Go.Proofs.Ytkndagdecifekaa
