/- The walk of the law over the two functions GetTexts: it answers true whatever bytes it is given. -/
import Derived.Test.YtpiadcjkbbgggaaAttemptTexts
import Derived.Test.YtpiadcjkbbgggaaGetTextsTop
import Derived.Test.YtpiadcjkbbgggaaTextsCells
import Derived.Test.YtpiadcjkbbgggaaCells
import Derived.Test.YtpiadcjkbbgggaaCopies
import Derived.Test.YtpiadcjkbbgggaaFrame
namespace Go.Proofs.Ytpiadcjkbbgggaa
open Go.RowKit Go.Lib
set_option linter.unusedVariables false

set_option maxHeartbeats 2000000 in
set_option maxRecDepth 100000 in
theorem lawGetTexts_walk (a0 : Option Addr) (len0 cap0 : Nat) (z0 : List Int) (w : World) (h0 : IsRow .u8 w a0 len0 cap0 z0) :
    Calls Try.prog 3 #[.slice a0 len0 cap0] w fun e w' => e = .returned (.bool true) ∧ Below w.heap.size w w' := by
  obtain ⟨hr, hlen⟩ := h0.rd
  have hx : Bytes (z0.take len0) := h0.bytes
  have hmx : len0 ≤ maxLen := by rcases h0 with ⟨_, rfl, _⟩ | ⟨_, _, h1, h2, _⟩ <;> omega
  clear h0
  unfold maxLen at hmx
  generalize z0.take len0 = xs at hr hlen hx
  subst hlen
  by_cases hl : (1048576 : Int) < (xs.length : Int)
  · go_enter Try.func3, Try.ntmps3
    go_wp2_with fail
    go_ret
    exact ⟨rfl, Below.refl _ _⟩
  · have hl' : xs.length ≤ 1048576 := by omega
    go_enter Try.func3, Try.ntmps3
    go_wp2_with fail
    refine (toByteS_any _ w _ xs hl' (Nat.le_refl _) hr).mono ?_
    rintro e w1 ⟨t1, rfl, ho1, hb1⟩
    have hz1 := hb1.size
    go_wp2_with fail
    refine (specGetTexts_any _ w1 t1 xs hx hl' (Nat.le_refl _) ho1.rd).mono ?_
    rintro e w2 ⟨r0, rfl, hor0, hbl, hb2⟩
    have hz2 := hb2.size
    have hb02 : Below w.heap.size w w2 := hb1.trans (hb2.mono hz1)
    go_wp2_with fail
    refine (toByteS_any _ w2 _ xs hl' hb02.size (hr.below hb02)).mono ?_
    rintro e w3 ⟨x0, rfl, hox, hb3⟩
    have hz3 := hb3.size
    go_wp2_with fail
    refine (implGetTexts_any _ w3 x0 xs hx hl' (Nat.le_refl _) hox.rd).mono ?_
    rintro e w4 ⟨r1, rfl, hor1, hb4⟩
    have hz4 := hb4.size
    have hox4 := hox.below hb4 (Nat.le_refl _)
    have hor0_4 := (hor0.below hb3 (Nat.le_refl _)).below hb4 (by omega)
    have hb04 : Below w.heap.size w w4 := (hb02.trans (hb3.mono (by omega))).trans (hb4.mono (by omega))
    have hblk := hox.blk
    have ro0 : Rd w2.heap.size w4 r0 _ := (hor0.rd.below hb3).below (hb4.mono hz3)
    clear ho1 hor0 hox
    go_wp2_with fail
    refine (eqStringS_same _ _ w4 r1 r0 (getTextsB xs) (by omega) hor1.rd hor0_4.rd).mono ?_
    rintro e w5 ⟨rfl, n5, rfl⟩
    go_wp2_with fail
    refine (toByteS_any _ (w4.drewN n5) _ xs hl' hb04.size ((hr.below hb04).drewN n5)).mono ?_
    rintro e w6 ⟨t6, rfl, ho6, hb6⟩
    have hz6 : w4.heap.size ≤ w6.heap.size := hb6.size
    have hb06 : Below w.heap.size w w6 := (below_drewN hb04 n5).trans (hb6.mono (by exact hb04.size))
    have hox6 : Own 5 w6 w2.heap.size x0 _ := (show Own 5 (w4.drewN n5) _ _ _ from hox4).below hb6 (Nat.le_refl _)
    have hor1_6 : Own 9 w6 w3.heap.size r1 _ := (show Own 9 (w4.drewN n5) _ _ _ from hor1).below hb6 (Nat.le_refl _)
    have ro0_6 : Rd w2.heap.size w6 r0 _ := (ro0.drewN n5).below (hb6.mono (by show w2.heap.size ≤ w4.heap.size; omega))
    clear hor0_4 hox4 hor1 ro0
    go_wp2_with fail
    refine (eqByteS_same _ _ w6 x0 t6 xs (by omega) hox6.rd ho6.rd).mono ?_
    rintro e w7 ⟨rfl, n7, rfl⟩
    go_wp2_with fail
    refine (markByteS_any w2.heap.size (w6.drewN n7) x0 _ 1 (by simp; omega) (by omega) hox6).mono ?_
    rintro e w8 ⟨rfl, ho8, hb8, hg8⟩
    have hz8 : w6.heap.size ≤ w8.heap.size := hb8.size
    have hor1_8 : Own 9 w8 w3.heap.size r1 _ := (show Own 9 (w6.drewN n7) _ _ _ from hor1_6).apart hg8 hblk
    have ro0_8 : Rd w2.heap.size w8 r0 _ := (ro0_6.drewN n7).below hb8
    have hb08 : Below w.heap.size w w8 := (below_drewN hb06 n7).trans (hb8.mono (by omega))
    rw [List.length_map]
    clear ho8 hg8 hor1_6 ro0_6 hox6 ho6
    go_wp2_with fail
    refine (eqStringS_same _ _ w8 r1 r0 (getTextsB xs) (by omega) hor1_8.rd ro0_8).mono ?_
    rintro e w9 ⟨rfl, n9, rfl⟩
    go_wp2_with fail
    refine (markStringS_any w3.heap.size (w8.drewN n9) r1 _ 1 (by simp; omega) (by omega) (by show w3.heap.size ≤ w8.heap.size; omega) hor1_8).mono ?_
    rintro e w10 ⟨rfl, ho10, hb10, _⟩
    rw [List.length_map] at ho10 ⊢
    have hz10 : w8.heap.size ≤ w10.heap.size := hb10.size
    have hb0a : Below w.heap.size w w10 := (below_drewN hb08 n9).trans (hb10.mono (by omega))
    have ro0_a : Rd w2.heap.size w10 r0 _ := (ro0_8.drewN n9).below (hb10.mono hz3)
    go_wp2_with fail
    refine (heldStringS_same _ w10 r1 1 (getTextsB xs).length (by omega) (by omega) (Nat.le_refl _) ho10.rd).mono ?_
    rintro e w11 ⟨rfl, hb11⟩
    have hz11 := hb11.size
    have hb0b : Below w.heap.size w w11 := hb0a.trans (hb11.mono hb0a.size)
    have ro0_b : Rd w2.heap.size w11 r0 _ := ro0_a.below (hb11.mono (by omega))
    have ho11 := ho10.below hb11 (Nat.le_refl _)
    clear ho10 ro0_a
    go_wp2_with fail
    refine (toByteS_any _ w11 _ xs hl' hb0b.size (hr.below hb0b)).mono ?_
    rintro e w12 ⟨t12, rfl, ho12, hb12⟩
    have hz12 := hb12.size
    go_wp2_with fail
    refine (implGetTexts_any _ w12 t12 xs hx hl' (Nat.le_refl _) ho12.rd).mono ?_
    rintro e w13 ⟨r2, rfl, hor2, hb13⟩
    have hz13 := hb13.size
    have ro0_d : Rd w2.heap.size w13 r0 _ := (ro0_b.below (hb12.mono (by omega))).below (hb13.mono (by omega))
    have ho13 := (ho11.below hb12 (Nat.le_refl _)).below hb13 (Nat.le_refl _)
    have hb0d : Below w.heap.size w w13 := (hb0b.trans (hb12.mono hb0b.size)).trans (hb13.mono (by have := hb0b.size; omega))
    go_wp2_with fail
    refine (eqStringS_same _ _ w13 r2 r0 (getTextsB xs) (by omega) hor2.rd ro0_d).mono ?_
    rintro e w14 ⟨rfl, n14, rfl⟩
    go_wp2_with fail
    refine (heldStringS_same _ (w13.drewN n14) r1 1 (getTextsB xs).length (by omega) (by omega) (Nat.le_refl _) ho13.rd).mono ?_
    rintro e w15 ⟨rfl, hb15⟩
    go_wp2_with fail
    go_ret
    exact ⟨rfl, (below_drewN hb0d n14).trans (hb15.mono hb0d.size)⟩
end Go.Proofs.Ytpiadcjkbbgggaa
