/- The walk of the law over the two functions PutRuns: it answers true whatever numbers it is given. -/
import Derived.Test.YthkopbkceeggjaaPutRunsSpec
import Derived.Test.YthkopbkceeggjaaPutRunsImpl2
import Derived.Test.YthkopbkceeggjaaIntCells
import Derived.Test.YthkopbkceeggjaaCells
import Derived.Test.YthkopbkceeggjaaFrame
namespace Go.Proofs.Ythkopbkceeggjaa
open Go.RowKit
set_option linter.unusedVariables false

set_option maxHeartbeats 2000000 in
set_option maxRecDepth 100000 in
theorem lawPutRuns_walk (a0 : Option Addr) (len0 cap0 : Nat) (z0 : List Int) (w' : World) (h0 : IsRow .i64 w' a0 len0 cap0 z0) :
    Calls Try.prog 6 #[.slice a0 len0 cap0] w' fun e w => e = .returned (.bool true) ∧ Below w'.heap.size w' w := by
  obtain ⟨hr, hlen⟩ := h0.rd
  have hmx : len0 ≤ maxLen := by rcases h0 with ⟨_, rfl, _⟩ | ⟨_, _, h1, h2, _⟩ <;> omega
  clear h0
  unfold maxLen at hmx
  generalize z0.take len0 = ss at hr hlen
  subst hlen
  have hbl := putRunsB_len ss
  by_cases hl : (1048576 : Int) < (ss.length : Int)
  · go_enter Try.func6, Try.ntmps6
    go_wp2_with fail
    go_ret
    exact ⟨rfl, Below.refl _ _⟩
  · have hn : ss.length ≤ 1048576 := by omega
    go_enter Try.func6, Try.ntmps6
    go_wp2_with fail
    refine (toIntS_any _ w' _ ss hn (Nat.le_refl _) hr).mono ?_
    rintro e w1 ⟨t1, rfl, ho1, hb1⟩
    have hz1 := hb1.size
    go_wp2_with fail
    refine (specPutRuns_any _ w1 t1 ss hn (Nat.le_refl _) ho1.rd).mono ?_
    rintro e w2 ⟨r0, rfl, hor0, hb2⟩
    have hz2 := hb2.size
    have hb02 : Below w'.heap.size w' w2 := hb1.trans (hb2.mono hz1)
    go_wp2_with fail
    refine (toIntS_any _ w2 _ ss hn hb02.size (hr.below hb02)).mono ?_
    rintro e w3 ⟨x0, rfl, hox, hb3⟩
    have hz3 := hb3.size
    go_wp2_with fail
    refine (implPutRuns_any _ w3 x0 ss hn (Nat.le_refl _) hox.rd).mono ?_
    rintro e w4 ⟨r1, rfl, hor1, hb4⟩
    have hz4 := hb4.size
    have hox4 := hox.below hb4 (Nat.le_refl _)
    have hor0_4 := (hor0.below hb3 (Nat.le_refl _)).below hb4 (by omega)
    have hb04 : Below w'.heap.size w' w4 := (hb02.trans (hb3.mono (by omega))).trans (hb4.mono (by omega))
    have hblk := hox.blk
    have ro0 : Rd w2.heap.size w4 r0 _ := (hor0.rd.below hb3).below (hb4.mono hz3)
    clear ho1 hor0 hox
    go_wp2_with fail
    refine (eqByteS_same _ _ w4 r1 r0 (putRunsB ss) (by omega) hor1.rd hor0_4.rd).mono ?_
    rintro e w5 ⟨rfl, n5, rfl⟩
    go_wp2_with fail
    refine (toIntS_any _ (w4.drewN n5) _ ss hn hb04.size ((hr.below hb04).drewN n5)).mono ?_
    rintro e w6 ⟨t6, rfl, ho6, hb6⟩
    have hz6 : w4.heap.size ≤ w6.heap.size := hb6.size
    have hb06 : Below w'.heap.size w' w6 := (below_drewN hb04 n5).trans (hb6.mono (by exact hb04.size))
    have hox6 : Own 3 w6 w2.heap.size x0 _ := (show Own 3 (w4.drewN n5) _ _ _ from hox4).below hb6 (Nat.le_refl _)
    have hor1_6 : Own 5 w6 w3.heap.size r1 _ := (show Own 5 (w4.drewN n5) _ _ _ from hor1).below hb6 (Nat.le_refl _)
    have ro0_6 : Rd w2.heap.size w6 r0 _ := (ro0.drewN n5).below (hb6.mono (by show w2.heap.size ≤ w4.heap.size; omega))
    clear hor0_4 hox4 hor1 ro0
    go_wp2_with fail
    refine (eqIntS_same _ _ w6 x0 t6 ss (by omega) hox6.rd ho6.rd).mono ?_
    rintro e w7 ⟨rfl, n7, rfl⟩
    go_wp2_with fail
    refine (markIntS_any w2.heap.size (w6.drewN n7) x0 _ 1 (by simp; omega) (by omega) hox6).mono ?_
    rintro e w8 ⟨rfl, ho8, hb8, hg8⟩
    have hz8 : w6.heap.size ≤ w8.heap.size := hb8.size
    have hor1_8 : Own 5 w8 w3.heap.size r1 _ := (show Own 5 (w6.drewN n7) _ _ _ from hor1_6).apart hg8 hblk
    have ro0_8 : Rd w2.heap.size w8 r0 _ := (ro0_6.drewN n7).below hb8
    have hb08 : Below w'.heap.size w' w8 := (below_drewN hb06 n7).trans (hb8.mono (by omega))
    rw [List.length_map]
    clear ho8 hg8 hor1_6 ro0_6 hox6 ho6
    go_wp2_with fail
    refine (eqByteS_same _ _ w8 r1 r0 (putRunsB ss) (by omega) hor1_8.rd ro0_8).mono ?_
    rintro e w9 ⟨rfl, n9, rfl⟩
    go_wp2_with fail
    refine (markByteS_any w3.heap.size (w8.drewN n9) r1 _ 1 (by simp; omega) (by omega) hor1_8).mono ?_
    rintro e w10 ⟨rfl, ho10, hb10, _⟩
    rw [List.length_map] at ho10 ⊢
    have hz10 : w8.heap.size ≤ w10.heap.size := hb10.size
    have hb0a : Below w'.heap.size w' w10 := (below_drewN hb08 n9).trans (hb10.mono (by omega))
    have ro0_a : Rd w2.heap.size w10 r0 _ := (ro0_8.drewN n9).below (hb10.mono hz3)
    go_wp2_with fail
    refine (heldByteS_same _ w10 r1 1 (putRunsB ss).length (by omega) (by omega) ho10.rd).mono ?_
    rintro e w10' ⟨rfl, rfl⟩
    go_wp2_with fail
    refine (toIntS_any _ w10' _ ss hn hb0a.size (hr.below hb0a)).mono ?_
    rintro e w11 ⟨t11, rfl, ho11, hb11⟩
    have hz11 := hb11.size
    go_wp2_with fail
    refine (implPutRuns_any _ w11 t11 ss hn (Nat.le_refl _) ho11.rd).mono ?_
    rintro e w12 ⟨r2, rfl, hor2, hb12⟩
    have hz12 := hb12.size
    have ro0_c : Rd w2.heap.size w12 r0 _ := (ro0_a.below (hb11.mono (by omega))).below (hb12.mono (by omega))
    have ho12 := (ho10.below hb11 (Nat.le_refl _)).below hb12 (Nat.le_refl _)
    have hb0c : Below w'.heap.size w' w12 := (hb0a.trans (hb11.mono hb0a.size)).trans (hb12.mono (by have := hb0a.size; omega))
    go_wp2_with fail
    refine (eqByteS_same _ _ w12 r2 r0 (putRunsB ss) (by omega) hor2.rd ro0_c).mono ?_
    rintro e w13 ⟨rfl, n13, rfl⟩
    go_wp2_with fail
    refine (heldByteS_same _ (w12.drewN n13) r1 1 (putRunsB ss).length (by omega) (by omega) ho12.rd).mono ?_
    rintro e w14 ⟨rfl, rfl⟩
    go_wp2_with fail
    go_ret
    exact ⟨rfl, below_drewN hb0c n13⟩
end Go.Proofs.Ythkopbkceeggjaa
