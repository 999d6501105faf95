/- The law of OpenText, walked: it answers true whatever key, number and bytes. -/
import Derived.Test.YtmfmpakfelhjhaaOpenImpl
import Derived.Test.YtmfmpakfelhjhaaCells
import Derived.Test.YtmfmpakfelhjhaaCopies
import Derived.Test.YtmfmpakfelhjhaaFrame
namespace Go.Proofs.Ytmfmpakfelhjhaa
open Go.RowKit
set_option linter.unusedVariables false

set_option maxHeartbeats 2000000 in
set_option maxRecDepth 100000 in
theorem lawOpenText_walk (a0 : Option Addr) (len0 cap0 : Nat) (z0 : List Int) (n : Int) (a1 : Option Addr) (len1 cap1 : Nat) (z1 : List Int) (w : World) (h0 : IsRow .u8 w a0 len0 cap0 z0) (h1 : IsRow .u8 w a1 len1 cap1 z1) :
    Calls Try.prog 4 #[.slice a0 len0 cap0, .int .i64 n, .slice a1 len1 cap1] w fun e w' => e = .returned (.bool true) ∧ Below w.heap.size w w' := by
  obtain ⟨hra, hlen0⟩ := h0.rd
  obtain ⟨hrb, hlen1⟩ := h1.rd
  have hk := h0.bytes
  have hb := h1.bytes
  have hmx0 : len0 ≤ maxLen := by rcases h0 with ⟨_, rfl, _⟩ | ⟨_, _, h1, h2, _⟩ <;> omega
  have hmx1 : len1 ≤ maxLen := by rcases h1 with ⟨_, rfl, _⟩ | ⟨_, _, h1, h2, _⟩ <;> omega
  clear h0 h1
  unfold maxLen at hmx0 hmx1
  generalize z0.take len0 = ks at hra hlen0 hk
  generalize z1.take len1 = bs at hrb hlen1 hb
  subst hlen0 hlen1
  by_cases hl0 : (1048576 : Int) < (ks.length : Int)
  · go_enter Try.func4, Try.ntmps4
    go_wp2_with fail
    go_ret
    exact ⟨rfl, Below.refl _ _⟩
  by_cases hl1 : (1048576 : Int) < (bs.length : Int)
  · go_enter Try.func4, Try.ntmps4
    go_wp2_with fail
    go_ret
    exact ⟨rfl, Below.refl _ _⟩
  have hkl : ks.length ≤ 1048576 := by omega
  have hbl : bs.length ≤ 1048576 := by omega
  have hSP := fun (wz : World) (v u : Value) (h : Rd wz.heap.size wz v (ks.map (Value.int .u8))) (h' : Rd wz.heap.size wz u (bs.map (Value.int .u8))) => specOpen_any wz.heap.size wz v u ks bs n (Nat.le_refl _) hk hb hkl hbl h h'
  have hIM := fun (wz : World) (v u : Value) (h : Rd wz.heap.size wz v (ks.map (Value.int .u8))) (h' : Rd wz.heap.size wz u (bs.map (Value.int .u8))) => implOpen_any wz.heap.size wz v u ks bs n (Nat.le_refl _) hk hb hkl hbl h h'
  generalize (openR ks n bs).1 = A at *
  generalize (openR ks n bs).2 = cc at *
  go_enter Try.func4, Try.ntmps4
  go_wp2_with fail
  refine (toByteS_any w.heap.size w _ ks hkl (Nat.le_refl _) hra).mono ?_
  rintro e w1 ⟨t1, rfl, ho1, hb1⟩
  have hz1 := hb1.size
  go_wp2_with fail
  refine (toByteS_any w.heap.size w1 _ bs hbl hz1 (hrb.below hb1)).mono ?_
  rintro e w2 ⟨t2, rfl, ho2, hb2⟩
  have hz2 := hb2.size
  have hb02 : Below w.heap.size w w2 := hb1.trans (hb2.mono hz1)
  go_wp2_with fail
  refine (hSP w2 t1 t2 (ho1.below hb2 (Nat.le_refl _)).rd ho2.rd).mono ?_
  rintro e w3 ⟨rfl, hb3⟩
  have hz3 := hb3.size
  have hb03 : Below w.heap.size w w3 := hb02.trans (hb3.mono hb02.size)
  clear ho1 ho2
  go_wp2_with fail
  refine (toByteS_any w.heap.size w3 _ ks hkl hb03.size (hra.below hb03)).mono ?_
  rintro e w4 ⟨x0, rfl, hox0, hb4⟩
  have hz4 := hb4.size
  have hb04 : Below w.heap.size w w4 := hb03.trans (hb4.mono hb03.size)
  go_wp2_with fail
  refine (toByteS_any w.heap.size w4 _ bs hbl hb04.size (hrb.below hb04)).mono ?_
  rintro e w5 ⟨x1, rfl, hox1, hb5⟩
  have hz5 := hb5.size
  have hb05 : Below w.heap.size w w5 := hb04.trans (hb5.mono hb04.size)
  have hox0_5 := hox0.below hb5 (Nat.le_refl _)
  go_wp2_with fail
  refine (hIM w5 x0 x1 hox0_5.rd hox1.rd).mono ?_
  rintro e w6 ⟨rfl, hb6⟩
  have hz6 := hb6.size
  have hb06 : Below w.heap.size w w6 := hb05.trans (hb6.mono hb05.size)
  have hox0_6 := hox0_5.below hb6 (Nat.le_refl _)
  have hox1_6 := hox1.below hb6 (Nat.le_refl _)
  clear hox0 hox1 hox0_5
  go_wp2_with fail
  refine (toByteS_any w.heap.size w6 _ ks hkl hb06.size (hra.below hb06)).mono ?_
  rintro e w8 ⟨t8, rfl, ho8, hb8⟩
  have hz8 : w6.heap.size ≤ w8.heap.size := hb8.size
  have hb08 : Below w.heap.size w w8 := hb06.trans (hb8.mono hb06.size)
  have hox0_8 := hox0_6.below hb8 (Nat.le_refl _)
  have hox1_8 := hox1_6.below hb8 (Nat.le_refl _)
  clear hox0_6 hox1_6
  go_wp2_with fail
  refine (eqByteS_same _ _ w8 x0 t8 ks (by omega) hox0_8.rd ho8.rd).mono ?_
  rintro e w9 ⟨rfl, n9, rfl⟩
  go_wp2_with fail
  refine (toByteS_any w.heap.size (w8.drewN n9) _ bs hbl hb08.size ((hrb.below hb08).drewN n9)).mono ?_
  rintro e w10 ⟨t10, rfl, ho10, hb10⟩
  have hb0a : Below w.heap.size w w10 := (below_drewN hb08 n9).trans (hb10.mono hb08.size)
  have hox1_a : Own 5 w10 w4.heap.size x1 _ := (show Own 5 (w8.drewN n9) _ _ _ from hox1_8).below hb10 (Nat.le_refl _)
  clear hox0_8 hox1_8 ho8
  go_wp2_with fail
  refine (eqByteS_same _ _ w10 x1 t10 bs (by omega) hox1_a.rd ho10.rd).mono ?_
  rintro e w11 ⟨rfl, n11, rfl⟩
  go_wp2_with fail
  go_ret
  exact ⟨rfl, below_drewN hb0a n11⟩
end Go.Proofs.Ytmfmpakfelhjhaa
