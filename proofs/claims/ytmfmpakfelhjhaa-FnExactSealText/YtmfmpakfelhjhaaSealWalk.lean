/- The law of SealText, walked: it answers true whatever key, number and text. -/
import Derived.Test.YtmfmpakfelhjhaaSealImpl
import Derived.Test.YtmfmpakfelhjhaaCells
import Derived.Test.YtmfmpakfelhjhaaCopies
import Derived.Test.YtmfmpakfelhjhaaFrame
namespace Go.Proofs.Ytmfmpakfelhjhaa
open Go.RowKit
set_option linter.unusedVariables false

set_option maxHeartbeats 2000000 in
set_option maxRecDepth 100000 in
theorem lawSealText_walk (a0 : Option Addr) (len0 cap0 : Nat) (z0 : List Int) (n : Int) (s : ByteArray) (w : World) (h0 : IsRow .u8 w a0 len0 cap0 z0) (hss : s.size ≤ maxLen) :
    Calls Try.prog 3 #[.slice a0 len0 cap0, .int .i64 n, .string s] w fun e w' => e = .returned (.bool true) ∧ Below w.heap.size w w' := by
  obtain ⟨hra, hlen0⟩ := h0.rd
  have hk := h0.bytes
  have hmx0 : len0 ≤ maxLen := by rcases h0 with ⟨_, rfl, _⟩ | ⟨_, _, h1, h2, _⟩ <;> omega
  clear h0
  unfold maxLen at hmx0 hss
  generalize z0.take len0 = ks at hra hlen0 hk
  subst hlen0
  by_cases hl0 : (1048576 : Int) < (ks.length : Int)
  · go_enter Try.func3, Try.ntmps3
    go_wp2_with fail
    go_ret
    exact ⟨rfl, Below.refl _ _⟩
  by_cases hl1 : (1048576 : Int) < (s.size : Int)
  · go_enter Try.func3, Try.ntmps3
    go_wp2_with fail
    go_ret
    exact ⟨rfl, Below.refl _ _⟩
  have hkl : ks.length ≤ 1048576 := by omega
  have hsl : s.size ≤ 1048576 := by omega
  have hB := sealB_len ks n (strInts s)
  generalize hBB : sealB ks n (strInts s) = B at *
  generalize hCC : sealC ks n (strInts s) = cc at *
  have hSP := fun (wz : World) (v : Value) (h : Rd wz.heap.size wz v (ks.map (Value.int .u8))) => specSeal_any wz.heap.size wz v ks n s (Nat.le_refl _) hk hkl hsl h
  have hIM := fun (wz : World) (v : Value) (h : Rd wz.heap.size wz v (ks.map (Value.int .u8))) => implSeal_any wz.heap.size wz v ks n s (Nat.le_refl _) hk hkl hsl h
  rw [hBB, hCC] at hSP hIM
  clear hBB hCC
  go_enter Try.func3, Try.ntmps3
  go_wp2_with fail
  refine (toByteS_any w.heap.size w _ ks hkl (Nat.le_refl _) hra).mono ?_
  rintro e w1 ⟨t1, rfl, ho1, hb1⟩
  have hz1 := hb1.size
  go_wp2_with fail
  refine (hSP w1 t1 ho1.rd).mono ?_
  rintro e w3 ⟨r0, rfl, hor0, hb3⟩
  have hz3 := hb3.size
  have hb03 : Below w.heap.size w w3 := hb1.trans (hb3.mono hb1.size)
  clear ho1
  go_wp2_with fail
  refine (toByteS_any w.heap.size w3 _ ks hkl hb03.size (hra.below hb03)).mono ?_
  rintro e w4 ⟨x0, rfl, hox0, hb4⟩
  have hz4 := hb4.size
  have hb04 : Below w.heap.size w w4 := hb03.trans (hb4.mono hb03.size)
  go_wp2_with fail
  refine (hIM w4 x0 hox0.rd).mono ?_
  rintro e w6 ⟨r1, rfl, hor1, hb6⟩
  have hz6 := hb6.size
  have hb06 : Below w.heap.size w w6 := hb04.trans (hb6.mono hb04.size)
  have ro0 : Rd w3.heap.size w6 r0 _ := (hor0.rd.below hb4).below (hb6.mono (by omega))
  have hox0_6 := hox0.below hb6 (Nat.le_refl _)
  have hblk0 := hox0.blk
  clear hor0 hox0
  go_wp2_with fail
  refine (eqByteS_same _ _ w6 r1 r0 B (by omega) hor1.rd ro0).mono ?_
  rintro e w7 ⟨rfl, n7, rfl⟩
  go_wp2_with fail
  refine (toByteS_any w.heap.size (w6.drewN n7) _ ks hkl hb06.size ((hra.below hb06).drewN n7)).mono ?_
  rintro e w8 ⟨t8, rfl, ho8, hb8⟩
  have hz8 : w6.heap.size ≤ w8.heap.size := hb8.size
  have hb08 : Below w.heap.size w w8 := (below_drewN hb06 n7).trans (hb8.mono hb06.size)
  have hox0_8 : Own 5 w8 w3.heap.size x0 _ := (show Own 5 (w6.drewN n7) _ _ _ from hox0_6).below hb8 (Nat.le_refl _)
  have hor1_8 : Own 5 w8 w4.heap.size r1 _ := (show Own 5 (w6.drewN n7) _ _ _ from hor1).below hb8 (Nat.le_refl _)
  have ro0_8 : Rd w3.heap.size w8 r0 _ := (ro0.drewN n7).below (hb8.mono (by show w3.heap.size ≤ w6.heap.size; omega))
  clear hox0_6 hor1 ro0
  go_wp2_with fail
  refine (eqByteS_same _ _ w8 x0 t8 ks (by omega) hox0_8.rd ho8.rd).mono ?_
  rintro e w9 ⟨rfl, n9, rfl⟩
  go_wp2_with fail
  refine (markByteS_any w3.heap.size (w8.drewN n9) x0 _ 1 (by simp; omega) (by omega) hox0_8).mono ?_
  rintro e w12 ⟨rfl, ho12, hb12, hg12⟩
  rw [List.length_map]
  have hz12 : w8.heap.size ≤ w12.heap.size := hb12.size
  have hor1_c : Own 5 w12 w4.heap.size r1 _ := (show Own 5 (w8.drewN n9) _ _ _ from hor1_8).apart hg12 (fun k hk => by have := hblk0 k hk; omega)
  have ro0_c : Rd w3.heap.size w12 r0 _ := (ro0_8.drewN n9).below hb12
  have hb0c : Below w.heap.size w w12 := (below_drewN hb08 n9).trans (hb12.mono (by omega))
  clear ho12 hg12 hox0_8 hor1_8 ro0_8 ho8
  go_wp2_with fail
  refine (eqByteS_same _ _ w12 r1 r0 B (by omega) hor1_c.rd ro0_c).mono ?_
  rintro e w14 ⟨rfl, n14, rfl⟩
  go_wp2_with fail
  refine (markByteS_any w4.heap.size (w12.drewN n14) r1 _ 1 (by simp; omega) (by omega) hor1_c).mono ?_
  rintro e w15 ⟨rfl, ho15, hb15, _⟩
  rw [List.length_map] at ho15 ⊢
  have hz15 : w12.heap.size ≤ w15.heap.size := hb15.size
  have ro0_f : Rd w3.heap.size w15 r0 _ := (ro0_c.drewN n14).below (hb15.mono (by omega))
  have hb0f : Below w.heap.size w w15 := (below_drewN hb0c n14).trans (hb15.mono (by omega))
  go_wp2_with fail
  refine (heldByteS_same _ w15 r1 1 B.length (by omega) (by omega) ho15.rd).mono ?_
  rintro e w15' ⟨rfl, rfl⟩
  go_wp2_with fail
  refine (toByteS_any w.heap.size w15' _ ks hkl hb0f.size (hra.below hb0f)).mono ?_
  rintro e w16 ⟨t16, rfl, ho16, hb16⟩
  have hz16 := hb16.size
  have hb0g : Below w.heap.size w w16 := hb0f.trans (hb16.mono hb0f.size)
  go_wp2_with fail
  refine (hIM w16 t16 ho16.rd).mono ?_
  rintro e w18 ⟨r2, rfl, hor2, hb18⟩
  have hz18 := hb18.size
  have ro0_i : Rd w3.heap.size w18 r0 _ := (ro0_f.below (hb16.mono (by omega))).below (hb18.mono (by omega))
  have ho18 := (ho15.below hb16 (Nat.le_refl _)).below hb18 (Nat.le_refl _)
  have hb0i : Below w.heap.size w w18 := hb0g.trans (hb18.mono hb0g.size)
  go_wp2_with fail
  refine (eqByteS_same _ _ w18 r2 r0 B (by omega) hor2.rd ro0_i).mono ?_
  rintro e w19 ⟨rfl, n19, rfl⟩
  go_wp2_with fail
  refine (heldByteS_same _ (w18.drewN n19) r1 1 B.length (by omega) (by omega) ho18.rd).mono ?_
  rintro e w20 ⟨rfl, rfl⟩
  go_wp2_with fail
  go_ret
  exact ⟨rfl, below_drewN hb0i n19⟩
end Go.Proofs.Ytmfmpakfelhjhaa
