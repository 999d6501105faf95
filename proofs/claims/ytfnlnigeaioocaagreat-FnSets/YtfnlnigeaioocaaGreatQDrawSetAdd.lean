/- A drawn text, and the draw of a set with an actor and a text. -/
import Derived.Test.YtfnlnigeaioocaaGreatQSameLaws
import Derived.Test.YtfnlnigeaioocaaGreatQSrcVecToSrcCtr
import Derived.Test.YtfnlnigeaioocaaGreatQInfoToTrBase
namespace Go.Proofs.YtfnlnigeaioocaaGreat
open Go.RowKit
set_option linter.unusedVariables false

theorem gr_anyrow {w w' : World} (h : w.grownBy w' none) (row : Option Nat) : w.grownBy w' row := ⟨h.os, h.tape, h.output, h.size, fun i hi _ => h.block i hi (by simp)⟩
theorem ofInts_sizeD (xs : List Int) : (ofInts xs).size = xs.length := by
  unfold ofInts
  show ((xs.map fun n => UInt8.ofNat n.toNat).toArray).size = _
  simp

set_option maxHeartbeats 2000000 in
set_option maxRecDepth 100000 in
theorem l03Text_any (C b A : Nat) (w : World) (h : Src C w b A) (hA : A ≤ 700000000) :
    Calls Tryz.prog 12 #[.pointer (some ⟨b, 0, none⟩)] w fun e w' => ∃ s : ByteArray, e = .returned (.string s) ∧ s.size ≤ 201 ∧ Src C w' b (A + 6) ∧ w.grownBy w' (some b) := by
  obtain ⟨i0, hi, hz0, hz1, hz2⟩ := info_parts info5
  go_enter Tryz.func12, Tryz.ntmps12
  go_wp2_with fail
  refine (chance_any C b A 15 _ h (by omega) (by omega) (by omega)).mono ?_
  rintro e w1 ⟨r, rfl, hS, hG⟩
  cases r with
  | true =>
    go_wp2_with fail
    refine (srcNext_any C b _ 2 _ hS (by omega) (by omega) (by omega)).mono ?_
    rintro e w2 ⟨r2, rfl, hr2, hr3, hS2, hG2⟩
    have hG3 := grownBy_trans hG hG2
    have hz3 := hG3.size
    clear hG hG2 hS
    obtain rfl | rfl : r2 = 0 ∨ r2 = 1 := by omega
    · go_wp2_with (at_make; refine wpList_make_full _ rfl _ _ 22 rfl w.heap.size 5 i0 (.int .u8 0) 1 Tryz.underlying22 hi hz0 hz1 _ _ _ _ 200 rfl rfl rfl rfl (by rw [hz2]; omega) (by unfold maxLen; omega) hz3 ?_)
      intro w4 hown hgrow
      have ho4 := own_of hown
      rw [toList_madeCells_one] at ho4
      have ho5 : Own 5 w4 w.heap.size (.slice (some ⟨w2.heap.size, 0, none⟩) 200 200) ((List.replicate 200 (0 : Int)).map (Value.int .u8)) := by rw [List.map_replicate]; exact ho4
      have hst := run_string_of ho5.rd
      have hG4 := grownBy_trans hG3 (gr_anyrow hgrow (some b))
      have hS4 := hS2.kept hgrow (fun k e => by cases e)
      have hn : (ofInts (List.replicate 200 (0 : Int))).size ≤ 201 := by rw [ofInts_sizeD, List.length_replicate]; omega
      generalize ofInts (List.replicate 200 (0 : Int)) = s at hst hn
      clear hown hgrow ho4 ho5 hG3 hS2
      go_wp2_with fail
      go_ret
      exact ⟨_, rfl, hn, hS4, hG4⟩
    · go_wp2_with (at_make; refine wpList_make_full _ rfl _ _ 22 rfl w.heap.size 5 i0 (.int .u8 0) 1 Tryz.underlying22 hi hz0 hz1 _ _ _ _ 201 rfl rfl rfl rfl (by rw [hz2]; omega) (by unfold maxLen; omega) hz3 ?_)
      intro w4 hown hgrow
      have ho4 := own_of hown
      rw [toList_madeCells_one] at ho4
      have ho5 : Own 5 w4 w.heap.size (.slice (some ⟨w2.heap.size, 0, none⟩) 201 201) ((List.replicate 201 (0 : Int)).map (Value.int .u8)) := by rw [List.map_replicate]; exact ho4
      have hst := run_string_of ho5.rd
      have hG4 := grownBy_trans hG3 (gr_anyrow hgrow (some b))
      have hS4 := hS2.kept hgrow (fun k e => by cases e)
      have hn : (ofInts (List.replicate 201 (0 : Int))).size ≤ 201 := by rw [ofInts_sizeD, List.length_replicate]; omega
      generalize ofInts (List.replicate 201 (0 : Int)) = s at hst hn
      clear hown hgrow ho4 ho5 hG3 hS2
      go_wp2_with fail
      go_ret
      exact ⟨_, rfl, hn, hS4, hG4⟩
  | false =>
    go_wp2_with fail
    refine (word_any C b _ _ hS (by omega)).mono ?_
    rintro e w2 ⟨s, rfl, hs, hS2, hG2⟩
    go_wp2_with fail
    go_ret
    exact ⟨_, rfl, by omega, hS2, grownBy_trans hG hG2⟩

set_option maxHeartbeats 4000000 in
set_option maxRecDepth 100000 in
theorem drawSetAdd_any (C : Nat) (w : World) (v : Value) (cs : List Int) (hC : C ≤ w.heap.size) (hr : Rd C w v (cs.map (Value.int .u8))) (hX : ∀ x ∈ cs, 0 ≤ x ∧ x ≤ 255) (hl : cs.length ≤ 1048576) :
    Calls Tryz.prog 4 #[v] w fun e w' => ∃ ua ub uc va vb vc pa pb pc qa qb qc, ∃ (c : Int) (s : ByteArray), e = .returned (.tuple #[.agg #[.slice ua ub uc, .slice va vb vc], .int .i64 c, .string s]) ∧ s.size ≤ 201 ∧ Two w.heap.size (.slice ua ub uc) (.slice va vb vc) (.slice pa pb pc) (.slice qa qb qc) w' ∧ Below w.heap.size w w' := by
  obtain ⟨W, hW⟩ : ∃ W, w.alloc (.cells #[.slice none 0 0, .slice none 0 0] 28) = W := ⟨_, rfl⟩
  have hB0 : Below w.heap.size w W := by rw [← hW]; exact below_alloc _ _
  have HZ : Hid (W.heap.size = w.heap.size + 1) := by unfold Hid; rw [← hW]; simp
  have HQ4 : Hid (Dy W w.heap.size (.slice none 0 0) (.slice none 0 0)) := by rw [← hW]; exact Dy.made w _ _ 28
  go_enter Tryz.func4, Tryz.ntmps4
  go_upto_region 1 with fail
  clear hW
  go_wp2_with fail
  refine (l03DrawSet_any C W v cs (Nat.le_trans hC hB0.size) (hr.belowW hB0 hC) hX hl).mono ?_
  rintro e w2 ⟨b, ua, ub, uc, va, vb, vc, pa, pb, pc, qa, qb, qc, rfl, HT, hS, hbW, hb2⟩
  have z2 := hb2.size
  have hZ := HZ.out
  have hlt := hS.lt
  have hB2 : Below w.heap.size w w2 := below_seq hB0 hb2
  have hD4 := HQ4.out.on hb2
  obtain ⟨X, hX'⟩ : ∃ X, (w2.alloc (.cells #[.slice ua ub uc, .slice va vb vc] 28)).alloc (.cells #[.slice pa pb pc, .slice qa qb qc] 28) = X := ⟨_, rfl⟩
  have hBX : Below w2.heap.size w2 X := by rw [← hX']; exact below_then (below_alloc _ _) _
  have HM6 : Hid (Dy X w2.heap.size (.slice ua ub uc) (.slice va vb vc)) := by rw [← hX']; exact (Dy.made w2 _ _ 28).on (below_alloc _ _)
  have hzX := hBX.size
  have HD2 : Hid (Dy X.drew w.heap.size (.slice none 0 0) (.slice none 0 0)) := hD4.on hBX.drew
  have HTT : Hid (Two (b + 1) (.slice ua ub uc) (.slice va vb vc) (.slice pa pb pc) (.slice qa qb qc) X) := two_on HT hBX
  have HBX : Hid (Below w.heap.size w X) := below_seq hB2 hBX
  have hS2 : Src C X.drew b 5000 := hS.below hBX.drew hS.lt
  have HNE : Hid (w.heap.size ≠ b ∧ w2.heap.size ≠ b ∧ w2.heap.size ≠ w.heap.size ∧ w.heap.size ≤ b ∧ w.heap.size < b + 1 ∧ w.heap.size ≤ X.heap.size) := ⟨by omega, by omega, by omega, by omega, by omega, by omega⟩
  have HC : Hid (∀ w', X.grownBy w' (some b) → w'.cell? ⟨w2.heap.size, 0, none⟩ = some (.slice ua ub uc) ∧ w'.cell? ⟨w2.heap.size, 1, none⟩ = some (.slice va vb vc)) := fun w' hg => (dy_gr HM6.out hg HNE.out.2.1).1
  have HP : Hid (∀ (wx : World) (x y : Value), (wx.cell? ⟨w2.heap.size, 0, none⟩ = some (.slice ua ub uc) ∧ wx.cell? ⟨w2.heap.size, 1, none⟩ = some (.slice va vb vc)) → ((wx.setCell ⟨w.heap.size, 0, none⟩ x).setCell ⟨w.heap.size, 1, none⟩ y).cell? ⟨w2.heap.size, 0, none⟩ = some (.slice ua ub uc) ∧ ((wx.setCell ⟨w.heap.size, 0, none⟩ x).setCell ⟨w.heap.size, 1, none⟩ y).cell? ⟨w2.heap.size, 1, none⟩ = some (.slice va vb vc)) := fun wx x y hx => by
    have o : ∀ (p k : Nat), p ≠ w.heap.size → ((wx.setCell ⟨w.heap.size, 0, none⟩ x).setCell ⟨w.heap.size, 1, none⟩ y).cell? ⟨p, k, none⟩ = wx.cell? ⟨p, k, none⟩ := fun p k hp => (World.cell?_setCells_out w.heap.size [y] 1 _ _ (fun e => absurd e hp)).trans (World.cell?_setCells_out w.heap.size [x] 0 _ _ (fun e => absurd e hp))
    rw [o _ 0 HNE.out.2.2.1, o _ 1 HNE.out.2.2.1]
    exact hx
  clear hD4 HT hZ z2 hBX hB2 hb2 hB0 hbW hS hlt hzX
  go_upto_region 2 with fail
  clear hX'
  have hX2 : X.grownBy X.drew (some b) := gr_drew (World.grownBy.refl X (some b))
  go_region_held2 (fun w' => w'.cell? ⟨w2.heap.size, 0, none⟩ = some (.slice ua ub uc) ∧ w'.cell? ⟨w2.heap.size, 1, none⟩ = some (.slice va vb vc)) (first | exact HC.out _ hX2 | exact HC.out _ hX2.drew0 | exact HP.out _ _ _ (HC.out _ hX2)) (first | (go_at_call 11; refine (l03Actor_any C b _ _ hS2 (by omega)).mono ?_; rintro e w5 ⟨c, rfl, hS5, hG5⟩; have hX5 := grownBy_trans hX2 hG5; have HD5 : Hid (Dy w5 w.heap.size _ _) := dy_gr HD2.out hG5 HNE.out.1; clear hS2 hX2 HD2 hG5; have hX2 := hX5; clear hX5) | (go_at_call 12; refine (l03Text_any C b _ _ hS5 (by omega)).mono ?_; rintro e w6 ⟨s, rfl, hs6, hS6, hG6⟩; have hX6 := grownBy_trans hX2 hG6; have HD6 : Hid (Dy w6 w.heap.size _ _) := dy_gr HD5.out hG6 HNE.out.1; obtain ⟨⟨p0, p1⟩, pf⟩ := HD6.out; have f0 := pf 0; have f1 := pf 1; clear hX2 hG6 hS5 HD5; have hX2 := hX6; clear hX6))
  have HE : Hid (Dy ((w6.setCell ⟨w.heap.size, 0, none⟩ (.slice ua ub uc)).setCell ⟨w.heap.size, 1, none⟩ (.slice va vb vc)) w.heap.size (.slice ua ub uc) (.slice va vb vc)) := (HD6.out.set0 _).set1 _
  have HT6 : Hid (Two (b + 1) (.slice ua ub uc) (.slice va vb vc) (.slice pa pb pc) (.slice qa qb qc) w6) := HTT.out.frm (Frm.gr hX2 (P := fun i => i = b) (fun k e _ => by cases e; rfl)) (fun i hi e => by omega)
  have HB6 : Hid (Below w.heap.size w w6) := HBX.out.grown hX2 HNE.out.2.2.2.2.2 (fun k hk => by cases hk; exact HNE.out.2.2.2.1)
  clear p0 p1 pf f0 f1 hX2 hS6
  go_wp2_with fail
  refine bodyPost_ret (v := .tuple #[.agg #[.slice ua ub uc, .slice va vb vc], .int .i64 c, .string s]) ?_ rfl ⟨_, _, _, _, _, _, _, _, _, _, _, _, c, s, rfl, hs6, two_lo (two_put (two_put HT6.out HNE.out.2.2.2.2.1) HNE.out.2.2.2.2.1) (Nat.le_succ_of_le HNE.out.2.2.2.1), (HB6.out.setCell (p := ⟨w.heap.size, 0, none⟩) (Nat.le_refl _) _).setCell (p := ⟨w.heap.size, 1, none⟩) (Nat.le_refl _) _⟩
  simp [results, Tryz.results4, go_sem, HE.out.1.1, HE.out.1.2]

end Go.Proofs.YtfnlnigeaioocaaGreat
