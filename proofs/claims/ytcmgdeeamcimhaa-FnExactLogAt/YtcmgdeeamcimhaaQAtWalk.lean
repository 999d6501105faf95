/- The law on LogAt, walked: over what both functions answer. -/
import Derived.Deep.RegionHeld2
import Derived.Deep.Cut
import Derived.Test.YtcmgdeeamcimhaaQOpEqToNewOps
import Derived.Test.YtcmgdeeamcimhaaQCopyOpsToAnsOps
import Derived.Test.YtcmgdeeamcimhaaQInfoToCoversSpec
import Derived.Test.YtcmgdeeamcimhaaQOpToToLawKit
namespace Go.Proofs.Ytcmgdeeamcimhaa
open Go.RowKit
set_option linter.unusedVariables false

theorem blk_lt {w : World} {g : Nat} {o : Obj} (h : w.heap[g]? = some o) : g < w.heap.size := (Array.getElem?_eq_some_iff.1 h).1
theorem Ans.cast {w : World} {B : Nat} {r : Value} {A A' : List Ov} (h : Ans w B r A) (hs : SameL A A') : Ans w B r A' := by
  rcases h with ⟨hz, e⟩ | ⟨g, ga, M, e, hS, hA⟩
  · exact .inl ⟨by rw [← hs.1]; exact hz, e⟩
  · exact .inr ⟨g, ga, M, by rw [← hs.1]; exact e, sameL_trans hS hs, hA⟩
/-- What the law holds while it walks: the variables, the specification's answer, the code's answer. -/
structure Kp (w wc wX : World) (p1 B5 : Nat) (bx b1 : Obj) (r0 : Value) (M0 : List Ov) (r1 : Value) (A : List Ov) : Prop where
  bel : Below w.heap.size w wX
  box : wX.heap[w.heap.size]? = some bx
  var : wX.heap[p1]? = some b1
  rd0 : RdO wc.heap.size wX r0 M0
  wcs : wc.heap.size ≤ wX.heap.size
  an : Ans wX B5 r1 A
theorem Kp.below {w wc wX w' : World} {p1 B5 : Nat} {bx b1 : Obj} {r0 : Value} {M0 : List Ov} {r1 : Value} {A : List Ov} (h : Kp w wc wX p1 B5 bx b1 r0 M0 r1 A) (hb : Below wX.heap.size wX w') : Kp w wc w' p1 B5 bx b1 r0 M0 r1 A :=
  ⟨below_seq h.bel hb, (hb.block _ (blk_lt h.box)).trans h.box, (hb.block _ (blk_lt h.var)).trans h.var, h.rd0.below (hb.mono h.wcs), by have := hb.size; have := h.wcs; omega, h.an.below hb⟩
/-- The same, where the code's answer is written over. -/
structure Km (w wc wX : World) (B5 : Nat) (bx : Obj) (r0 : Value) (M0 : List Ov) (r1 : Value) (n : Nat) : Prop where
  bel : Below w.heap.size w wX
  box : wX.heap[w.heap.size]? = some bx
  rd0 : RdO wc.heap.size wX r0 M0
  wcs : wc.heap.size ≤ wX.heap.size
  an : AnsM wX B5 r1 n
theorem Km.below {w wc wX w' : World} {B5 : Nat} {bx : Obj} {r0 : Value} {M0 : List Ov} {r1 : Value} {n : Nat} (h : Km w wc wX B5 bx r0 M0 r1 n) (hb : Below wX.heap.size wX w') : Km w wc w' B5 bx r0 M0 r1 n :=
  ⟨below_seq h.bel hb, (hb.block _ (blk_lt h.box)).trans h.box, h.rd0.below (hb.mono h.wcs), by have := hb.size; have := h.wcs; omega, h.an.below hb⟩

set_option maxHeartbeats 8000000 in
set_option maxRecDepth 100000 in
theorem lawLogAt_walk (ans : List Ov → List Int → List Ov) (cod : List Ov → List Int → Int) (hans : ∀ L ys, (ans L ys).length ≤ L.length) (hsm : ∀ M L ys, SameL M L → SameL (ans M ys) (ans L ys) ∧ cod M ys = cod L ys) (hds16 : ∀ L ys, ∀ x ∈ ans L ys, x.ds.length ≤ 1048576)
    (hsp : ∀ (C : Nat) (w : World) (v vv : Value) (L : List Ov) (ys : List Int), C ≤ w.heap.size → RdO C w v L → Rd C w vv (ys.map (Value.int .i64)) → Calls Try.prog 6 #[v, .agg #[vv]] w fun e w' => ∃ r M, e = .returned (.tuple #[r, .int .i64 (cod L ys)]) ∧ SameL M (ans L ys) ∧ RdO w'.heap.size w' r M ∧ Below w.heap.size w w')
    (him : ∀ (C : Nat) (w : World) (v vv : Value) (L : List Ov) (ys : List Int), C ≤ w.heap.size → RdO C w v L → Rd C w vv (ys.map (Value.int .i64)) → Calls Try.prog 9 #[v, .agg #[vv]] w fun e w' => ∃ r, e = .returned (.tuple #[r, .int .i64 (cod L ys)]) ∧ Ans w' w.heap.size r (ans L ys) ∧ Below w.heap.size w w')
    (w : World) (v : Value) (L : List Ov) (vo : Option Addr) (vc : Nat) (ys : List Int) (hr : RdO w.heap.size w v L) (ht : ∀ x ∈ L, x.ky.size ≤ maxLen ∧ x.tx.size ≤ maxLen) (hv : Rd w.heap.size w (.slice vo ys.length vc) (ys.map (Value.int .i64))) (hym : ys.length ≤ maxLen) :
    Calls Try.prog 3 #[v, .agg #[.slice vo ys.length vc]] w fun e w' => e = .returned (.bool true) ∧ Below w.heap.size w w' := by
  have hba : Below w.heap.size w (w.alloc (.cells #[.slice vo ys.length vc] 25)) := below_alloc _ _
  have hbx : (w.alloc (.cells #[.slice vo ys.length vc] 25)).heap[w.heap.size]? = some (.cells #[.slice vo ys.length vc] 25 (0, 0)) := heap_alloc_new _ _
  have hz := szOpS_any w.heap.size (w.alloc (.cells #[.slice vo ys.length vc] 25)) v L hba.size (hr.below hba) ht
  go_enter Try.func3, Try.ntmps3
  go_wp2_with fail
  refine hz.mono ?_
  rintro e w1 ⟨⟨z, rfl, hzz⟩, hb1⟩
  have hB1 := below_seq hba hb1
  replace hbx := (hb1.block _ (blk_lt hbx)).trans hbx
  rcases hzz with rfl | ⟨q, hzq, hq, hlen, hds⟩
  · go_wp2_with fail
    go_ret
    exact ⟨rfl, hB1⟩
  · have z0 : decide (z < 0) = false := by simp; omega
    have z1 : 0 ≤ z := by omega
    obtain ⟨zn, rfl⟩ := Int.eq_ofNat_of_zero_le z1
    have hzn : zn ≤ 1048576 := by omega
    clear hzq hq z1 hz
    have hsv := fun w' => szVector_any vo ys.length vc zn hzn hym w'
    have c1 := blk_cell hbx 0 rfl
    go_wp2_with fail
    refine (hsv _).mono ?_
    rintro e w2 ⟨rfl, hb2⟩
    replace hbx := (hb2.block _ (blk_lt hbx)).trans hbx
    have hB2 := below_seq hB1 hb2
    clear c1 hb1 hb2
    by_cases hly : ys.length ≤ zn
    · rw [if_pos hly]
      have hly2 : ys.length ≤ 1048576 := by omega
      have hn2 : ¬ ((zn - ys.length : Nat) : Int) < 0 := by omega
      have hm : L.length ≤ maxLen := by unfold maxLen; omega
      have hal := hans L ys
      obtain ⟨cd, HCD⟩ : ∃ cd, Hid (cod L ys = cd) := ⟨_, rfl⟩
      have HSM : Hid (∀ M, SameL M L → ∀ R, SameL R (ans M ys) → SameL R (ans L ys)) := fun M h R hR => sameL_trans hR (hsm M L ys h).1
      have HCM : Hid (∀ M, SameL M L → cod M ys = cd) := fun M h => (hsm M L ys h).2.trans HCD.out
      have hTO := fun (w9 : World) (hb : Below w.heap.size w w9) => toOpS_any w.heap.size w9 v L hlen hds hb.size (hr.below hb)
      have hTR : ∀ w9, Below w.heap.size w w9 → Calls Try.prog 7 #[v] w9 fun e w' => ∃ gO M, e = .returned (.slice (some ⟨gO, 0, none⟩) L.length L.length) ∧ SameL M L ∧ RdO w'.heap.size w' (.slice (some ⟨gO, 0, none⟩) L.length L.length) M ∧ Below w9.heap.size w9 w' := fun w9 hb => (hTO w9 hb).mono fun e w' ⟨h1, ⟨M, h2, h3⟩, h4⟩ => ⟨_, M, h1, h2, h3.rdL h2 hm, h4⟩
      have hTV := fun (w9 : World) (hb : Below w.heap.size w w9) => toVector_any w.heap.size w9 (.slice vo ys.length vc) ys hly2 hb.size (hv.below hb)
      go_wp2_with fail
      go_cut [6, 7] from 27 (fun s6 s7 wx => ∃ (r : Value) (M : List Ov), r = s6 ∧ s7 = .int .i64 cd ∧ SameL M (ans L ys) ∧ RdO wx.heap.size wx r M ∧ wx.heap[w.heap.size]? = some (.cells #[.slice vo ys.length vc] 25 (0, 0)) ∧ Below w.heap.size w wx)
      case first =>
        have hB := hB2.drew
        have hBc := (Below.refl w2.heap.size w2).drew
        replace hbx : w2.drew.heap[w.heap.size]? = some (.cells #[.slice vo ys.length vc] 25 (0, 0)) := hbx
        go_region_held2 (fun w' => w'.cell? ⟨w.heap.size, 0, none⟩ = some (.slice vo ys.length vc)) (exact blk_cell hbx 0 rfl) (first | (go_at_call 7; refine (hTR _ hB).mono ?_; rintro e wA ⟨gO, MO, rfl, hsO, hRO, hbA⟩; replace hbx := (hbA.block _ (blk_lt hbx)).trans hbx; (try replace hRV := (hRV.below hbA).mono hbA.size); replace hBc := below_seq hBc hbA; replace hB := below_seq hB hbA) | (go_at_call 8; refine (hTV _ hB).mono ?_; rintro e wB ⟨aV, kV, rfl, hoV, hbB⟩; have hRV := hoV.rd; replace hbx := (hbB.block _ (blk_lt hbx)).trans hbx; (try replace hRO := (hRO.below hbB).mono hbB.size); replace hBc := below_seq hBc hbB; replace hB := below_seq hB hbB) | (go_at_call 6; refine (hsp _ _ _ _ MO ys (Nat.le_refl _) hRO hRV).mono ?_; rintro e w5 ⟨r0, M0, rfl, hs0, hR0, hb5⟩; replace hbx := (hb5.block _ (blk_lt hbx)).trans hbx; replace hB := below_seq hB hb5; (have hs0' := HSM.out MO hsO M0 hs0); (have hc0 := HCM.out MO hsO); rw [hc0]))
        all_goals
          go_wp2_with fail
          go_meet
        all_goals case rel => exact ⟨r0, M0, rfl, rfl, hs0', hR0, hbx, hB⟩
      case rest =>
        clear hbx hB2
        obtain ⟨r0, M0, rfl, rfl, hs0, hR0, hbx, hBc⟩ := hcut
        have hbxc : w.heap.size < wc.heap.size := blk_lt hbx
        go_wp2_with fail
        refine (hTO wc hBc).mono ?_
        rintro e w4 ⟨rfl, ⟨M1, hs1, hM1⟩, hb4⟩
        have hB4 := below_seq hBc hb4
        have hbx4 := (hb4.block _ (blk_lt hbx)).trans hbx
        have cb := blk_cell hbx4 0 rfl
        have hs4 := hb4.size
        go_wp2_with fail
        clear cb
        refine (hTV w4 hB4).mono ?_
        rintro e w5 ⟨a1, k1, rfl, hoV, hb5⟩
        have hs5 := hb5.size
        have hbv : Below w5.heap.size w5 (w5.alloc (.cells #[.slice a1 ys.length k1] 32)) := below_alloc _ _
        have hp1 : (w5.alloc (.cells #[.slice a1 ys.length k1] 32)).heap[w5.heap.size]? = some (.cells #[.slice a1 ys.length k1] 32 (0, 0)) := heap_alloc_new _ _
        have hsv5 : w5.heap.size < (w5.alloc (.cells #[.slice a1 ys.length k1] 32)).heap.size := by rw [World.size_alloc]; omega
        have hB5 := below_seq (below_seq hB4 hb5) hbv
        have hb45 : Below w4.heap.size w4 (w5.alloc (.cells #[.slice a1 ys.length k1] 32)) := below_seq hb5 hbv
        have hR1 := (hM1.rdL hs1 hm).below hb45
        have hoV5 := hoV.below hbv (Nat.le_refl _)
        have hbx5 := (hb45.block _ (blk_lt hbx4)).trans hbx4
        have hR05 := (hR0.below hb4).below (hb45.mono hs4)
        have hnv : ∀ k, (Value.slice a1 ys.length k1).ownBlock = some k → w4.heap.size ≤ k ∧ k < w5.heap.size := fun k hk => World.ownsRow.lt hoV k hk
        have c1 := blk_cell hp1 0 rfl
        clear hoV
        go_upto_region 11 with fail
        generalize w5.alloc (.cells #[.slice a1 ys.length k1] 32) = x5 at *
        have him5 := him x5.heap.size x5 _ _ M1 ys (Nat.le_refl _) (hR1.mono (by omega)) hoV5.rd
        go_wp2_with ((go_at_call 9; refine him5.mono ?_; rintro e w6 ⟨r1, rfl, hA1, hb6⟩))
        clear c1 him5
        have hA1' := hA1.cast (hsm M1 L ys hs1).1
        have hc1 := HCM.out M1 hs1
        rw [hc1]
        have K6 : Kp w wc w6 w5.heap.size x5.heap.size (.cells #[.slice vo ys.length vc] 25 (0, 0)) (.cells #[.slice a1 ys.length k1] 32 (0, 0)) r0 M0 r1 (ans L ys) := ⟨below_seq hB5 hb6, (hb6.block _ (blk_lt hbx5)).trans hbx5, (hb6.block _ hsv5).trans hp1, hR05.below (hb6.mono (by omega)), by have := hb6.size; omega, hA1'⟩
        have hoV6 := hoV5.below hb6 (Nat.le_refl _)
        have hs6 := hb6.size
        have hb46 : Below w4.heap.size w4 w6 := below_seq hb45 hb6
        clear hA1 hA1' hc1 hR05 hbx5 hp1 hoV5 hb45 hbx4 hbx hR0
        have hal2 : (ans L ys).length ≤ maxLen := by unfold maxLen; omega
        obtain ⟨MG, hsG, hRG⟩ := K6.an.rd hal2
        go_wp2_with fail
        refine (eqOpS_same _ _ w6 _ _ MG M0 (by rw [hsG.1]; omega) (sameL_ds hsG (hds16 L ys)) (Nat.le_refl _) K6.wcs hRG K6.rd0 (sameL_two hsG hs0)).mono ?_
        rintro e w7 ⟨rfl, hb7⟩
        have K7 := K6.below hb7
        have hoV7 := hoV6.below hb7 (Nat.le_refl _)
        have hs7 := hb7.size
        clear K6 hRG hsG MG hoV6
        go_wp2_with fail
        refine (hTO w7 K7.bel).mono ?_
        rintro e w8 ⟨rfl, ⟨M2, hs2, hM2⟩, hb8⟩
        have K8 := K7.below hb8
        have hoV8 := hoV7.below hb8 (Nat.le_refl _)
        have hs8 := hb8.size
        have hd1 := sameL_ds hs1 hds
        have hb48 : Below w4.heap.size w4 w8 := below_seq (below_seq hb46 hb7) hb8
        clear K7 hoV7
        go_wp2_with fail
        refine (eqOpS_same w4.heap.size w8.heap.size w8 _ _ M1 M2 (by rw [hs1.1]; exact hlen) hd1 (by omega) (Nat.le_refl _) ((hM1.rdL hs1 hm).below hb48) (hM2.rdL hs2 hm) (sameL_two hs1 hs2)).mono ?_
        rintro e w9 ⟨rfl, hb9⟩
        have K9 := K8.below hb9
        have hoV9 := hoV8.below hb9 (Nat.le_refl _)
        have hs9 := hb9.size
        have hb49 : Below w4.heap.size w4 w9 := below_seq hb48 hb9
        clear K8 hoV8 hM2 hs2
        go_wp2_with fail
        have K := K9.below (Below.refl w9.heap.size w9).drew
        replace hoV9 : Own 3 w9.drew w4.heap.size (.slice a1 ys.length k1) (ys.map (Value.int .i64)) := hoV9
        have hb4x : Below w4.heap.size w4 w9.drew := hb49.drew
        go_region_held2 (fun w' => w'.cell? ⟨w5.heap.size, 0, none⟩ = some (.slice a1 ys.length k1) ∧ w'.cell? ⟨w.heap.size, 0, none⟩ = some (.slice vo ys.length vc)) (exact ⟨blk_cell K.var 0 rfl, blk_cell K.box 0 rfl⟩) (first | (go_at_call 8; refine (hTV _ K.bel).mono ?_; rintro e wT ⟨aT, kT, rfl, hoT, hbT⟩; replace K := K.below hbT; replace hoV9 := hoV9.below hbT (Nat.le_refl _); replace hb4x := below_seq hb4x hbT) | (go_at_call 11; refine (eqVector_same _ _ _ _ _ ys (by omega) (Nat.le_refl _) (Nat.le_refl _) hoV9.rd hoT.rd).mono ?_; rintro e w10 ⟨rfl, hb10⟩; replace K := K.below hb10; replace hoV9 := hoV9.below hb10 (Nat.le_refl _); replace hb4x := below_seq hb4x hb10))
        clear K9 hb49 hoT
        have hIv := hM1.iv hs1.1 hd1 hb4x
        go_wp2_with fail
        refine (markOpS_frame w10 wc.heap.size w4.heap.size wc.heap.size L.length L.length _ 1 hlen (by omega) (by omega) hIv).mono ?_
        rintro e w11 ⟨⟨y, hy0, hy1, rfl⟩, hIv11⟩
        have hb11 := hIv11.bel
        have hs11 := hb11.size
        have hsK := hb4x.size
        have K11 : Kp w wc w11 w5.heap.size x5.heap.size (.cells #[.slice vo ys.length vc] 25 (0, 0)) (.cells #[.slice a1 ys.length k1] 32 (0, 0)) r0 M0 r1 (ans L ys) := ⟨K.bel.trans (hb11.mono hBc.size), (hb11.block _ hbxc).trans K.box, (hIv11.fr _ (by omega) (blk_lt K.var)).trans K.var, K.rd0.below hb11, by have := K.wcs; omega, K.an.on hs11 (fun b hb hl => hIv11.fr b (by omega) hl)⟩
        have hoV11 := ownSame hoV9 (fun k hk => hIv11.fr k (hnv k hk).1 (by have := (hnv k hk).2; have := blk_lt K.var; omega))
        obtain ⟨yn, rfl⟩ := Int.eq_ofNat_of_zero_le hy0
        have c1 := blk_cell K11.var 0 rfl
        have hv5 := blk_lt K11.var
        clear hIv hIv11 K hoV9
        go_wp2_with fail
        clear c1
        refine (markVector_any w4.heap.size w11 a1 ys.length k1 _ yn (by rw [List.length_map]; omega) (by omega) (by omega) hoV11).mono ?_
        rintro e w12 ⟨rfl, -, hb12, hg12⟩
        rw [List.length_map]
        have hs12 := hb12.size
        have K12 : Kp w wc w12 w5.heap.size x5.heap.size (.cells #[.slice vo ys.length vc] 25 (0, 0)) (.cells #[.slice a1 ys.length k1] 32 (0, 0)) r0 M0 r1 (ans L ys) := ⟨K11.bel.trans (hb12.mono hB4.size), (hb12.block _ (by omega)).trans K11.box, (hg12.block _ hv5 (fun h => by have := (hnv _ h.symm).2; omega)).trans K11.var, K11.rd0.below (hb12.mono hs4), by have := K11.wcs; omega, K11.an.on hs12 (fun b hb hl => hg12.block b hl (fun h => by have := (hnv _ h.symm).2; omega))⟩
        have y0 : decide (((yn + ys.length : Nat) : Int) < 0) = false := by simp; omega
        clear K11 hoV11 hg12 hb12
        obtain ⟨MG, hsG, hRG⟩ := K12.an.rd hal2
        go_wp2_with fail
        refine (eqOpS_same _ _ w12 _ _ MG M0 (by rw [hsG.1]; omega) (sameL_ds hsG (hds16 L ys)) (Nat.le_refl _) K12.wcs hRG K12.rd0 (sameL_two hsG hs0)).mono ?_
        rintro e w13 ⟨rfl, hb13⟩
        have K13 := K12.below hb13
        have hs13 := hb13.size
        clear K12 hRG hsG MG
        go_wp2_with fail
        refine (K13.an.mark (by omega)).mono ?_
        rintro e w14 ⟨rfl, hM14, hb14⟩
        have hs14 := hb14.size
        have K14 : Km w wc w14 x5.heap.size (.cells #[.slice vo ys.length vc] 25 (0, 0)) r0 M0 r1 (ans L ys).length := ⟨K13.bel.trans (hb14.mono hB5.size), (hb14.block _ (by omega)).trans K13.box, K13.rd0.below (hb14.mono (by omega)), by have := K13.wcs; omega, hM14⟩
        clear K13 hM14 hb14
        go_wp2_with fail
        refine (K14.an.held (by omega)).mono ?_
        rintro e w15 ⟨rfl, hb15⟩
        have K15 := K14.below hb15
        clear K14 hb15
        go_wp2_with fail
        go_cut [15, 16] from 94 (fun s15 s16 wx => ∃ (r : Value) (M : List Ov), r = s15 ∧ s16 = .int .i64 cd ∧ SameL M (ans L ys) ∧ RdO wx.heap.size wx r M ∧ Km w wc wx x5.heap.size (.cells #[.slice vo ys.length vc] 25 (0, 0)) r0 M0 r1 (ans L ys).length)
        case first =>
          have K := K15.below (Below.refl w15.heap.size w15).drew
          have hB := K.bel
          have hBc := (Below.refl w15.heap.size w15).drew
          have hbx := K.box
          go_region_held2 (fun w' => w'.cell? ⟨w.heap.size, 0, none⟩ = some (.slice vo ys.length vc)) (exact blk_cell hbx 0 rfl) (first | (go_at_call 7; refine (hTR _ hB).mono ?_; rintro e wA ⟨gO, MO, rfl, hsO, hRO, hbA⟩; replace hbx := (hbA.block _ (blk_lt hbx)).trans hbx; (try replace hRV := (hRV.below hbA).mono hbA.size); replace hBc := below_seq hBc hbA; replace hB := below_seq hB hbA) | (go_at_call 8; refine (hTV _ hB).mono ?_; rintro e wB ⟨aV, kV, rfl, hoV, hbB⟩; have hRV := hoV.rd; replace hbx := (hbB.block _ (blk_lt hbx)).trans hbx; (try replace hRO := (hRO.below hbB).mono hbB.size); replace hBc := below_seq hBc hbB; replace hB := below_seq hB hbB) | (go_at_call 9; refine (him _ _ _ _ MO ys (Nat.le_refl _) hRO hRV).mono ?_; rintro e w16 ⟨r2, rfl, hA2, hb16⟩; replace hbx := (hb16.block _ (blk_lt hbx)).trans hbx; replace hBc := below_seq hBc hb16; (have hA2' := hA2.cast (hsm MO L ys hsO).1); (have hc0 := HCM.out MO hsO); rw [hc0]))
          all_goals
            go_wp2_with fail
            go_meet
          all_goals
            case rel =>
              obtain ⟨MG, hsG, hRG⟩ := hA2'.rd hal2
              exact ⟨r2, MG, rfl, rfl, hsG, hRG, K15.below hBc⟩
        case rest =>
          clear K15
          obtain ⟨r2, M3, rfl, rfl, hs3, hR3, K⟩ := hcut
          go_wp2_with fail
          refine (eqOpS_same _ _ _ _ _ M3 M0 (by rw [hs3.1]; omega) (sameL_ds hs3 (hds16 L ys)) (Nat.le_refl _) K.wcs hR3 K.rd0 (sameL_two hs3 hs0)).mono ?_
          rintro e w17 ⟨rfl, hb17⟩
          have K17 := K.below hb17
          clear K hR3
          go_wp2_with fail
          refine (K17.an.held (by omega)).mono ?_
          rintro e w18 ⟨rfl, hb18⟩
          go_wp2_with fail
          go_ret
          exact ⟨rfl, below_seq K17.bel hb18⟩
    · rw [if_neg hly]
      go_wp2_with fail
      go_ret
      exact ⟨rfl, hB2⟩
end Go.Proofs.Ytcmgdeeamcimhaa
