/- LogAt: what the specification's answers. -/
import Derived.Deep.RegionHeld2
import Derived.Deep.Cut
import Derived.Test.YtcmgdeeamcimhaaQLedCutToAtImpl
import Derived.Test.YtcmgdeeamcimhaaQRowKeep
import Derived.Test.YtcmgdeeamcimhaaQInfoToCoversSpec
namespace Go.Proofs.Ytcmgdeeamcimhaa
open Go.RowKit
set_option linter.unusedVariables false

theorem blk_ltA {w : World} {g : Nat} {o : Obj} (h : w.heap[g]? = some o) : g < w.heap.size := (Array.getElem?_eq_some_iff.1 h).1
theorem countL_len (ys : List Int) (L : List Ov) : (countL ys L).length ≤ L.length := List.length_filter_le _ _
theorem countL_mem {ys : List Int} {L : List Ov} {x : Ov} (h : x ∈ countL ys L) : x ∈ L := (List.mem_filter.1 h).1
theorem canCut_no {L : List Ov} {ys : List Int} {x : Ov} (hx : x ∈ L) (hs : x.s ≤ ys.getD x.a.toNat 0) (h : covers ys x.ds = false) : canCut L ys = false := by
  unfold canCut
  rw [Bool.and_eq_false_iff]
  refine .inr ?_
  rw [List.all_eq_false]
  exact ⟨x, List.mem_filter.2 ⟨hx, decide_eq_true hs⟩, by rw [show covB ys x.ds = false from h]; exact Bool.false_ne_true⟩
theorem canCut_yes {L : List Ov} {ys : List Int} (h : covers (cnts L) ys = true) (h' : (countL ys L).all (fun x => covB ys x.ds) = true) : canCut L ys = true := by
  unfold canCut
  rw [show covB (cnts L) ys = true from h, h']
  rfl

set_option maxHeartbeats 2000000 in
set_option maxRecDepth 100000 in
theorem specLogAt_no (C : Nat) (w : World) (v vv : Value) (L : List Ov) (ys : List Int) (hC : C ≤ w.heap.size) (hr : RdO C w v L) (hv : Rd C w vv (ys.map (Value.int .i64))) (hno : (logI L && vecOK ys) = false) :
    Calls Try.prog 6 #[v, .agg #[vv]] w fun e w' => ∃ r, e = .returned (.tuple #[r, .int .i64 1]) ∧ RdO w'.heap.size w' r [] ∧ Below w.heap.size w w' := by
  obtain ⟨va, vn, vc, rfl⟩ : ∃ va vn vc, vv = .slice va vn vc := by obtain ⟨va, vc, h, _⟩ := hv; exact ⟨_, _, _, h⟩
  obtain ⟨ao, cap, rfl⟩ : ∃ ao cap, v = .slice ao L.length cap := by obtain ⟨⟨ao, cap, h, _⟩, _⟩ := hr; exact ⟨_, _, h⟩
  have hba : Below w.heap.size w (w.alloc (.cells #[.slice va vn vc] 32)) := below_alloc _ _
  have hp0 : (w.alloc (.cells #[.slice va vn vc] 32)).heap[w.heap.size]? = some (.cells #[.slice va vn vc] 32 (0, 0)) := heap_alloc_new _ _
  have hsa : w.heap.size < (w.alloc (.cells #[.slice va vn vc] 32)).heap.size := by rw [World.size_alloc]; omega
  have hLK := specLogOK_any C (w.alloc (.cells #[.slice va vn vc] 32)) _ L (by have := hba.size; omega) (hr.below (hba.mono hC))
  have hVK := fun (w9 : World) (hb : Below w.heap.size w w9) => specVecOK_any C w9 _ ys (by have := hb.size; omega) (hv.below (hb.mono hC))
  have hend : ∀ w9 : World, RdO (w9.alloc (.cells #[] 50)).heap.size (w9.alloc (.cells #[] 50)) (.slice (some ⟨w9.heap.size, 0, none⟩) 0 0) [] := fun w9 => ⟨⟨_, 0, rfl, Nat.le_refl _, by unfold maxLen; omega, fun e => (by cases e), fun hp => absurd hp (by simp)⟩, fun x hx => absurd hx (by simp)⟩
  clear hr hv
  cases hlog : logI L with
  | false =>
    rw [hlog] at hLK
    go_enter Try.func6, Try.ntmps6
    go_wp2_with (first | (go_at_call 17; refine hLK.mono ?_; rintro e w3 ⟨rfl, hb3⟩))
    go_ret2
    exact ⟨_, rfl, hend _, below_then (below_seq hba hb3) _⟩
  | true =>
    have hvo : vecOK ys = false := by rw [hlog, Bool.true_and] at hno; exact hno
    rw [hlog] at hLK
    rw [hvo] at hVK
    go_enter Try.func6, Try.ntmps6
    go_upto_region 1 with fail
    generalize w.alloc (.cells #[.slice va vn vc] 32) = wa at *
    go_wp2_with (first | (go_at_call 17; refine hLK.mono ?_; rintro e w3 ⟨rfl, hb3⟩; have hp3 := (hb3.block w.heap.size hsa).trans hp0; have c3 := blk_cell hp3 0 rfl; have hB3 := below_seq hba hb3) | (go_at_call 18; refine (hVK _ hB3).mono ?_; rintro e w4 ⟨rfl, hb4⟩))
    go_ret2
    exact ⟨_, rfl, hend _, below_then (below_seq hB3 hb4) _⟩

set_option maxHeartbeats 4000000 in
set_option maxRecDepth 100000 in
theorem specLogAt_yes (C : Nat) (w : World) (v vv : Value) (L : List Ov) (ys : List Int) (hC : C ≤ w.heap.size) (hr : RdO C w v L) (hv : Rd C w vv (ys.map (Value.int .i64))) (hlog : logI L = true) (hvo : vecOK ys = true) :
    Calls Try.prog 6 #[v, .agg #[vv]] w fun e w' => ∃ r M, ((canCut L ys = true ∧ e = .returned (.tuple #[r, .int .i64 0]) ∧ SameL M (countL ys L)) ∨ (canCut L ys = false ∧ e = .returned (.tuple #[r, .int .i64 5]) ∧ M = [])) ∧ RdO w'.heap.size w' r M ∧ Below w.heap.size w w' := by
  have hr0 := hr
  have hv0 := hv
  obtain ⟨⟨ao, cap, rfl, hcap, hmax, hnil, hrow⟩, hdv⟩ := hr
  obtain ⟨i0, hi, hz0, hz1, hz2⟩ := info_parts infoOp
  obtain ⟨hlen, hok0, -, -⟩ := valid_parts hlog
  have HOK : Hid (∀ x ∈ L, x.ok = true) := hok0
  clear hok0
  have hy16 := vec_16 hvo
  have hend : ∀ w9 : World, RdO (w9.alloc (.cells #[] 50)).heap.size (w9.alloc (.cells #[] 50)) (.slice (some ⟨w9.heap.size, 0, none⟩) 0 0) [] := fun w9 => ⟨⟨_, 0, rfl, Nat.le_refl _, by unfold maxLen; omega, fun e => (by cases e), fun hp => absurd hp (by simp)⟩, fun x hx => absurd hx (by simp)⟩
  have HEND : Hid _ := hend
  clear hend
  obtain ⟨va, vc, rfl, hvcap, hvmax, hvnil, hvr⟩ := hv
  rw [List.length_map, hy16] at hvr hv0 ⊢
  obtain ⟨gv, ov, rfl, hgv, hvc⟩ := hvr (by omega)
  have hba : Below w.heap.size w (w.alloc (.cells #[.slice (some ⟨gv, ov, none⟩) 16 vc] 32)) := below_alloc _ _
  have hp0 : (w.alloc (.cells #[.slice (some ⟨gv, ov, none⟩) 16 vc] 32)).heap[w.heap.size]? = some (.cells #[.slice (some ⟨gv, ov, none⟩) 16 vc] 32 (0, 0)) := heap_alloc_new _ _
  have hsa : w.heap.size < (w.alloc (.cells #[.slice (some ⟨gv, ov, none⟩) 16 vc] 32)).heap.size := by rw [World.size_alloc]; omega
  have hLK := specLogOK_any C (w.alloc (.cells #[.slice (some ⟨gv, ov, none⟩) 16 vc] 32)) _ L (by have := hba.size; omega) (hr0.below (hba.mono hC))
  have hVK := fun (w9 : World) (hb : Below w.heap.size w w9) => specVecOK_any C w9 _ ys (by have := hb.size; omega) (hv0.below (hb.mono hC))
  have hCN := fun (w9 : World) (hb : Below w.heap.size w w9) => l08Counts_any C w9 _ L (by have := hb.size; omega) (hr0.below (hb.mono hC)) hlen (fun x hx => (ok_parts (HOK.out x hx)).1)
  have hCV := fun (w9 : World) (hb : Below w.heap.size w w9) (gc : Nat) (h : Rd w9.heap.size w9 (.slice (some ⟨gc, 0, none⟩) 16 16) ((cnts L).map (Value.int .i64))) => l02Covers_any w9.heap.size C w9 _ _ (cnts L) ys (cnts_len L) hy16 (Nat.le_refl _) (by have := hb.size; omega) h (hv0.below (hb.mono hC))
  rw [hlog] at hLK
  rw [hvo] at hVK
  go_enter Try.func6, Try.ntmps6
  go_upto_region 1 with fail
  generalize w.alloc (.cells #[.slice (some ⟨gv, ov, none⟩) 16 vc] 32) = wa at *
  go_upto_region 3 with (first | (go_at_call 17; refine hLK.mono ?_; rintro e w3 ⟨rfl, hb3⟩; have hp3 := (hb3.block w.heap.size hsa).trans hp0; have c3 := blk_cell hp3 0 rfl; have hB3 := below_seq hba hb3) | (go_at_call 18; refine (hVK _ hB3).mono ?_; rintro e w1 ⟨rfl, hb1⟩))
  have hp1 := (hb1.block w.heap.size (by have := hb3.size; omega)).trans hp3
  have hB1 := below_seq hB3 hb1
  clear hp3 c3 hB3 hb3 hb1 hLK hVK hp0 hba hsa
  have hB4 := hB1.drew
  have hp4 : w1.drew.heap[w.heap.size]? = some (.cells #[.slice (some ⟨gv, ov, none⟩) 16 vc] 32 (0, 0)) := hp1
  have HCC : Hid (covers (cnts L) ys = false → canCut L ys = false) := fun h => by unfold canCut; rw [show covB (cnts L) ys = false from h, Bool.false_and]
  obtain ⟨cv0, HCV0⟩ : ∃ c, Hid (covers (cnts L) ys = c) := ⟨_, rfl⟩
  rw [HCV0.out] at hCV HCC
  go_region_held2 (fun w' => w'.cell? ⟨w.heap.size, 0, none⟩ = some (.slice (some ⟨gv, ov, none⟩) 16 vc)) (exact blk_cell hp4 0 rfl) (first | (go_at_call 20; refine (hCN _ hB4).mono ?_; rintro e w2 ⟨gc, rfl, hoc, hb2⟩; have hRC := hoc.rd; replace hp4 := (hb2.block w.heap.size (blk_ltA hp4)).trans hp4; replace hB4 := below_seq hB4 hb2) | (go_at_call 19; refine (hCV _ hB4 _ hRC).mono ?_; rintro e w4 ⟨rfl, hb4⟩; replace hp4 := (hb4.block w.heap.size (blk_ltA hp4)).trans hp4; replace hB4 := below_seq hB4 hb4))
  clear hCV hCN hRC hoc hb2 hb4 hp1 hB1
  have hs4 : w.heap.size < w4.heap.size := blk_ltA hp4
  have hsw4 : w.heap.size ≤ w4.heap.size := by omega
  cases cv0 with
  | false =>
    have HNC : Hid (canCut L ys = false) := HCC.out rfl
    go_wp2_with fail
    go_ret2
    exact ⟨_, [], .inr ⟨HNC.out, rfl, rfl⟩, HEND.out _, hB4.alloc (by omega) _⟩
  | true =>
    simp only [Bool.not_true]
    have HI0 : Hid (∃ M : List Ov, SameL M (countL ys (L.take 0)) ∧ (w4.alloc (.cells #[] 50)).ownsRow w4.heap.size 50 12 (.slice (some ⟨w4.heap.size, 0, none⟩) 0 0) M.length (rowCs M) ∧ (∀ x ∈ M, Own 3 (w4.alloc (.cells #[] 50)) w4.heap.size x.dv (x.ds.map (Value.int .i64))) ∧ Below w4.heap.size w4 (w4.alloc (.cells #[] 50))) :=
      ⟨[], ⟨rfl, fun k hk => absurd hk (by simp [countL])⟩, ⟨rfl, .inr ⟨w4.heap.size, 0, #[], rfl, Nat.le_refl _, heap_alloc_new _ _, Nat.le_refl _, by unfold maxLen; omega, rfl, rfl⟩⟩, fun x hx => absurd hx (by simp), below_alloc _ _⟩
    go_wp2_with fail
    go_loopw [6, 7] (fun tv ti wr => ∃ k : Nat, k ≤ L.length ∧ ti = .int .i64 (k : Int) ∧ Hid (∃ M : List Ov, SameL M (countL ys (L.take k)) ∧ wr.ownsRow w4.heap.size 50 12 tv M.length (rowCs M) ∧ (∀ x ∈ M, Own 3 wr w4.heap.size x.dv (x.ds.map (Value.int .i64))) ∧ Below w4.heap.size w4 wr) ∧ Hid ((countL ys (L.take k)).all (fun x => covB ys x.ds) = true)) (fun _ ti _ => L.length - (intOf ti).toNat)
    case atStart => exact ⟨0, Nat.zero_le _, rfl, HI0, rfl⟩
    case round =>
      clear HI0
      obtain ⟨k, hk, rfl, HI, HAL⟩ := hrel
      obtain ⟨M, hSM, ho, hod, hbel⟩ := HI.out
      by_cases hlt : k < L.length
      · have j1 : (k : Int) < (L.length : Int) := by omega
        have hball : Below w.heap.size w wr := hB4.trans (hbel.mono hsw4)
        have hsw := hbel.size
        obtain ⟨g, off, rfl, hg, hcs⟩ := hrow (by omega)
        have HXX := fun (w9 : World) (hb : Below w.heap.size w w9) => (hcs k hlt).below (hb.mono hC) hg
        have hx := HXX wr hball
        have hxd := (hdv _ (ovAt_mem hlt)).below (hball.mono hC)
        have hok := ok_parts (HOK.out _ (ovAt_mem hlt))
        have hx16 := vec_16 hok.2.2
        obtain ⟨j, hj⟩ := Int.eq_ofNat_of_zero_le (a := (ovAt L k).a) hok.1.1
        have hj16 : j < 16 := by omega
        have hj16' : (j : Int) < 16 := by omega
        have HSN : Hid (countL ys (L.take (k + 1)) = if (ovAt L k).s ≤ ys.getD j 0 then countL ys (L.take k) ++ [ovAt L k] else countL ys (L.take k)) := by
          unfold Hid
          rw [take_snoc hlt, countL_snoc, hj, Int.toNat_natCast]
        have HNO : Hid ((ovAt L k).s ≤ ys.getD j 0 → covers ys (ovAt L k).ds = false → canCut L ys = false) := fun h h' => canCut_no (ovAt_mem hlt) (by rw [hj, Int.toNat_natCast]; exact h) h'
        have hCVD := fun (w9 : World) (hb : Below w.heap.size w w9) => l02Covers_any C C w9 _ _ ys (ovAt L k).ds hy16 hx16 (by have := hb.size; omega) (by have := hb.size; omega) (hv0.below (hb.mono hC)) ((hdv _ (ovAt_mem hlt)).below (hb.mono hC))
        have hll : M.length ≤ 1024 := by have := countL_len ys (L.take k); rw [List.length_take] at this; rw [hSM.1]; omega
        have hpw := (hbel.block w.heap.size hs4).trans hp4
        have cv := blk_cell hpw 0 rfl
        have hyc : wr.cell? ⟨gv, ov + j, none⟩ = some (.int .i64 (ys.getD j 0)) := by
          rw [hball.cell (p := ⟨gv, ov + j, none⟩) (by show gv < w.heap.size; omega)]
          exact hvc j _ (by rw [List.getElem?_map, List.getD_eq_getElem?_getD, List.getElem?_eq_getElem (by omega)]; rfl)
        generalize hyj : ys.getD j 0 = yj at HSN hyc HNO
        clear hyj hcs hok hpw
        have hCO := fun (w9 : World) (hb : Below wr.heap.size wr w9) => l08CopyOp_any C (ovAt L k) w9 (by omega) (by have := hb.size; omega) (hxd.below (hb.mono (by omega)))
        obtain ⟨c0, c1, c2, c3, c4, c5, c6, c7, c8, c9, c10, c11⟩ := hx
        generalize ovAt L k = x at *
        obtain ⟨xa, xs, xt, xdv, xk, xo, xn, xu, xpt, xpa, xky, xtx, xds⟩ := x
        simp only at c0 c1 c2 c3 c4 c5 c6 c7 c8 c9 c10 c11 hxd HSN hj hCO HNO hCVD HXX
        subst hj
        obtain ⟨da, dn, dc, rfl⟩ : ∃ da dn dc, xdv = .slice da dn dc := by obtain ⟨da, dc, h, _⟩ := hxd; exact ⟨da, _, dc, h⟩
        have hgw : g < wr.heap.size := by omega
        by_cases hlt2 : xs ≤ yj
        · have HE : Hid (countL ys (L.take (k + 1)) = countL ys (L.take k) ++ [(⟨(j : Int), xs, xt, .slice da dn dc, xk, xo, xn, xu, xpt, xpa, xky, xtx, xds⟩ : Ov)]) := by unfold Hid; rw [HSN.out, if_pos hlt2]
          obtain ⟨va6, vc6, e6⟩ := owns_any ho
          subst e6
          have hlt6 := fun k hk => (World.ownsRow.lt ho k hk).1
          have hgt : ¬ yj < xs := by omega
          clear HI HSN
          go_wp2_with fail
          go_quiet (fail)
          go_wp2_with fail
          have hBq : Below wr.heap.size wr (wr.drewN nq).drew := (below_drewN (Below.refl _ _) nq).drew
          have hBr : Below w.heap.size w (wr.drewN nq).drew := (below_drewN hball nq).drew
          have d3 : (wr.drewN nq).drew.cell? ⟨g, off + k * 12 + 3, none⟩ = some (.slice da dn dc) := (hBq.cell (p := ⟨g, off + k * 12 + 3, none⟩) hgw).trans c3
          have dv : (wr.drewN nq).drew.cell? ⟨w.heap.size, 0, none⟩ = some (.slice (some ⟨gv, ov, none⟩) 16 vc) := (hBq.cell (p := ⟨w.heap.size, 0, none⟩) (by show w.heap.size < _; omega)).trans cv
          obtain ⟨cw, HCW⟩ : ∃ c, Hid (covers ys xds = c) := ⟨_, rfl⟩
          rw [HCW.out] at hCVD HNO
          go_region_held2 (fun w' => w'.cell? ⟨w.heap.size, 0, none⟩ = some (.slice (some ⟨gv, ov, none⟩) 16 vc) ∧ w'.cell? ⟨g, off + k * 12 + 3, none⟩ = some (.slice da dn dc)) (exact ⟨dv, d3⟩) (first | (go_at_call 19; refine (hCVD _ hBr).mono ?_; rintro e w7 ⟨rfl, hb7⟩; replace hBq := below_seq hBq hb7; replace hBr := below_seq hBr hb7; replace dv := (hb7.cell (p := ⟨w.heap.size, 0, none⟩) (by show w.heap.size < wr.heap.size; omega)).trans dv; replace d3 := (hb7.cell (p := ⟨g, off + k * 12 + 3, none⟩) (by show g < wr.heap.size; omega)).trans d3))
          clear dv d3 c0 c1 c2 c3 c4 c5 c6 c7 c8 c9 c10 c11 cv hyc hb7 hCVD
          cases cw with
          | false =>
            have HNC : Hid (canCut L ys = false) := HNO.out hlt2 rfl
            clear HXX hCO HNO
            go_wp2_with fail
            go_ret2
            exact ⟨_, [], .inr ⟨HNC.out, rfl, rfl⟩, HEND.out _, hBr.alloc (by have := hBr.size; omega) _⟩
          | true =>
          have HA2 : Hid ((countL ys (L.take (k + 1))).all (fun x => covB ys x.ds) = true) := by
            unfold Hid
            rw [HE.out, List.all_append, HAL.out, List.all_cons, List.all_nil, show covB ys xds = true from HCW.out]
            rfl
          obtain ⟨c0, c1, c2, c3, c4, c5, c6, c7, c8, c9, c10, c11⟩ := HXX w7 hBr
          simp only at c0 c1 c2 c3 c4 c5 c6 c7 c8 c9 c10 c11
          have hC1 := hCO w7 hBq
          clear HXX hCO HNO HAL
          go_wp2_with (first | (go_at_call 21; refine hC1.mono ?_; clear c0 c1 c2 c3 c4 c5 c6 c7 c8 c9 c10 c11; rintro e w5 ⟨ya, yn, yc, rfl, hO5, hb5⟩; have hbx : Below wr.heap.size wr w5 := below_seq hBq hb5; have ho5 := owns_on ho hbx (Nat.le_refl _); have hcn := opNew w5 (⟨(j : Int), xs, xt, .slice ya yn yc, xk, xo, xn, xu, xpt, xpa, xky, xtx, xds⟩ : Ov); have hone : ∀ u ∈ Ov.cs (⟨(j : Int), xs, xt, .slice ya yn yc, xk, xo, xn, xu, xpt, xpa, xky, xtx, xds⟩ : Ov), u.oneCell' = true := cs_one (⟨(j : Int), xs, xt, .slice ya yn yc, xk, xo, xn, xu, xpt, xpa, xky, xtx, xds⟩ : Ov) rfl; have hs5 := hbx.size) | (at_builtin; refine wpList_append_own _ rfl _ _ 28 rfl w4.heap.size 50 i0 (.agg #[.int .i64 0, .int .i64 0, .int .i64 0, .slice none 0 0, .int .i64 0, .int .i64 0, .int .i64 0, .int .i64 0, .int .i64 0, .int .i64 0, .string ByteArray.empty, .string ByteArray.empty]) 12 128 Try.underlying28 hi hz0 hz1 hz2 rfl (by decide) _ M.length _ rfl (World.ownsRow.alloc ho5 _) ⟨w5.heap.size, 0, none⟩ 1 1 (Ov.cs (⟨(j : Int), xs, xt, .slice ya yn yc, xk, xo, xn, xu, xpt, xpa, xky, xtx, xds⟩ : Ov)) rfl rfl hcn hone (by unfold maxLen; omega) (by omega) (by rw [World.size_alloc]; omega) ?_))
          intro v6 w6 ho6 hg6 _
          have hbN : Below w4.heap.size w4 (w5.alloc (.cells #[.int .i64 (j : Int), .int .i64 xs, .int .i64 xt, .slice ya yn yc, .int .i64 xk, .int .i64 xo, .int .i64 xn, .int .i64 xu, .int .i64 xpt, .int .i64 xpa, .string xky, .string xtx] 50)) := (hbel.trans (hbx.mono hsw)).alloc (by omega) _
          have hO6 : Own 3 (w5.alloc (.cells #[.int .i64 (j : Int), .int .i64 xs, .int .i64 xt, .slice ya yn yc, .int .i64 xk, .int .i64 xo, .int .i64 xn, .int .i64 xu, .int .i64 xpt, .int .i64 xpa, .string xky, .string xtx] 50)) w4.heap.size (.slice ya yn yc) (xds.map (Value.int .i64)) := Own.mono (World.ownsRow.alloc hO5 _) (by have := hBq.size; omega)
          have hoA := World.ownsRow.alloc ho5 (.cells #[.int .i64 (j : Int), .int .i64 xs, .int .i64 xt, .slice ya yn yc, .int .i64 xk, .int .i64 xo, .int .i64 xn, .int .i64 xu, .int .i64 xpt, .int .i64 xpa, .string xky, .string xtx] 50)
          have HI2 : Hid (∃ M : List Ov, SameL M (countL ys (L.take (k + 1))) ∧ w6.ownsRow w4.heap.size 50 12 v6 M.length (rowCs M) ∧ (∀ x ∈ M, Own 3 w6 w4.heap.size x.dv (x.ds.map (Value.int .i64))) ∧ Below w4.heap.size w4 w6) := by
            refine ⟨M ++ [(⟨(j : Int), xs, xt, .slice ya yn yc, xk, xo, xn, xu, xpt, xpa, xky, xtx, xds⟩ : Ov)], ?_, ?_, fun z hz => ?_, hbN.grown hg6 hbN.size hlt6⟩
            · rw [HE.out]
              exact sameL_snoc hSM ⟨rfl, rfl, rfl, rfl, rfl, rfl, rfl, rfl, rfl, rfl, rfl, rfl⟩
            · rw [rowCs_app, List.length_append]
              have e1 : rowCs [(⟨(j : Int), xs, xt, .slice ya yn yc, xk, xo, xn, xu, xpt, xpa, xky, xtx, xds⟩ : Ov)] = Ov.cs (⟨(j : Int), xs, xt, .slice ya yn yc, xk, xo, xn, xu, xpt, xpa, xky, xtx, xds⟩ : Ov) := by simp [rowCs]
              rw [e1]
              exact ho6
            · have hz' : Own 3 (w5.alloc (.cells #[.int .i64 (j : Int), .int .i64 xs, .int .i64 xt, .slice ya yn yc, .int .i64 xk, .int .i64 xo, .int .i64 xn, .int .i64 xu, .int .i64 xpt, .int .i64 xpa, .string xky, .string xtx] 50)) w4.heap.size z.dv (z.ds.map (Value.int .i64)) := by
                rcases List.mem_append.1 hz with hz | hz
                · exact World.ownsRow.alloc ((hod z hz).below hbx (Nat.le_refl _)) _
                · simp only [List.mem_singleton] at hz
                  subst hz
                  exact hO6
              exact ownSame' hz' (fun q hq => hg6.block q (World.ownsRow.lt hz' q hq).2 (fun e => owns_ne hoA hz' q hq e.symm))
          clear ho6 hg6 hoA hbN hcn HE ho ho5 hO5 hO6 hod
          go_wp2_with fail
          go_roundw
          case rel => exact ⟨k + 1, by omega, by go_num, HI2, HA2⟩
          case measure => simp [intOf]; omega
        · have HE : Hid (countL ys (L.take (k + 1)) = countL ys (L.take k)) := by unfold Hid; rw [HSN.out, if_neg hlt2]
          have HI2 : Hid (∃ M : List Ov, SameL M (countL ys (L.take (k + 1))) ∧ wr.ownsRow w4.heap.size 50 12 u6 M.length (rowCs M) ∧ (∀ x ∈ M, Own 3 wr w4.heap.size x.dv (x.ds.map (Value.int .i64))) ∧ Below w4.heap.size w4 wr) := by
            rw [HE.out]
            exact ⟨M, hSM, ho, hod, hbel⟩
          have HA2 : Hid ((countL ys (L.take (k + 1))).all (fun x => covB ys x.ds) = true) := by
            unfold Hid
            rw [HE.out]
            exact HAL.out
          have hgt : yj < xs := by omega
          clear HI ho hod hbel hball HSN HE hCO HXX HNO hCVD HAL
          go_wp2_with fail
          go_quiet (fail)
          go_wp2_with fail
          go_roundw
          case rel =>
            obtain ⟨M, h1, h2, h3, h4⟩ := HI2.out
            exact ⟨k + 1, by omega, by go_num, ⟨M, h1, h2, h3, below_drewN h4 _⟩, HA2⟩
          case measure => simp [intOf]; omega
      · obtain rfl : k = L.length := by omega
        rw [List.take_length] at hSM
        have hball : Below w.heap.size w wr := hB4.trans (hbel.mono hsw4)
        have hRd := owns_rdO ho (fun x hx => (hod x hx).rd)
        have HY : Hid (canCut L ys = true) := by
          have h := HAL.out
          rw [List.take_length] at h
          exact canCut_yes HCV0.out h
        clear HI ho hod hbel HAL
        go_wp2_with fail
        go_ret2
        exact ⟨_, M, .inl ⟨HY.out, rfl, hSM⟩, hRd, hball⟩
end Go.Proofs.Ytcmgdeeamcimhaa
