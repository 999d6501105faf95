/- The specification's l12DrawOp and DrawOpBytes: a drawn operation. No condition: they are lemmas. -/
import Derived.Test.YtmmkmkaannlkhaaGreatDoorQDrawGrow
import Derived.Test.YtmmkmkaannlkhaaGreatDoorQBentOp
namespace Go.Proofs.YtmmkmkaannlkhaaGreatDoor
open Go.RowKit
set_option linter.unusedVariables false

/-- What an operation counts lies in no block of twelve cells. -/
theorem rd_apart12 {w : World} {b C : Nat} {dv : Value} {ds : List Int} {cs : Array Value} {T : TypeId} (hr : Rd C w dv (ds.map (Value.int .i64))) (h16 : ds.length = 16 ∨ ds = []) (hv : w.heap[b]? = some (.cells cs T (0, 0))) (h12 : cs.size ≤ 12) (vs : List Value) : Rd C (w.setCells b 0 vs) dv (ds.map (Value.int .i64)) := by
  obtain ⟨ao, c, e, b1, b2, b3, h⟩ := hr
  refine ⟨ao, c, e, b1, b2, b3, fun hp => ?_⟩
  obtain ⟨g, o, rfl, hg, hc⟩ := h hp
  have hl : ds.length = 16 := by
    rcases h16 with h | h
    · exact h
    · subst h; simp at hp
  have hn : g ≠ b := fun hgb => by
    subst hgb
    have h15 := hc 15 (.int .i64 (ds.getD 15 0)) (by
      rw [List.getElem?_map, List.getD_eq_getElem?_getD, List.getElem?_eq_getElem (by omega)]
      rfl)
    unfold World.cell? at h15
    rw [show w.heap[(⟨g, o + 15, none⟩ : Addr).block]? = _ from hv] at h15
    simp at h15
    have := (Array.getElem?_eq_some_iff.1 h15).1
    omega
  refine ⟨g, o, rfl, hg, fun j u hj => ?_⟩
  rw [World.cell?_setCells_out]
  · exact hc j u hj
  · intro e2
    exact absurd e2 hn
theorem opZero_cells : (#[.int .i64 0, .int .i64 0, .int .i64 0, .slice none 0 0, .int .i64 0, .int .i64 0, .int .i64 0, .int .i64 0, .int .i64 0, .int .i64 0, .string ⟨#[]⟩, .string ⟨#[]⟩] : Array Value) = ov0.cs.toArray := rfl

set_option maxHeartbeats 4000000 in
set_option maxRecDepth 100000 in
theorem l12DrawOp_any (C : Nat) (w : World) (v : Value) (xs : List Int) (hC : C ≤ w.heap.size) (hr : Rd C w v (xs.map (Value.int .u8))) (hX : ∀ x ∈ xs, 0 ≤ x ∧ x ≤ 255) (hl : xs.length ≤ 1048576) :
    Calls Tryz.prog 9 #[v] w fun e w' => ∃ x : Ov, e = .returned (.agg x.cs.toArray) ∧ Rd w'.heap.size w' x.dv (x.ds.map (Value.int .i64)) ∧ (x.ds.length = 16 ∨ x.ds = []) ∧ Below w.heap.size w w' := by
  have hso := fun (w9 : World) (h : Below w.heap.size w w9) => source_any C w9 v xs (Nat.le_trans hC h.size) (hr.below (h.mono hC)) hX hl
  clear hr
  go_enter Tryz.func9, Tryz.ntmps9
  go_wp2_with fail
  refine (hso _ (below_alloc _ _)).mono ?_
  rintro e w1 ⟨rfl, hS1, hb1⟩
  have hv0 := (hb1.block w.heap.size (by simp)).trans (heap_alloc_new w _)
  have hB1 := below_seq (below_alloc w _) hb1
  have hlt := hb1.size
  rw [World.size_alloc] at hlt hS1
  simp only [World.size_alloc]
  clear hso hb1
  obtain ⟨b, hbe⟩ : ∃ b, w.heap.size + 1 = b := ⟨_, rfl⟩
  rw [hbe] at hS1 hlt ⊢
  have hbw : w.heap.size < b := by omega
  clear hbe
  have hgw := l08Grow_any C b 0 8 w1 hS1 (by omega) (by omega) (by omega)
  rw [show ((8 : Nat) : Int) = 8 from rfl] at hgw
  have hS0 : Hid (Below w.heap.size w w1) := hB1
  clear hB1 hS1
  go_wp2_with fail
  refine hgw.mono ?_
  rintro e w2 ⟨gl, V, LL, rfl, hG⟩
  clear hgw
  go_wp2_with fail
  refine (srcNext_any C b _ 3 w2 hG.src (by omega) (by omega) (by omega)).mono ?_
  rintro e w3 ⟨k, rfl, hk0, hk1, hS2, hG2⟩
  obtain ⟨k, rfl⟩ := Int.eq_ofNat_of_zero_le hk0
  have hk : k < 3 := by omega
  have hW := hG.next hS2 hG2
  have ck := hW.at hk
  clear hG hS2 hG2
  go_wp2_with fail
  refine (l08Bent_any C b _ w3 (V k) (LL k) 72 2120 hW.src (by omega) (hW.log k hk) (hW.dr k hk) (by omega)).mono ?_
  rintro e w4 ⟨r, M, rfl, hR, hB, hS4, hG4⟩
  have hgr := grownBy_trans hW.gr hG4
  replace hv0 := blk_on hv0 hgr (by omega)
  have hB4 : Hid (Below w.heap.size w w4) := hS0.out.grown hgr (by have := hS0.out.size; omega) (fun q hq => by cases hq; omega)
  clear hW ck hG4 hgr hS0
  obtain ⟨ao, cap, rfl⟩ : ∃ ao cap, r = .slice ao M.length cap := by obtain ⟨⟨ao, cap, h, _⟩, _⟩ := hR; exact ⟨_, _, h⟩
  have hML := hB.1
  by_cases h0 : M.length = 0
  · have e0 : (M.length : Int) = 0 := by omega
    have hth : w4.there w.heap.size 0 12 := there_blk hv0 (by decide)
    have HTH : Hid (w4.there w.heap.size 0 (#[.int .i64 0, .int .i64 0, .int .i64 0, .slice none 0 0, .int .i64 0, .int .i64 0, .int .i64 0, .int .i64 0, .int .i64 0, .int .i64 0, .string ⟨#[]⟩, .string ⟨#[]⟩] : Array Value).size) := hth
    have HON : Hid ((#[.int .i64 0, .int .i64 0, .int .i64 0, .slice none 0 0, .int .i64 0, .int .i64 0, .int .i64 0, .int .i64 0, .int .i64 0, .int .i64 0, .string ⟨#[]⟩, .string ⟨#[]⟩] : Array Value).all (·.oneCell') = true) := all_oneCell_toArray (cs_one ov0 rfl)
    have HIN : Hid ((Tryz.prog.info? 29).map (·.size) = some (#[.int .i64 0, .int .i64 0, .int .i64 0, .slice none 0 0, .int .i64 0, .int .i64 0, .int .i64 0, .int .i64 0, .int .i64 0, .int .i64 0, .string ⟨#[]⟩, .string ⟨#[]⟩] : Array Value).size) := infoOpB ov0
    have hrs : (w4.setCells w.heap.size 0 [.int .i64 0, .int .i64 0, .int .i64 0, .slice none 0 0, .int .i64 0, .int .i64 0, .int .i64 0, .int .i64 0, .int .i64 0, .int .i64 0, .string ⟨#[]⟩, .string ⟨#[]⟩]).rangeAt w.heap.size 0 [.int .i64 0, .int .i64 0, .int .i64 0, .slice none 0 0, .int .i64 0, .int .i64 0, .int .i64 0, .int .i64 0, .int .i64 0, .int .i64 0, .string ⟨#[]⟩, .string ⟨#[]⟩] := World.rangeAt_setCells_same _ _ _ _ HTH.out
    have hB9 : Below w.heap.size w (w4.setCells w.heap.size 0 [.int .i64 0, .int .i64 0, .int .i64 0, .slice none 0 0, .int .i64 0, .int .i64 0, .int .i64 0, .int .i64 0, .int .i64 0, .int .i64 0, .string ⟨#[]⟩, .string ⟨#[]⟩]) := below_cellsC (Nat.le_refl _) _ _ _ hB4.out
    have hld := run_loadVar_mid (P := Tryz.prog) _ w.heap.size 0 29 [.int .i64 0, .int .i64 0, .int .i64 0, .slice none 0 0, .int .i64 0, .int .i64 0, .int .i64 0, .int .i64 0, .int .i64 0, .int .i64 0, .string ⟨#[]⟩, .string ⟨#[]⟩] _ hrs Tryz.underlying29 rfl (infoOpB ov0)
    obtain ⟨W9, HW9⟩ : ∃ W9, Hid (w4.setCells w.heap.size 0 [.int .i64 0, .int .i64 0, .int .i64 0, .slice none 0 0, .int .i64 0, .int .i64 0, .int .i64 0, .int .i64 0, .int .i64 0, .int .i64 0, .string ⟨#[]⟩, .string ⟨#[]⟩] = W9) := ⟨_, rfl⟩
    have HST : Hid (w4.setCells w.heap.size 0 (#[.int .i64 0, .int .i64 0, .int .i64 0, .slice none 0 0, .int .i64 0, .int .i64 0, .int .i64 0, .int .i64 0, .int .i64 0, .int .i64 0, .string ⟨#[]⟩, .string ⟨#[]⟩] : Array Value).toList = W9) := HW9.out
    rw [HW9.out] at hB9 hld
    obtain ⟨V0, HV0⟩ : ∃ V0, Hid (Value.agg [.int .i64 0, .int .i64 0, .int .i64 0, .slice none 0 0, .int .i64 0, .int .i64 0, .int .i64 0, .int .i64 0, .int .i64 0, .int .i64 0, .string ⟨#[]⟩, .string ⟨#[]⟩].toArray = V0) := ⟨_, rfl⟩
    rw [HV0.out] at hld
    have HLD : Hid _ := hld
    have HB9 : Hid _ := hB9
    rw [h0]
    clear hth hv0 hR hB hS4 h0 e0 hML hrs hB9 hld HW9
    go_wp2_with (first | (refine wpList_store_mid rfl 29 _ _ rfl w.heap.size 0 #[.int .i64 0, .int .i64 0, .int .i64 0, .slice none 0 0, .int .i64 0, .int .i64 0, .int .i64 0, .int .i64 0, .int .i64 0, .int .i64 0, .string ⟨#[]⟩, .string ⟨#[]⟩] rfl rfl HTH.out HIN.out HON.out ?_; rw [HST.out]; clear HST))
    have hld := HLD.out
    exact bodyPost_ret (v := V0) (by simp [results, Tryz.results9, asAddr, Act.put, hld]) rfl ⟨ov0, by rw [← HV0.out]; rfl, ⟨none, 0, rfl, Nat.le_refl _, Nat.zero_le _, fun _ => rfl, fun h => absurd h (by simp [ov0])⟩, .inr rfl, HB9.out⟩
  · have e0 : ¬ (M.length : Int) = 0 := by omega
    obtain ⟨⟨ao', cap', ee, hcap, hmax, hnil, hrow⟩, hdv⟩ := hR
    simp only [Value.slice.injEq] at ee
    obtain ⟨rfl, -, rfl⟩ := ee
    obtain ⟨g, off, rfl, hg, hcs⟩ := hrow (by omega)
    go_wp2_with fail
    refine (srcNext_pos C b _ M.length w4 hS4 (by omega) (by omega) (by omega)).mono ?_
    rintro e w5 ⟨q, rfl, hq0, hq1, hS5, hG5⟩
    obtain ⟨q, rfl⟩ := Int.eq_ofNat_of_zero_le hq0
    have hq : q < M.length := by omega
    have hRd : RdO w4.heap.size w4 (.slice (some ⟨g, off, none⟩) M.length cap) M := ⟨⟨_, _, rfl, hcap, hmax, hnil, fun _ => ⟨g, off, rfl, hg, hcs⟩⟩, hdv⟩
    have hRd5 := hRd.aside (fun x hx => (hB.2 x hx).2.1) hS4 hG5 (Nat.le_refl _)
    obtain ⟨⟨ao', cap', ee, hcap, hmax, hnil, hrow⟩, hdv⟩ := hRd5
    simp only [Value.slice.injEq] at ee
    obtain ⟨rfl, -, rfl⟩ := ee
    obtain ⟨g', off', ee, hg, hcs⟩ := hrow (by omega)
    simp only [Option.some.injEq, Addr.mk.injEq] at ee
    obtain ⟨rfl, rfl, -⟩ := ee
    have hrg := opAt_range (hcs q hq)
    have hxd := hdv _ (ovAt_mem hq)
    have HN16 : Hid ((ovAt M q).ds.length = 16) := (hB.2 _ (ovAt_mem hq)).2.1
    replace hv0 := blk_on hv0 hG5 (by omega)
    have hs5 := hG5.size
    have hsw := hB4.out.size
    have hB5 : Below w.heap.size w w5 := hB4.out.grown hG5 hsw (fun q hq => by cases hq; omega)
    have hone' : (ovAt M q).dv.oneCell' = true := by obtain ⟨_, _, e, _⟩ := hxd; rw [e]; rfl
    generalize ovAt M q = x at *
    have hth : w5.there w.heap.size 0 12 := there_blk hv0 (by decide)
    have hrs : (w5.setCells w.heap.size 0 x.cs).rangeAt w.heap.size 0 x.cs := World.rangeAt_setCells_same _ _ _ _ hth
    have hB9 : Below w.heap.size w (w5.setCells w.heap.size 0 x.cs) := below_cellsC (Nat.le_refl _) _ _ _ hB5
    have hld := run_loadVar_mid (P := Tryz.prog) _ w.heap.size 0 29 x.cs _ hrs Tryz.underlying29 rfl (infoOpB x)
    have hth' : w5.there w.heap.size 0 x.cs.toArray.size := hth
    have HI1 : Hid ((Tryz.prog.info? 29).map (·.size) = some x.cs.length) := infoOpB x
    have HI2 : Hid ((Tryz.prog.info? 29).map (·.size) = some x.cs.toArray.size) := infoOpB x
    have hone : x.cs.toArray.all (·.oneCell') = true := all_oneCell_toArray (cs_one x hone')
    have hRX : Rd (w5.setCells w.heap.size 0 x.cs).heap.size (w5.setCells w.heap.size 0 x.cs) x.dv (x.ds.map (Value.int .i64)) := by
      rw [size_setCells]
      exact (rd_apart12 hxd (.inl HN16.out) hv0 (by decide) _).mono hs5
    obtain ⟨cs, HCS⟩ : ∃ cs, Hid (x.cs = cs) := ⟨_, rfl⟩
    rw [HCS.out] at hrg hrs hB9 hld hth' hone hRX
    have HI1' : Hid ((Tryz.prog.info? 29).map (·.size) = some cs.length) := by rw [← HCS.out]; exact HI1.out
    have HI2' : Hid ((Tryz.prog.info? 29).map (·.size) = some cs.toArray.size) := by rw [← HCS.out]; exact HI2.out
    have HLD : Hid _ := hld
    have HRX : Hid _ := hRX
    have HB9 : Hid _ := hB9
    have jq0 : (0 : Int) ≤ (q : Int) := by omega
    have jq1 : (q : Int) < (M.length : Int) := by omega
    clear hld hrs hth hv0 hS4 hS5 hG5 hcs hrow hdv hRd hB hB5 hRX hB9 hxd HI1 HI2
    go_wp2_with (first | (refine wpList_load_mid rfl 29 _ rfl g (off + q * 12) rfl cs _ hrg Tryz.underlying29 rfl HI1'.out ?_) | (refine wpList_store_mid rfl 29 _ _ rfl w.heap.size 0 cs.toArray rfl rfl hth' HI2'.out hone ?_))
    have hld := HLD.out
    exact bodyPost_ret (v := .agg cs.toArray) (by simp [results, Tryz.results9, asAddr, Act.put, hld]) rfl ⟨x, by rw [HCS.out], HRX.out, .inl HN16.out, HB9.out⟩

set_option maxHeartbeats 4000000 in
set_option maxRecDepth 100000 in
theorem drawOpBytes_any (C : Nat) (w : World) (v : Value) (xs : List Int) (hC : C ≤ w.heap.size) (hr : Rd C w v (xs.map (Value.int .u8))) (hX : ∀ x ∈ xs, 0 ≤ x ∧ x ≤ 255) (hl : xs.length ≤ 1048576) :
    Calls Tryz.prog 4 #[v] w fun e w' => ∃ x : Ov, e = .returned (.agg x.cs.toArray) ∧ Rd w'.heap.size w' x.dv (x.ds.map (Value.int .i64)) ∧ (x.ds.length = 16 ∨ x.ds = []) ∧ Below w.heap.size w w' := by
  have hso := fun (w9 : World) (h : Below w.heap.size w w9) => l12DrawOp_any C w9 v xs (Nat.le_trans hC h.size) (hr.below (h.mono hC)) hX hl
  obtain ⟨va, vc, rfl⟩ : ∃ a c, v = .slice a xs.length c := by obtain ⟨a, c, e, _⟩ := hr; exact ⟨a, c, by rw [e, List.length_map]⟩
  clear hr
  go_enter Tryz.func4, Tryz.ntmps4
  go_wp2_with fail
  refine (hso _ (below_alloc _ _)).mono ?_
  rintro e w1 ⟨x, rfl, hxd, h16, hb1⟩
  have hv0 := (hb1.block w.heap.size (by simp)).trans (heap_alloc_new w _)
  have hB1 := below_seq (below_alloc w _) hb1
  have hone' : x.dv.oneCell' = true := by obtain ⟨_, _, e, _⟩ := hxd; rw [e]; rfl
  have hth : w1.there w.heap.size 0 12 := there_blk hv0 (by decide)
  have hrs : (w1.setCells w.heap.size 0 x.cs).rangeAt w.heap.size 0 x.cs := World.rangeAt_setCells_same _ _ _ _ hth
  have hB9 : Below w.heap.size w (w1.setCells w.heap.size 0 x.cs) := below_cellsC (Nat.le_refl _) _ _ _ hB1
  have hld := run_loadVar_mid (P := Tryz.prog) _ w.heap.size 0 29 x.cs _ hrs Tryz.underlying29 rfl (infoOpB x)
  have hth' : w1.there w.heap.size 0 x.cs.toArray.size := hth
  have HI2 : Hid ((Tryz.prog.info? 29).map (·.size) = some x.cs.toArray.size) := infoOpB x
  have hone : x.cs.toArray.all (·.oneCell') = true := all_oneCell_toArray (cs_one x hone')
  have hRX : Rd (w1.setCells w.heap.size 0 x.cs).heap.size (w1.setCells w.heap.size 0 x.cs) x.dv (x.ds.map (Value.int .i64)) := by
    rw [size_setCells]
    exact rd_apart12 hxd h16 hv0 (by decide) _
  obtain ⟨cs, HCS⟩ : ∃ cs, Hid (x.cs = cs) := ⟨_, rfl⟩
  rw [HCS.out] at hrs hB9 hld hth' hone hRX
  have HI2' : Hid ((Tryz.prog.info? 29).map (·.size) = some cs.toArray.size) := by rw [← HCS.out]; exact HI2.out
  have HLD : Hid _ := hld
  have HRX : Hid _ := hRX
  have HB9 : Hid _ := hB9
  have H16 : Hid _ := h16
  rw [HCS.out]
  clear hld hrs hth hv0 hRX hB9 hxd HI2 hb1 hB1 h16 hso
  go_wp2_with (first | (refine wpList_store_mid rfl 29 _ _ rfl w.heap.size 0 cs.toArray rfl rfl hth' HI2'.out hone ?_))
  have hld := HLD.out
  exact bodyPost_ret (v := .agg cs.toArray) (by simp [results, Tryz.results4, asAddr, Act.put, hld]) rfl ⟨x, by rw [HCS.out], HRX.out, H16.out, HB9.out⟩
end Go.Proofs.YtmmkmkaannlkhaaGreatDoor
