/- Rows of operations that are one's own: what is shared by LogSince and LogAt. The specification's copy of a row of operations: each one anew, with a row of counts of its own. -/
import Derived.BigQuiet
import Derived.Test.YtmmkmkaannlkhaaGreatDoorQMarkOpsToCopyOps
import Derived.Test.YtmmkmkaannlkhaaGreatDoorQLedgerToLogFind
import Derived.Test.YtmmkmkaannlkhaaGreatDoorQOpNumsToRdCut
import Derived.Test.YtmmkmkaannlkhaaGreatDoorQLedClosedToUndoMath
import Derived.Test.YtmmkmkaannlkhaaGreatDoorQLogOKSpec
import Derived.Test.YtmmkmkaannlkhaaGreatDoorQInfoToLawAt
import Derived.Test.YtmmkmkaannlkhaaGreatDoorQThereKit
namespace Go.Proofs.YtmmkmkaannlkhaaGreatDoor
open Go.RowKit
set_option linter.unusedVariables false

theorem owns_ne {w : World} {B B' n : Nat} {v dv : Value} {xs ds : List Value} (h : w.ownsRow B 29 12 v n xs) (hd : Own 3 w B' dv ds) : ∀ k, dv.ownBlock = some k → v.ownBlock ≠ some k := by
  intro k hk hv
  obtain ⟨_, h2⟩ := h
  obtain ⟨_, d2⟩ := hd
  rcases h2 with ⟨e, _⟩ | ⟨g, cap, cur, e, _, hh, _⟩
  · rw [e] at hv; cases hv
  · rcases d2 with ⟨e', _⟩ | ⟨g', cap', cur', e', _, hh', _⟩
    · rw [e'] at hk; cases hk
    · rw [e] at hv
      rw [e'] at hk
      cases hv
      cases hk
      rw [hh] at hh'
      simp at hh'
theorem owns_any {w : World} {B n : Nat} {v : Value} {xs : List Value} (h : w.ownsRow B 29 12 v n xs) : ∃ ao cap, v = .slice ao n cap := by
  obtain ⟨_, h2⟩ := h
  rcases h2 with ⟨hv, hn⟩ | ⟨g, cap, cur, hv, _⟩
  · exact ⟨none, 0, by rw [hv, hn]⟩
  · exact ⟨_, cap, hv⟩
theorem ownSame' {e : TypeId} {w w' : World} {B : Nat} {v : Value} {cs : List Value} (h : Own e w B v cs) (hs : ∀ k, v.ownBlock = Option.some k → w'.heap[k]? = w.heap[k]?) : Own e w' B v cs := by
  obtain ⟨h1, h2⟩ := h
  refine ⟨h1, ?_⟩
  rcases h2 with h2 | ⟨g, cap, cur, rfl, hg, hh, r⟩
  · exact .inl h2
  · exact .inr ⟨g, cap, cur, rfl, hg, (hs g rfl).trans hh, r⟩
theorem sameL_snoc {M S : List Ov} {y x : Ov} (h : SameL M S) (hx : y.same x) : SameL (M ++ [y]) (S ++ [x]) := by
  refine ⟨by rw [List.length_append, List.length_append, h.1]; rfl, fun k hk => ?_⟩
  rw [List.length_append, List.length_singleton] at hk
  unfold ovAt
  rw [List.getD_eq_getElem?_getD, List.getD_eq_getElem?_getD]
  by_cases e : k = S.length
  · subst e
    rw [List.getElem?_append_right (by rw [h.1]; omega), List.getElem?_append_right (by omega), h.1, Nat.sub_self]
    exact hx
  · rw [List.getElem?_append_left (by rw [h.1]; omega), List.getElem?_append_left (by omega), ← List.getD_eq_getElem?_getD, ← List.getD_eq_getElem?_getD]
    exact h.2 k (by omega)

set_option maxHeartbeats 2000000 in
set_option maxRecDepth 100000 in
theorem l08CopyOp_any (C : Nat) (x : Ov) (w : World) (hl : x.ds.length ≤ 1048576) (hC : C ≤ w.heap.size) (hr : Rd C w x.dv (x.ds.map (Value.int .i64))) :
    Calls Tryz.prog 65 #[.agg #[.int .i64 x.a, .int .i64 x.s, .int .i64 x.t, x.dv, .int .i64 x.k, .int .i64 x.o, .int .i64 x.n, .int .i64 x.u, .int .i64 x.pt, .int .i64 x.pa, .string x.ky, .string x.tx]] w fun e w' => ∃ ya yn yc, e = .returned (.agg #[.int .i64 x.a, .int .i64 x.s, .int .i64 x.t, .slice ya yn yc, .int .i64 x.k, .int .i64 x.o, .int .i64 x.n, .int .i64 x.u, .int .i64 x.pt, .int .i64 x.pa, .string x.ky, .string x.tx]) ∧ Own 3 w' w.heap.size (.slice ya yn yc) (x.ds.map (Value.int .i64)) ∧ Below w.heap.size w w' := by
  obtain ⟨xa, xs, xt, xdv, xk, xo, xn, xu, xpt, xpa, xky, xtx, xds⟩ := x
  simp only at hl hr ⊢
  obtain ⟨da, dn, dc, rfl⟩ : ∃ da dn dc, xdv = .slice da dn dc := by obtain ⟨da, dc, h, _⟩ := hr; exact ⟨da, _, dc, h⟩
  have hb0 : Below w.heap.size w ((w.alloc (.cells #[.int .i64 xa, .int .i64 xs, .int .i64 xt, .slice da dn dc, .int .i64 xk, .int .i64 xo, .int .i64 xn, .int .i64 xu, .int .i64 xpt, .int .i64 xpa, .string xky, .string xtx] 29)).alloc (.cells #[.int .i64 0, .int .i64 0, .int .i64 0, .slice none 0 0, .int .i64 0, .int .i64 0, .int .i64 0, .int .i64 0, .int .i64 0, .int .i64 0, .string ByteArray.empty, .string ByteArray.empty] 29)) := below_then (below_alloc _ _) _
  have hcp := l02Copy_any C ((w.alloc (.cells #[.int .i64 xa, .int .i64 xs, .int .i64 xt, .slice da dn dc, .int .i64 xk, .int .i64 xo, .int .i64 xn, .int .i64 xu, .int .i64 xpt, .int .i64 xpa, .string xky, .string xtx] 29)).alloc (.cells #[.int .i64 0, .int .i64 0, .int .i64 0, .slice none 0 0, .int .i64 0, .int .i64 0, .int .i64 0, .int .i64 0, .int .i64 0, .int .i64 0, .string ByteArray.empty, .string ByteArray.empty] 29)) (.slice da dn dc) xds hl (by have := hb0.size; omega) (hr.below (hb0.mono hC))
  go_enter Tryz.func65, Tryz.ntmps65
  go_upto_region 2 with (go_at_call 105; refine hcp.mono ?_; rintro e w2 ⟨ya, yc, rfl, hO2, hb2⟩; have o3 := (op_cells (w := w) (below_seq (below_alloc _ _) hb2)).2.2.2.1; have f3 := frozen_made (w := w) (below_seq (below_alloc _ _) hb2) 3)
  obtain ⟨o0, o1, o2, -, o4, o5, o6, o7, o8, o9, o10, o11⟩ := op_cells (w := w) (below_seq (below_alloc _ _) hb2)
  have oo : ∀ j, j ≠ 3 → (w2.setCell ⟨w.heap.size, 3, none⟩ (.slice ya xds.length yc)).cell? ⟨w.heap.size, j, none⟩ = w2.cell? ⟨w.heap.size, j, none⟩ := fun j hj => World.cell?_setCell_other _ _ _ _ (by intro e; simp only [Addr.mk.injEq] at e; omega)
  have hrg : (w2.setCell ⟨w.heap.size, 3, none⟩ (.slice ya xds.length yc)).rangeAt w.heap.size 0 (Ov.cs (⟨xa, xs, xt, .slice ya xds.length yc, xk, xo, xn, xu, xpt, xpa, xky, xtx, xds⟩ : Ov)) := fun j u hj => by
    rw [Nat.zero_add]
    match j, hj with
    | 3, hj => rw [← hj]; exact World.cell?_setCell_same _ _ _ o3
    | 0, hj => rw [← hj, oo 0 (by omega)]; exact o0
    | 1, hj => rw [← hj, oo 1 (by omega)]; exact o1
    | 2, hj => rw [← hj, oo 2 (by omega)]; exact o2
    | 4, hj => rw [← hj, oo 4 (by omega)]; exact o4
    | 5, hj => rw [← hj, oo 5 (by omega)]; exact o5
    | 6, hj => rw [← hj, oo 6 (by omega)]; exact o6
    | 7, hj => rw [← hj, oo 7 (by omega)]; exact o7
    | 8, hj => rw [← hj, oo 8 (by omega)]; exact o8
    | 9, hj => rw [← hj, oo 9 (by omega)]; exact o9
    | 10, hj => rw [← hj, oo 10 (by omega)]; exact o10
    | 11, hj => rw [← hj, oo 11 (by omega)]; exact o11
    | n + 12, hj => exact absurd (List.getElem?_eq_some_iff.1 hj).1 (by show ¬ n + 12 < 12; omega)
  have hth0 := there_made (w := w.alloc (.cells #[.int .i64 xa, .int .i64 xs, .int .i64 xt, .slice da dn dc, .int .i64 xk, .int .i64 xo, .int .i64 xn, .int .i64 xu, .int .i64 xpt, .int .i64 xpa, .string xky, .string xtx] 29)) (n := 12) hb2 (by simp)
  rw [World.size_alloc] at hth0
  have hth : (w2.setCell ⟨w.heap.size, 3, none⟩ (.slice ya xds.length yc)).there (w.heap.size + 1) 0 12 := World.there_setCells hth0 w.heap.size 3 [.slice ya xds.length yc]
  have hsz : w.heap.size + 2 ≤ w2.heap.size := by have := hb2.size; rw [World.size_alloc, World.size_alloc] at this; exact this
  rw [World.size_alloc, World.size_alloc] at hO2
  have hO3 : Own 3 (w2.setCell ⟨w.heap.size, 3, none⟩ (.slice ya xds.length yc)) (w.heap.size + 1 + 1) (.slice ya xds.length yc) (xds.map (Value.int .i64)) := hO2.apart (grownBy_set w2 w.heap.size 3 _) (fun kk hk => by cases hk; omega)
  have hB3 : Below w.heap.size w (w2.setCell ⟨w.heap.size, 3, none⟩ (.slice ya xds.length yc)) := (below_seq hb0 hb2).setCell (p := ⟨w.heap.size, 3, none⟩) (Nat.le_refl _) _
  clear o0 o1 o2 o3 o4 o5 o6 o7 o8 o9 o10 o11 oo hth0 hO2 hcp hb0 hb2 hr f3
  generalize w2.setCell ⟨w.heap.size, 3, none⟩ (.slice ya xds.length yc) = w3 at *
  have hrs : (w3.setCells (w.heap.size + 1) 0 (Ov.cs (⟨xa, xs, xt, .slice ya xds.length yc, xk, xo, xn, xu, xpt, xpa, xky, xtx, xds⟩ : Ov))).rangeAt (w.heap.size + 1) 0 (Ov.cs (⟨xa, xs, xt, .slice ya xds.length yc, xk, xo, xn, xu, xpt, xpa, xky, xtx, xds⟩ : Ov)) := World.rangeAt_setCells_same _ _ _ _ hth
  have hO4 : Own 3 (w3.setCells (w.heap.size + 1) 0 (Ov.cs (⟨xa, xs, xt, .slice ya xds.length yc, xk, xo, xn, xu, xpt, xpa, xky, xtx, xds⟩ : Ov))) w.heap.size (.slice ya xds.length yc) (xds.map (Value.int .i64)) := (hO3.apart (grownBy_setCells w3 (w.heap.size + 1) _ 0) (fun kk hk => by cases hk; omega)).mono (by omega)
  have hB4 : Below w.heap.size w (w3.setCells (w.heap.size + 1) 0 (Ov.cs (⟨xa, xs, xt, .slice ya xds.length yc, xk, xo, xn, xu, xpt, xpa, xky, xtx, xds⟩ : Ov))) := below_setsC (by omega) _ _ _ hB3
  have hth' : w3.there (w.heap.size + 1) 0 (Ov.cs (⟨xa, xs, xt, .slice ya xds.length yc, xk, xo, xn, xu, xpt, xpa, xky, xtx, xds⟩ : Ov)).toArray.size := hth
  have HI1 : Hid ((Tryz.prog.info? 29).map (·.size) = some (Ov.cs (⟨xa, xs, xt, .slice ya xds.length yc, xk, xo, xn, xu, xpt, xpa, xky, xtx, xds⟩ : Ov)).length) := by show (Tryz.prog.info? 29).map (·.size) = some 12; kernel_rfl
  have HI2 : Hid ((Tryz.prog.info? 29).map (·.size) = some (Ov.cs (⟨xa, xs, xt, .slice ya xds.length yc, xk, xo, xn, xu, xpt, xpa, xky, xtx, xds⟩ : Ov)).toArray.size) := by show (Tryz.prog.info? 29).map (·.size) = some 12; kernel_rfl
  have hone : (Ov.cs (⟨xa, xs, xt, .slice ya xds.length yc, xk, xo, xn, xu, xpt, xpa, xky, xtx, xds⟩ : Ov)).toArray.all (·.oneCell') = true := all_oneCell_toArray (cs_one (⟨xa, xs, xt, .slice ya xds.length yc, xk, xo, xn, xu, xpt, xpa, xky, xtx, xds⟩ : Ov) rfl)
  have HAN : Hid (Value.agg (Ov.cs (⟨xa, xs, xt, .slice ya xds.length yc, xk, xo, xn, xu, xpt, xpa, xky, xtx, xds⟩ : Ov)).toArray = .agg #[.int .i64 xa, .int .i64 xs, .int .i64 xt, .slice ya xds.length yc, .int .i64 xk, .int .i64 xo, .int .i64 xn, .int .i64 xu, .int .i64 xpt, .int .i64 xpa, .string xky, .string xtx]) := rfl
  obtain ⟨cs, HCS⟩ : ∃ cs, Hid (Ov.cs (⟨xa, xs, xt, .slice ya xds.length yc, xk, xo, xn, xu, xpt, xpa, xky, xtx, xds⟩ : Ov) = cs) := ⟨_, rfl⟩
  rw [HCS.out] at hrg hrs hO4 hB4 hth' HI1 HI2 hone HAN
  clear hO3 hB3 HCS hth
  have hld := run_loadVar_mid (P := Tryz.prog) _ (w.heap.size + 1) 0 29 cs _ hrs Tryz.underlying29 rfl HI1.out
  have HLD : Hid _ := hld
  clear hld hrs
  go_wp2_with (first | (refine wpList_load_mid rfl 29 _ rfl w.heap.size 0 rfl cs _ hrg Tryz.underlying29 rfl HI1.out ?_) | (refine wpList_store_mid rfl 29 _ _ rfl (w.heap.size + 1) 0 cs.toArray rfl rfl hth' HI2.out hone ?_))
  have hld := HLD.out
  exact bodyPost_ret (v := .agg cs.toArray) (by simp [results, Tryz.results65, asAddr, Act.put, hld]) rfl ⟨ya, _, yc, by rw [HAN.out], hO4, hB4⟩
end Go.Proofs.YtmmkmkaannlkhaaGreatDoor

namespace Go.Proofs.YtmmkmkaannlkhaaGreatDoor
open Go.RowKit
set_option linter.unusedVariables false

theorem owns_pos {w : World} {B n s : Nat} {e : TypeId} {v : Value} {xs : List Value} (h : w.ownsRow B e s v n xs) (hn : 0 < n) : ∃ g cap, v = .slice (some ⟨g, 0, none⟩) n cap := by
  obtain ⟨_, h2⟩ := h
  rcases h2 with ⟨_, h0⟩ | ⟨g, cap, cur, hv, _⟩
  · omega
  · exact ⟨g, cap, hv⟩

set_option maxHeartbeats 4000000 in
set_option maxRecDepth 100000 in
theorem l08Copy_any (C : Nat) (w : World) (v : Value) (L : List Ov) (hC : C ≤ w.heap.size) (hr : RdO C w v L) (hlen : L.length ≤ 4096) (HD : Hid (∀ x ∈ L, x.ds.length ≤ 1048576)) :
    Calls Tryz.prog 41 #[v] w fun e w' => ∃ r M, e = .returned r ∧ SameL M L ∧ w'.ownsRow w.heap.size 29 12 r M.length (rowCs M) ∧ (∀ x ∈ M, Own 3 w' w.heap.size x.dv (x.ds.map (Value.int .i64))) ∧ Below w.heap.size w w' ∧ ∃ g cap, r = .slice (some ⟨g, 0, none⟩) M.length cap := by
  have hr0 := hr
  obtain ⟨⟨ao, cap, rfl, hcap, hmax, hnil, hrow⟩, hdv⟩ := hr
  obtain ⟨i0, hi, hz0, hz1, hz2⟩ := info_parts infoOp
  have HI0 : Hid (∃ M : List Ov, SameL M (L.take 0) ∧ (w.alloc (.cells #[] 29)).ownsRow w.heap.size 29 12 (.slice (some ⟨w.heap.size, 0, none⟩) 0 0) M.length (rowCs M) ∧ (∀ x ∈ M, Own 3 (w.alloc (.cells #[] 29)) w.heap.size x.dv (x.ds.map (Value.int .i64))) ∧ Below w.heap.size w (w.alloc (.cells #[] 29)) ∧ ∃ g cap, (Value.slice (some ⟨w.heap.size, 0, none⟩) 0 0) = .slice (some ⟨g, 0, none⟩) M.length cap) :=
    ⟨[], ⟨rfl, fun k hk => absurd hk (by simp)⟩, ⟨rfl, .inr ⟨w.heap.size, 0, #[], rfl, Nat.le_refl _, heap_alloc_new _ _, Nat.le_refl _, by unfold maxLen; omega, rfl, rfl⟩⟩, fun x hx => absurd hx (by simp), below_alloc _ _, _, _, rfl⟩
  go_enter Tryz.func41, Tryz.ntmps41
  go_wp2_with fail
  go_loopw [3, 4] (fun tv ti wr => ∃ k : Nat, k ≤ L.length ∧ ti = .int .i64 (k : Int) ∧ Hid (∃ M : List Ov, SameL M (L.take k) ∧ wr.ownsRow w.heap.size 29 12 tv M.length (rowCs M) ∧ (∀ x ∈ M, Own 3 wr w.heap.size x.dv (x.ds.map (Value.int .i64))) ∧ Below w.heap.size w wr ∧ ∃ g cap, tv = .slice (some ⟨g, 0, none⟩) M.length cap)) (fun _ ti _ => L.length - (intOf ti).toNat)
  case atStart => exact ⟨0, Nat.zero_le _, rfl, HI0⟩
  case round =>
    clear HI0
    obtain ⟨k, hk, rfl, HI⟩ := hrel
    obtain ⟨M, hSM, ho, hod, hbel, hshp⟩ := HI.out
    by_cases hlt : k < L.length
    · have j1 : (k : Int) < (L.length : Int) := by omega
      have hsw := hbel.size
      obtain ⟨g, off, rfl, hg, hcs⟩ := hrow (by omega)
      have hx := (hcs k hlt).below (hbel.mono hC) hg
      have hxd := (hdv _ (ovAt_mem hlt)).below (hbel.mono hC)
      have hxl := HD.out _ (ovAt_mem hlt)
      have HE : Hid (L.take (k + 1) = L.take k ++ [ovAt L k]) := take_snoc hlt
      have hll : M.length ≤ 4096 := by rw [hSM.1, List.length_take]; omega
      have hC1 := l08CopyOp_any C (ovAt L k) wr hxl (by omega) hxd
      clear hcs
      obtain ⟨c0, c1, c2, c3, c4, c5, c6, c7, c8, c9, c10, c11⟩ := hx
      generalize ovAt L k = x at *
      obtain ⟨xa, xs, xt, xdv, xk, xo, xn, xu, xpt, xpa, xky, xtx, xds⟩ := x
      simp only at c0 c1 c2 c3 c4 c5 c6 c7 c8 c9 c10 c11 hxd hC1
      obtain ⟨da, dn, dc, rfl⟩ : ∃ da dn dc, xdv = .slice da dn dc := by obtain ⟨da, dc, h, _⟩ := hxd; exact ⟨da, _, dc, h⟩
      have hgw : g < wr.heap.size := by omega
      obtain ⟨va6, vc6, e6⟩ := owns_any ho
      subst e6
      have hlt6 := fun k hk => (World.ownsRow.lt ho k hk).1
      clear HI
      go_wp2_with (first | (go_at_call 65; refine hC1.mono ?_; clear c0 c1 c2 c3 c4 c5 c6 c7 c8 c9 c10 c11; rintro e w5 ⟨ya, yn, yc, rfl, hO5, hb5⟩; have ho5 := owns_on ho hb5 (Nat.le_refl _); have hcn := opNew w5 (⟨xa, xs, xt, .slice ya yn yc, xk, xo, xn, xu, xpt, xpa, xky, xtx, xds⟩ : Ov); have hone : ∀ u ∈ Ov.cs (⟨xa, xs, xt, .slice ya yn yc, xk, xo, xn, xu, xpt, xpa, xky, xtx, xds⟩ : Ov), u.oneCell' = true := cs_one (⟨xa, xs, xt, .slice ya yn yc, xk, xo, xn, xu, xpt, xpa, xky, xtx, xds⟩ : Ov) rfl; have hs5 := hb5.size) | (at_builtin; refine wpList_append_own _ rfl _ _ 33 rfl w.heap.size 29 i0 (.agg #[.int .i64 0, .int .i64 0, .int .i64 0, .slice none 0 0, .int .i64 0, .int .i64 0, .int .i64 0, .int .i64 0, .int .i64 0, .int .i64 0, .string ByteArray.empty, .string ByteArray.empty]) 12 128 Tryz.underlying33 hi hz0 hz1 hz2 rfl (by decide) _ M.length _ rfl (World.ownsRow.alloc ho5 _) ⟨w5.heap.size, 0, none⟩ 1 1 (Ov.cs (⟨xa, xs, xt, .slice ya yn yc, xk, xo, xn, xu, xpt, xpa, xky, xtx, xds⟩ : Ov)) rfl rfl hcn hone (by unfold maxLen; omega) (by omega) (by rw [World.size_alloc]; omega) ?_))
      intro v6 w6 ho6 hg6 _
      have hbN : Below w.heap.size w (w5.alloc (.cells #[.int .i64 xa, .int .i64 xs, .int .i64 xt, .slice ya yn yc, .int .i64 xk, .int .i64 xo, .int .i64 xn, .int .i64 xu, .int .i64 xpt, .int .i64 xpa, .string xky, .string xtx] 29)) := (hbel.trans (hb5.mono hsw)).alloc (by omega) _
      have hO6 : Own 3 (w5.alloc (.cells #[.int .i64 xa, .int .i64 xs, .int .i64 xt, .slice ya yn yc, .int .i64 xk, .int .i64 xo, .int .i64 xn, .int .i64 xu, .int .i64 xpt, .int .i64 xpa, .string xky, .string xtx] 29)) w.heap.size (.slice ya yn yc) (xds.map (Value.int .i64)) := Own.mono (World.ownsRow.alloc hO5 _) (by show w.heap.size ≤ wr.heap.size; omega)
      have hoA := World.ownsRow.alloc ho5 (.cells #[.int .i64 xa, .int .i64 xs, .int .i64 xt, .slice ya yn yc, .int .i64 xk, .int .i64 xo, .int .i64 xn, .int .i64 xu, .int .i64 xpt, .int .i64 xpa, .string xky, .string xtx] 29)
      have HI2 : Hid (∃ M : List Ov, SameL M (L.take (k + 1)) ∧ w6.ownsRow w.heap.size 29 12 v6 M.length (rowCs M) ∧ (∀ x ∈ M, Own 3 w6 w.heap.size x.dv (x.ds.map (Value.int .i64))) ∧ Below w.heap.size w w6 ∧ ∃ g cap, v6 = .slice (some ⟨g, 0, none⟩) M.length cap) := by
        refine ⟨M ++ [(⟨xa, xs, xt, .slice ya yn yc, xk, xo, xn, xu, xpt, xpa, xky, xtx, xds⟩ : Ov)], ?_, ?_, fun z hz => ?_, hbN.grown hg6 hbN.size hlt6, ?_⟩
        · rw [HE.out]
          exact sameL_snoc hSM ⟨rfl, rfl, rfl, rfl, rfl, rfl, rfl, rfl, rfl, rfl, rfl, rfl⟩
        · rw [rowCs_app, List.length_append]
          have e1 : rowCs [(⟨xa, xs, xt, .slice ya yn yc, xk, xo, xn, xu, xpt, xpa, xky, xtx, xds⟩ : Ov)] = Ov.cs (⟨xa, xs, xt, .slice ya yn yc, xk, xo, xn, xu, xpt, xpa, xky, xtx, xds⟩ : Ov) := by simp [rowCs]
          rw [e1]
          exact ho6
        · have hz' : Own 3 (w5.alloc (.cells #[.int .i64 xa, .int .i64 xs, .int .i64 xt, .slice ya yn yc, .int .i64 xk, .int .i64 xo, .int .i64 xn, .int .i64 xu, .int .i64 xpt, .int .i64 xpa, .string xky, .string xtx] 29)) w.heap.size z.dv (z.ds.map (Value.int .i64)) := by
            rcases List.mem_append.1 hz with hz | hz
            · exact World.ownsRow.alloc ((hod z hz).below hb5 (Nat.le_refl _)) _
            · simp only [List.mem_singleton] at hz
              subst hz
              exact hO6
          exact ownSame' hz' (fun q hq => hg6.block q (World.ownsRow.lt hz' q hq).2 (fun e => owns_ne hoA hz' q hq e.symm))
        · rw [List.length_append]
          exact owns_pos ho6 (Nat.succ_pos _)
      clear ho6 hg6 hoA hbN hcn HE ho ho5 hO5 hO6 hod
      go_wp2_with fail
      go_roundw
      case rel => exact ⟨k + 1, by omega, by go_num, HI2⟩
      case measure => simp [intOf]; omega
    · obtain rfl : k = L.length := by omega
      rw [List.take_length] at hSM
      clear HI
      go_wp2_with fail
      go_ret
      exact ⟨_, M, rfl, hSM, ho, hod, hbel, hshp⟩
end Go.Proofs.YtmmkmkaannlkhaaGreatDoor
