/- The code's recordsOf and ReadRecords: the operations of the records with which bytes begin. -/
import Derived.Deep.AppendLies
import Derived.Test.YtmmkmkaannlkhaaGreatDoorQRecordAt
import Derived.Test.YtmmkmkaannlkhaaGreatDoorQReadRecToAttemptRec
import Derived.Test.YtmmkmkaannlkhaaGreatDoorQErrIs
import Derived.Test.YtmmkmkaannlkhaaGreatDoorQRowKeepToCopyLog
import Derived.Test.YtmmkmkaannlkhaaGreatDoorQGrowOpsToAddFind
namespace Go.Proofs.YtmmkmkaannlkhaaGreatDoor
open Go.RowKit Go.Lib
set_option linter.unusedVariables false

/-- Operations in a row of the call's own, what each counts in a block of its own: gs, one behind the other. -/
structure Rs (w wr : World) (v : Value) (gs : List Nat) (L : List Ov) : Prop where
  row : wr.ownsRow w.heap.size 29 12 v L.length (rowCs L)
  len : gs.length = L.length
  dv : ∀ k, k < L.length → (ovAt L k).dv = .slice (some ⟨gs.getD k 0, 0, none⟩) 16 16 ∧ w.heap.size ≤ gs.getD k 0 ∧ gs.getD k 0 < wr.heap.size ∧ wr.rangeAt (gs.getD k 0) 0 ((ovAt L k).ds.map (Value.int .i64)) ∧ wr.there (gs.getD k 0) 0 16 ∧ (ovAt L k).ds.length = 16
  inc : ∀ i j, i < j → j < L.length → gs.getD i 0 < gs.getD j 0
  ne : ∀ k, k < L.length → v.ownBlock ≠ some (gs.getD k 0)
  below : Below w.heap.size w wr
theorem Rs.grow {w wr w2 : World} {v : Value} {gs : List Nat} {L : List Ov} (h : Rs w wr v gs L) (hb : Below wr.heap.size wr w2) : Rs w w2 v gs L := by
  refine ⟨owns_on h.row hb (Nat.le_refl _), h.len, fun k hk => ?_, h.inc, h.ne, below_seq h.below hb⟩
  obtain ⟨h1, h2, h3, h4, h5, h6⟩ := h.dv k hk
  have e := hb.block _ h3
  refine ⟨h1, h2, Nat.lt_of_lt_of_le h3 hb.size, fun j u hj => ?_, fun j hj => ?_, h6⟩
  · rw [World.cell?_of_block (w := wr) e]; exact h4 j u hj
  · exact there_block h5 e j hj
theorem opRangeR (w : World) (x : Ov) : (w.alloc (.cells #[.int .i64 x.a, .int .i64 x.s, .int .i64 x.t, x.dv, .int .i64 x.k, .int .i64 x.o, .int .i64 x.n, .int .i64 x.u, .int .i64 x.pt, .int .i64 x.pa, .string x.ky, .string x.tx] 29)).rangeAt w.heap.size 0 x.cs := fun j u hj => by
  have := opNew w x j u hj
  rwa [Addr.add_mid] at this
theorem Rs.nil (w : World) : Rs w w (.slice none 0 0) [] [] :=
  ⟨⟨by simp [rowCs], .inl ⟨rfl, rfl⟩⟩, rfl, fun k hk => absurd hk (by simp), fun i j _ hj => absurd hj (by simp), fun k hk => absurd hk (by simp), Below.refl _ _⟩
theorem ovAt_app (L : List Ov) (x : Ov) (k : Nat) : ovAt (L ++ [x]) k = if k < L.length then ovAt L k else if k = L.length then x else ovAt [] k := by
  unfold ovAt
  by_cases h : k < L.length
  · rw [if_pos h]; simp [List.getD_eq_getElem?_getD, List.getElem?_append_left h]
  · rw [if_neg h]
    by_cases h2 : k = L.length
    · rw [if_pos h2]; subst h2; simp [List.getD_eq_getElem?_getD]
    · rw [if_neg h2]
      have : (L ++ [x])[k]? = none := List.getElem?_eq_none (by simp; omega)
      simp [List.getD_eq_getElem?_getD, this]
theorem getD_appN (gs : List Nat) (ga k : Nat) (h : k ≤ gs.length) : (gs ++ [ga]).getD k 0 = if k < gs.length then gs.getD k 0 else ga := by
  by_cases h1 : k < gs.length
  · rw [if_pos h1]; simp [List.getD_eq_getElem?_getD, List.getElem?_append_left h1]
  · rw [if_neg h1]
    obtain rfl : k = gs.length := by omega
    simp [List.getD_eq_getElem?_getD]
/-- An operation more: what it counts lies behind all that there was. -/
theorem Rs.app {w w4 w5 : World} {v : Value} {gs : List Nat} {L : List Ov} {x : Ov} {ga g cap n : Nat} (h : Rs w w4 v gs L) (hn : n = L.length) (hx : x.dv = .slice (some ⟨ga, 0, none⟩) 16 16) (hga : ∀ k, k < L.length → gs.getD k 0 < ga) (hlo : w.heap.size ≤ ga) (hhi : ga < w4.heap.size) (hr : w4.rangeAt ga 0 (x.ds.map (Value.int .i64))) (ht : w4.there ga 0 16) (hl : x.ds.length = 16) (hne : v.ownBlock ≠ some ga)
    (ho : w5.ownsRow w.heap.size 29 12 (.slice (some ⟨g, 0, none⟩) (n + 1) cap) (n + 1) (rowCs L ++ x.cs)) (hg : w4.grownBy w5 v.ownBlock) (hw : v.ownBlock = some g ∨ g = w4.heap.size) : Rs w w5 (.slice (some ⟨g, 0, none⟩) (n + 1) cap) (gs ++ [ga]) (L ++ [x]) := by
  subst hn
  have hll : (L ++ [x]).length = L.length + 1 := by simp
  have hblk : ∀ q, q < w4.heap.size → v.ownBlock ≠ some q → w5.heap[q]? = w4.heap[q]? := fun q h1 h2 => hg.block q h1 (fun e => h2 e.symm)
  have keep : ∀ q (ds : List Int), q < w4.heap.size → v.ownBlock ≠ some q → w4.rangeAt q 0 (ds.map (Value.int .i64)) → w4.there q 0 16 → w5.rangeAt q 0 (ds.map (Value.int .i64)) ∧ w5.there q 0 16 := fun q ds h1 h2 h3 h4 =>
    ⟨fun j u hj => by rw [World.cell?_of_block (w := w4) (hblk q h1 h2)]; exact h3 j u hj, there_block h4 (hblk q h1 h2)⟩
  refine ⟨?_, by rw [List.length_append, h.len, hll]; rfl, fun k hk => ?_, fun i j hij hj => ?_, fun k hk => ?_, h.below.grown hg h.below.size (fun k hk => (World.ownsRow.lt h.row k hk).1)⟩
  · rw [hll, rowCs_app]
    have e1 : rowCs [x] = x.cs := by simp [rowCs]
    rw [e1]; exact ho
  · rw [hll] at hk
    rw [getD_appN gs ga k (by rw [h.len]; omega), ovAt_app, h.len]
    by_cases hk2 : k < L.length
    · rw [if_pos hk2, if_pos hk2]
      obtain ⟨d1, d2, d3, d4, d5, d6⟩ := h.dv k hk2
      have := keep _ _ d3 (h.ne k hk2) d4 d5
      exact ⟨d1, d2, Nat.lt_of_lt_of_le d3 hg.size, this.1, this.2, d6⟩
    · obtain rfl : k = L.length := by omega
      rw [if_neg hk2, if_neg hk2, if_pos rfl]
      have := keep ga _ hhi hne hr ht
      exact ⟨hx, hlo, Nat.lt_of_lt_of_le hhi hg.size, this.1, this.2, hl⟩
  · rw [hll] at hj
    rw [getD_appN gs ga i (by rw [h.len]; omega), getD_appN gs ga j (by rw [h.len]; omega), h.len, if_pos (by omega)]
    by_cases hj2 : j < L.length
    · rw [if_pos hj2]; exact h.inc i j hij hj2
    · rw [if_neg hj2]; exact hga i (by omega)
  · rw [hll] at hk
    rw [getD_appN gs ga k (by rw [h.len]; omega), h.len]
    intro e
    have e2 : g = if k < L.length then gs.getD k 0 else ga := by simpa [Value.ownBlock] using e
    by_cases hk2 : k < L.length
    · rw [if_pos hk2] at e2
      rcases hw with hw | hw
      · exact h.ne k hk2 (by rw [hw, e2])
      · have := (h.dv k hk2).2.2.1; omega
    · rw [if_neg hk2] at e2
      rcases hw with hw | hw
      · exact hne (by rw [hw, e2])
      · omega

set_option maxHeartbeats 8000000 in
set_option maxRecDepth 100000 in
theorem recordsOf_any (C : Nat) (w : World) (v : Value) (xs : List Int) (a : Addr) (hx : Bytes xs) (hl : xs.length ≤ 1048576) (hC : C ≤ w.heap.size) (hr : Rd C w v (xs.map (Value.int .u8))) (hw0 : 0 < w.heap.size) (hgl : w.cell? ⟨0, 0, none⟩ = some (.iface 151 (.pointer (some a)))) :
    Calls Tryz.prog 14 #[v] w fun e w' => ∃ ra rc gs L, e = .returned (.tuple #[.slice ra (List.length L) rc, .int .i64 ((recs xs 0).2 : Int)]) ∧ SameL L (recs xs 0).1 ∧ Rs w w' (.slice ra (List.length L) rc) gs L := by
  obtain ⟨i0, hi, hz0, hz1, hz2⟩ := info_parts infoOp
  have HR : Hid (∀ w', Below w.heap.size w w' → Rd C w' v (xs.map (Value.int .u8))) := fun w' hb => hr.belowW hb hC
  obtain ⟨va, vc, ev⟩ : ∃ va vc, v = .slice va xs.length vc := by obtain ⟨va, vc, e, _⟩ := hr; rw [List.length_map] at e; exact ⟨va, vc, e⟩
  subst ev
  clear hr
  go_enter Tryz.func14, Tryz.ntmps14
  go_wp2_with fail
  go_loopw [4, 5] (fun ts ti wr => ∃ (p : Nat) (gs : List Nat) (L A : List Ov), p ≤ xs.length ∧ ti = .int .i64 (p : Int) ∧ Hid (SameL L A) ∧ L.length ≤ p ∧ Hid (recs xs 0 = (A ++ (recs xs p).1, (recs xs p).2)) ∧ Rs w wr ts gs L) (fun _ ti _ => xs.length - (intOf ti).toNat)
  case atStart => exact ⟨0, [], [], [], by omega, rfl, ⟨rfl, fun k hk => absurd hk (by simp)⟩, by simp, rfl, Rs.nil w⟩
  case round =>
    obtain ⟨p, gs, L, A, hp, rfl, HS, hLp, HRC, HRs⟩ := hrel
    obtain ⟨ta, tc, et⟩ := owns_any HRs.row
    subst et
    have hb0 := HRs.below
    have hs0 := hb0.size
    have hgl2 : wr.cell? ⟨0, 0, none⟩ = some (.iface 151 (.pointer (some a))) := (hb0.cell (p := ⟨0, 0, none⟩) hw0).trans hgl
    by_cases hlt : p < xs.length
    · have q0 : (p : Int) < (xs.length : Int) := by omega
      have hat := recordAt_any C p wr _ xs a hx hl hp (Nat.le_trans hC hs0) (HR.out _ hb0) (by omega) hgl2
      unfold ratA at hat
      cases hrd : recRd xs p with
      | none =>
        rw [hrd] at hat
        simp only at hat
        rw [recs_none hrd] at HRC
        unfold Ov.cs ov0 at hat
        have hgl0 := hgl2
        clear hgl2
        go_wp2_with fail
        refine hat.mono ?_
        rintro e w2 ⟨⟨g, rfl, hg1, hg2⟩, hb2⟩
        clear hat
        have hgl3 : (w2.alloc (.cells #[.int .i64 0, .int .i64 0, .int .i64 0, .slice none 0 0, .int .i64 0, .int .i64 0, .int .i64 0, .int .i64 0, .int .i64 0, .int .i64 0, .string ByteArray.empty, .string ByteArray.empty] 29)).cell? ⟨0, 0, none⟩ = some (.iface 151 (.pointer (some a))) := cell_on (below_alloc _ _) ((hb2.cell (p := ⟨0, 0, none⟩) (by show 0 < _; omega)).trans hgl0)
        have hg3 : (w2.alloc (.cells #[.int .i64 0, .int .i64 0, .int .i64 0, .slice none 0 0, .int .i64 0, .int .i64 0, .int .i64 0, .int .i64 0, .int .i64 0, .int .i64 0, .string ByteArray.empty, .string ByteArray.empty] 29)).heap[g]? = some (.cells #[.int .i64 (p : Int), .iface 151 (.pointer (some a))] 97 (0, 0)) := ((below_alloc w2 (.cells #[.int .i64 0, .int .i64 0, .int .i64 0, .slice none 0 0, .int .i64 0, .int .i64 0, .int .i64 0, .int .i64 0, .int .i64 0, .int .i64 0, .string ByteArray.empty, .string ByteArray.empty] 29)).block g (Array.getElem?_eq_some_iff.1 hg2).1).trans hg2
        have HR2 := HRs.grow (below_then hb2 (.cells #[.int .i64 0, .int .i64 0, .int .i64 0, .slice none 0 0, .int .i64 0, .int .i64 0, .int .i64 0, .int .i64 0, .int .i64 0, .int .i64 0, .string ByteArray.empty, .string ByteArray.empty] 29))
        clear hgl0 hg2 HRs
        go_wp2_with fail
        refine (errIs_wrap g (p : Int) a _ hg3).mono ?_
        rintro e w3 ⟨rfl, rfl⟩
        go_wp2_with fail
        go_ret2
        exact ⟨ta, tc, gs, L, by rw [HRC.out]; rfl, by rw [HRC.out, List.append_nil]; exact HS.out, HR2⟩
      | some z =>
        obtain ⟨x, r⟩ := z
        rw [hrd] at hat
        simp only at hat
        have hst := recRd_step hx hrd
        have hop := (recRd_op hrd).2
        rw [recs_some hx hp hrd] at HRC
        obtain ⟨xa, xs', xt, xdv, xk, xo, xn, xu, xpt, xpa, xky, xtx, xds⟩ := x
        unfold Ov.cs at hat
        simp only at hat hop
        have HRL : Hid (r ≤ xs.length ∧ p < r) := ⟨hst.2, hst.1⟩
        have hgl0 := hgl2
        clear hgl2 hrd hst
        go_wp2_with fail
        refine hat.mono ?_
        rintro e w2 ⟨⟨ga, rfl, hg1, hg2, hrng, hth, hrl⟩, hb2⟩
        clear hat hrl
        have hgl3 : (w2.alloc (.cells #[.int .i64 xa, .int .i64 xs', .int .i64 xt, .slice (some ⟨ga, 0, none⟩) 16 16, .int .i64 xk, .int .i64 xo, .int .i64 xn, .int .i64 xu, .int .i64 xpt, .int .i64 xpa, .string xky, .string xtx] 29)).cell? ⟨0, 0, none⟩ = some (.iface 151 (.pointer (some a))) := cell_on (below_alloc _ _) ((hb2.cell (p := ⟨0, 0, none⟩) (by show 0 < _; omega)).trans hgl0)
        have hcn := opNew w2 (⟨xa, xs', xt, .slice (some ⟨ga, 0, none⟩) 16 16, xk, xo, xn, xu, xpt, xpa, xky, xtx, xds⟩ : Ov)
        have hb3 := below_then hb2 (.cells #[.int .i64 xa, .int .i64 xs', .int .i64 xt, .slice (some ⟨ga, 0, none⟩) 16 16, .int .i64 xk, .int .i64 xo, .int .i64 xn, .int .i64 xu, .int .i64 xpt, .int .i64 xpa, .string xky, .string xtx] 29)
        have HR3 := HRs.grow (below_then hb3 (.cells #[.int .i64 xa, .int .i64 xs', .int .i64 xt, .slice (some ⟨ga, 0, none⟩) 16 16, .int .i64 xk, .int .i64 xo, .int .i64 xn, .int .i64 xu, .int .i64 xpt, .int .i64 xpa, .string xky, .string xtx] 29))
        have hcn4 := opNew (w2.alloc (.cells #[.int .i64 xa, .int .i64 xs', .int .i64 xt, .slice (some ⟨ga, 0, none⟩) 16 16, .int .i64 xk, .int .i64 xo, .int .i64 xn, .int .i64 xu, .int .i64 xpt, .int .i64 xpa, .string xky, .string xtx] 29)) (⟨xa, xs', xt, .slice (some ⟨ga, 0, none⟩) 16 16, xk, xo, xn, xu, xpt, xpa, xky, xtx, xds⟩ : Ov)
        have hown : ∀ q, (Value.slice ta L.length tc).ownBlock = some q → q < wr.heap.size := fun q hq => (World.ownsRow.lt HRs.row q hq).2
        have hga : ∀ k, k < L.length → gs.getD k 0 < ga := fun k hk => Nat.lt_of_lt_of_le (HRs.dv k hk).2.2.1 hg1
        have hne : (Value.slice ta L.length tc).ownBlock ≠ some ga := fun e => by have := hown _ e; omega
        have hblk := fun (q : Nat) (hq : q < w2.heap.size) => ((below_alloc (w2.alloc (.cells #[.int .i64 xa, .int .i64 xs', .int .i64 xt, .slice (some ⟨ga, 0, none⟩) 16 16, .int .i64 xk, .int .i64 xo, .int .i64 xn, .int .i64 xu, .int .i64 xpt, .int .i64 xpa, .string xky, .string xtx] 29)) (.cells #[.int .i64 xa, .int .i64 xs', .int .i64 xt, .slice (some ⟨ga, 0, none⟩) 16 16, .int .i64 xk, .int .i64 xo, .int .i64 xn, .int .i64 xu, .int .i64 xpt, .int .i64 xpa, .string xky, .string xtx] 29)).block q (by rw [World.size_alloc]; omega)).trans ((below_alloc w2 (.cells #[.int .i64 xa, .int .i64 xs', .int .i64 xt, .slice (some ⟨ga, 0, none⟩) 16 16, .int .i64 xk, .int .i64 xo, .int .i64 xn, .int .i64 xu, .int .i64 xpt, .int .i64 xpa, .string xky, .string xtx] 29)).block q hq)
        have hrng4 : ((w2.alloc (.cells #[.int .i64 xa, .int .i64 xs', .int .i64 xt, .slice (some ⟨ga, 0, none⟩) 16 16, .int .i64 xk, .int .i64 xo, .int .i64 xn, .int .i64 xu, .int .i64 xpt, .int .i64 xpa, .string xky, .string xtx] 29)).alloc (.cells #[.int .i64 xa, .int .i64 xs', .int .i64 xt, .slice (some ⟨ga, 0, none⟩) 16 16, .int .i64 xk, .int .i64 xo, .int .i64 xn, .int .i64 xu, .int .i64 xpt, .int .i64 xpa, .string xky, .string xtx] 29)).rangeAt ga 0 (xds.map (Value.int .i64)) := fun j u hj => by rw [World.cell?_of_block (w := w2) (hblk ga hg2)]; exact hrng j u hj
        have hth4 : ((w2.alloc (.cells #[.int .i64 xa, .int .i64 xs', .int .i64 xt, .slice (some ⟨ga, 0, none⟩) 16 16, .int .i64 xk, .int .i64 xo, .int .i64 xn, .int .i64 xu, .int .i64 xpt, .int .i64 xpa, .string xky, .string xtx] 29)).alloc (.cells #[.int .i64 xa, .int .i64 xs', .int .i64 xt, .slice (some ⟨ga, 0, none⟩) 16 16, .int .i64 xk, .int .i64 xo, .int .i64 xn, .int .i64 xu, .int .i64 xpt, .int .i64 xpa, .string xky, .string xtx] 29)).there ga 0 16 := there_block hth (hblk ga hg2)
        have HN : Hid (∀ k, k < L.length → gs.getD k 0 < ga) := hga
        have HE : Hid ((Value.slice ta L.length tc).ownBlock ≠ some ga) := hne
        have HG : Hid (w.heap.size ≤ ga ∧ ga < ((w2.alloc (.cells #[.int .i64 xa, .int .i64 xs', .int .i64 xt, .slice (some ⟨ga, 0, none⟩) 16 16, .int .i64 xk, .int .i64 xo, .int .i64 xn, .int .i64 xu, .int .i64 xpt, .int .i64 xpa, .string xky, .string xtx] 29)).alloc (.cells #[.int .i64 xa, .int .i64 xs', .int .i64 xt, .slice (some ⟨ga, 0, none⟩) 16 16, .int .i64 xk, .int .i64 xo, .int .i64 xn, .int .i64 xu, .int .i64 xpt, .int .i64 xpa, .string xky, .string xtx] 29)).heap.size) := ⟨by omega, by simp only [World.size_alloc]; omega⟩
        have HRG : Hid (((w2.alloc (.cells #[.int .i64 xa, .int .i64 xs', .int .i64 xt, .slice (some ⟨ga, 0, none⟩) 16 16, .int .i64 xk, .int .i64 xo, .int .i64 xn, .int .i64 xu, .int .i64 xpt, .int .i64 xpa, .string xky, .string xtx] 29)).alloc (.cells #[.int .i64 xa, .int .i64 xs', .int .i64 xt, .slice (some ⟨ga, 0, none⟩) 16 16, .int .i64 xk, .int .i64 xo, .int .i64 xn, .int .i64 xu, .int .i64 xpt, .int .i64 xpa, .string xky, .string xtx] 29)).rangeAt ga 0 (xds.map (Value.int .i64))) := hrng4
        have HTH : Hid (((w2.alloc (.cells #[.int .i64 xa, .int .i64 xs', .int .i64 xt, .slice (some ⟨ga, 0, none⟩) 16 16, .int .i64 xk, .int .i64 xo, .int .i64 xn, .int .i64 xu, .int .i64 xpt, .int .i64 xpa, .string xky, .string xtx] 29)).alloc (.cells #[.int .i64 xa, .int .i64 xs', .int .i64 xt, .slice (some ⟨ga, 0, none⟩) 16 16, .int .i64 xk, .int .i64 xo, .int .i64 xn, .int .i64 xu, .int .i64 xpt, .int .i64 xpa, .string xky, .string xtx] 29)).there ga 0 16) := hth4
        have hsz : w.heap.size ≤ ((w2.alloc (.cells #[.int .i64 xa, .int .i64 xs', .int .i64 xt, .slice (some ⟨ga, 0, none⟩) 16 16, .int .i64 xk, .int .i64 xo, .int .i64 xn, .int .i64 xu, .int .i64 xpt, .int .i64 xpa, .string xky, .string xtx] 29)).alloc (.cells #[.int .i64 xa, .int .i64 xs', .int .i64 xt, .slice (some ⟨ga, 0, none⟩) 16 16, .int .i64 xk, .int .i64 xo, .int .i64 xn, .int .i64 xu, .int .i64 xpt, .int .i64 xpa, .string xky, .string xtx] 29)).heap.size := HR3.below.size
        have hcells := opRangeR w2 (⟨xa, xs', xt, .slice (some ⟨ga, 0, none⟩) 16 16, xk, xo, xn, xu, xpt, xpa, xky, xtx, xds⟩ : Ov)
        have hone : ∀ u ∈ Ov.cs (⟨xa, xs', xt, .slice (some ⟨ga, 0, none⟩) 16 16, xk, xo, xn, xu, xpt, xpa, xky, xtx, xds⟩ : Ov), u.oneCell' = true := cs_one (⟨xa, xs', xt, .slice (some ⟨ga, 0, none⟩) 16 16, xk, xo, xn, xu, xpt, xpa, xky, xtx, xds⟩ : Ov) rfl
        have HI := infoOpB (⟨xa, xs', xt, .slice (some ⟨ga, 0, none⟩) 16 16, xk, xo, xn, xu, xpt, xpa, xky, xtx, xds⟩ : Ov)
        have HLL : Hid (L.length ≤ 1048576) := by unfold Hid; omega
        clear hgl0 HRs hb2 hb3 hown hga hne hblk hrng hth hrng4 hth4 hg1 hg2
        go_wp2_with fail
        refine (errIs_nil a _).mono ?_
        rintro e w3 ⟨rfl, rfl⟩
        unfold Ov.cs at hcells hone HI hcn4
        go_wp2_with (first | (refine wpList_load_mid rfl 29 _ rfl w2.heap.size 0 rfl [.int .i64 xa, .int .i64 xs', .int .i64 xt, .slice (some ⟨ga, 0, none⟩) 16 16, .int .i64 xk, .int .i64 xo, .int .i64 xn, .int .i64 xu, .int .i64 xpt, .int .i64 xpa, .string xky, .string xtx] _ hcells Tryz.underlying29 rfl HI ?_) | (at_builtin; refine wpList_append_lies _ rfl _ _ 33 rfl w.heap.size 29 i0 (.agg #[.int .i64 0, .int .i64 0, .int .i64 0, .slice none 0 0, .int .i64 0, .int .i64 0, .int .i64 0, .int .i64 0, .int .i64 0, .int .i64 0, .string ByteArray.empty, .string ByteArray.empty]) 12 128 Tryz.underlying33 hi hz0 hz1 hz2 rfl (by decide) _ L.length _ rfl HR3.row ⟨w2.heap.size + 1, 0, none⟩ 1 1 [.int .i64 xa, .int .i64 xs', .int .i64 xt, .slice (some ⟨ga, 0, none⟩) 16 16, .int .i64 xk, .int .i64 xo, .int .i64 xn, .int .i64 xu, .int .i64 xpt, .int .i64 xpa, .string xky, .string xtx] rfl rfl (by rw [World.size_alloc] at hcn4; exact hcn4) hone (by omega) (by have := HLL.out; unfold maxLen; omega) (by have := HLL.out; omega) hsz _ rfl ?_))
        intro g cap w5 ho5 hg5 hw5 hl5
        have HR5 := Rs.app (x := (⟨xa, xs', xt, .slice (some ⟨ga, 0, none⟩) 16 16, xk, xo, xn, xu, xpt, xpa, xky, xtx, xds⟩ : Ov)) HR3 rfl rfl HN.out HG.out.1 HG.out.2 HRG.out HTH.out hop HE.out ho5 hg5 (hw5.imp id (fun h => h.trans (by simp only [World.size_alloc])))
        have HS5 : Hid (SameL (L ++ [(⟨xa, xs', xt, .slice (some ⟨ga, 0, none⟩) 16 16, xk, xo, xn, xu, xpt, xpa, xky, xtx, xds⟩ : Ov)]) (A ++ [(⟨xa, xs', xt, xdv, xk, xo, xn, xu, xpt, xpa, xky, xtx, xds⟩ : Ov)])) := sameL_snoc HS.out ⟨rfl, rfl, rfl, rfl, rfl, rfl, rfl, rfl, rfl, rfl, rfl, rfl⟩
        have HR6 : Hid (recs xs 0 = (A ++ [(⟨xa, xs', xt, xdv, xk, xo, xn, xu, xpt, xpa, xky, xtx, xds⟩ : Ov)] ++ (recs xs r).1, (recs xs r).2)) := by unfold Hid; rw [HRC.out]; simp
        have hL5 : (L ++ [(⟨xa, xs', xt, .slice (some ⟨ga, 0, none⟩) 16 16, xk, xo, xn, xu, xpt, xpa, xky, xtx, xds⟩ : Ov)]).length = L.length + 1 := by simp
        rw [← hL5] at HR5
        have HL5 : Hid _ := hL5
        clear ho5 hg5 hw5 hl5 HRC HS HN HE HG HRG HTH HR3 hcells hone HI hcn4 hcn hsz hL5
        generalize L ++ [(⟨xa, xs', xt, .slice (some ⟨ga, 0, none⟩) 16 16, xk, xo, xn, xu, xpt, xpa, xky, xtx, xds⟩ : Ov)] = L5 at *
        generalize A ++ [(⟨xa, xs', xt, xdv, xk, xo, xn, xu, xpt, xpa, xky, xtx, xds⟩ : Ov)] = A5 at *
        go_wp2_with fail
        go_roundw
        case rel => exact ⟨r, gs ++ [ga], L5, A5, HRL.out.1, rfl, HS5, by have := HL5.out; have := HRL.out; omega, HR6, (by have h := HR5; rw [HL5.out] at h; exact h)⟩
        case measure => have := HRL.out; simp [intOf]; omega
    · have q0 : ¬ (p : Int) < (xs.length : Int) := by omega
      obtain rfl : p = xs.length := by omega
      rw [recs_none (recRd_end hx)] at HRC
      go_wp2_with fail
      go_ret2
      exact ⟨ta, tc, gs, L, by rw [HRC.out]; rfl, by rw [HRC.out, List.append_nil]; exact HS.out, HRs⟩

set_option maxHeartbeats 2000000 in
set_option maxRecDepth 100000 in
theorem implReadRecords_any (C : Nat) (w : World) (v : Value) (xs : List Int) (a : Addr) (hx : Bytes xs) (hl : xs.length ≤ 1048576) (hC : C ≤ w.heap.size) (hr : Rd C w v (xs.map (Value.int .u8))) (hw0 : 0 < w.heap.size) (hgl : w.cell? ⟨0, 0, none⟩ = some (.iface 151 (.pointer (some a)))) :
    Calls Tryz.prog 7 #[v] w fun e w' => ∃ ra rc gs L, e = .returned (.tuple #[.slice ra (List.length L) rc, .int .i64 ((recs xs 0).2 : Int), .int .i64 0]) ∧ SameL L (recs xs 0).1 ∧ Rs w w' (.slice ra (List.length L) rc) gs L := by
  have hrc := recordsOf_any C w v xs a hx hl hC hr hw0 hgl
  obtain ⟨va, vc, ev⟩ : ∃ va vc, v = .slice va xs.length vc := by obtain ⟨va, vc, e, _⟩ := hr; rw [List.length_map] at e; exact ⟨va, vc, e⟩
  subst ev
  have q0 : ¬ (1048576 : Int) < (xs.length : Int) := by omega
  have HR2 : Hid ((recs xs 0).2 = (recs xs 0).2) := rfl
  generalize recs xs 0 = rr at *
  obtain ⟨A, q⟩ := rr
  clear hr hgl HR2
  go_enter Tryz.func7, Tryz.ntmps7
  go_wp2_with fail
  refine hrc.mono ?_
  rintro e w1 ⟨ra, rc, gs, L, rfl, HS, HR⟩
  clear hrc
  have HS2 : Hid (SameL L A) := HS
  clear HS
  go_wp2_with fail
  go_ret3
  exact ⟨ra, rc, gs, L, rfl, HS2.out, HR⟩
end Go.Proofs.YtmmkmkaannlkhaaGreatDoor
