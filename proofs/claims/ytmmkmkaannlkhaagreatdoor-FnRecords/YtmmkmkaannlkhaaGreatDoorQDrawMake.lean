/- The specification's l08Make: an operation that counts all of a log, behind all of it. -/
import Derived.Deep.Cut
import Derived.Test.YtmmkmkaannlkhaaGreatDoorQLedgerToLogFind
import Derived.Test.YtmmkmkaannlkhaaGreatDoorQOpNumsToRdCut
import Derived.Test.YtmmkmkaannlkhaaGreatDoorQThereKit
import Derived.Test.YtmmkmkaannlkhaaGreatDoorQTakeKitToBigKit
import Derived.Test.YtmmkmkaannlkhaaGreatDoorQOpToToLogSame
namespace Go.Proofs.YtmmkmkaannlkhaaGreatDoor
open Go.RowKit
set_option linter.unusedVariables false

theorem OpBlk.put {W : World} {B : Nat} {x y : Ov} (h : OpBlk W B x) (j : Nat) (u : Value) (e : x.cs.toArray.setIfInBounds j u = y.cs.toArray) : OpBlk (W.setCell ⟨B, j, none⟩ u) B y := by
  unfold OpBlk at h ⊢
  rw [heap_setCell_same W B j _ _ u h, e]
theorem OpBlk.at {W : World} {B : Nat} {x : Ov} (h : OpBlk W B x) (j : Nat) {u : Value} (hj : x.cs[j]? = some u) : W.cell? ⟨B, j, none⟩ = some u := by
  have := opBlk_range h j u hj
  rwa [Nat.zero_add] at this
theorem OpBlk.free {W : World} {B : Nat} {x : Ov} (h : OpBlk W B x) (j : Nat) : W.frozen? ⟨B, j, none⟩ = false := blk_free h j
theorem OpBlk.lo {W : World} {B : Nat} {x : Ov} (h : OpBlk W B x) : B < W.heap.size := (Array.getElem?_eq_some_iff.1 h).1

theorem below_cellsC {B : Nat} {a : World} {b : Nat} (hb : B ≤ b) : ∀ (vs : List Value) (o : Nat) (w : World), Below B a w → Below B a (w.setCells b o vs)
  | [], _, _, h => h
  | v :: vs, o, w, h => below_cellsC hb vs (o + 1) _ (h.setCell (p := ⟨b, o, none⟩) hb v)
theorem there_blk {w : World} {g n : Nat} {cs : Array Value} {T : TypeId} (h : w.heap[g]? = some (.cells cs T (0, 0))) (hn : n ≤ cs.size) : w.there g 0 n := fun j hj => by
  rw [Nat.zero_add]
  refine ⟨?_, blk_free h j⟩
  rw [blk_cell h j (v := cs[j]'(by omega)) (by simp)]
  rfl

/-- What l08Make holds on its way: the operation x in block B, its result's block, the counts. -/
structure Mk (w wr : World) (vb gc n a : Nat) (x : Ov) (L : List Ov) : Prop where
  op : OpBlk wr w.heap.size x
  res : wr.heap[w.heap.size + 1]? = some (.cells #[.int .i64 0, .int .i64 0, .int .i64 0, .slice none 0 0, .int .i64 0, .int .i64 0, .int .i64 0, .int .i64 0, .int .i64 0, .int .i64 0, .string ByteArray.empty, .string ByteArray.empty] 29 (0, 0))
  vec : wr.heap[vb]? = some (.cells #[.slice (some ⟨gc, 0, none⟩) 16 16] 25 (0, 0))
  own : Own 3 wr (w.heap.size + 2) (.slice (some ⟨gc, 0, none⟩) 16 16) ((cnts L).map (Value.int .i64))
  low : w.heap.size + 2 ≤ gc ∧ w.heap.size + 2 ≤ vb
  bel : Below w.heap.size w wr
theorem Mk.put {w wr : World} {vb gc n a : Nat} {x y : Ov} {L : List Ov} (h : Mk w wr vb gc n a x L) (j : Nat) (u : Value) (e : x.cs.toArray.setIfInBounds j u = y.cs.toArray) : Mk w (wr.setCell ⟨w.heap.size, j, none⟩ u) vb gc n a y L :=
  ⟨h.op.put j u e, (heap_setCell_other wr ⟨w.heap.size, j, none⟩ (w.heap.size + 1) _ (by show w.heap.size + 1 ≠ w.heap.size; omega)).trans h.res, (heap_setCell_other wr ⟨w.heap.size, j, none⟩ vb _ (by have := h.low.2; show vb ≠ w.heap.size; omega)).trans h.vec, h.own.apart (grownBy_set wr w.heap.size j u) (fun k hk => by cases hk; omega), h.low, h.bel.setCell (p := ⟨w.heap.size, j, none⟩) (Nat.le_refl _) _⟩
theorem Mk.drew {w wr : World} {vb gc n a : Nat} {x : Ov} {L : List Ov} (h : Mk w wr vb gc n a x L) : Mk w wr.drew vb gc n a x L := ⟨h.op, h.res, h.vec, h.own, h.low, h.bel.drew⟩

set_option maxHeartbeats 4000000 in
set_option maxRecDepth 100000 in
theorem l08Make_any (C : Nat) (w : World) (v : Value) (L : List Ov) (a T : Nat) (xk xo xn xu xpt xpa : Int) (xky xtx : ByteArray) (ha : a < 16) (hT : T ≤ 1000000000000) (hC : C ≤ w.heap.size) (hr : RdO C w v L) (hl : L.length ≤ 1048576) (hA : ∀ x ∈ L, 0 ≤ x.a ∧ x.a < 16) (ht : ∀ x ∈ L, 0 ≤ x.t ∧ x.t ≤ (T : Int)) :
    Calls Tryz.prog 73 #[v, .int .i64 (a : Int), .agg #[.int .i64 0, .int .i64 0, .int .i64 0, .slice none 0 0, .int .i64 xk, .int .i64 xo, .int .i64 xn, .int .i64 xu, .int .i64 xpt, .int .i64 xpa, .string xky, .string xtx]] w fun e w' => ∃ (gc : Nat) (t : Int), e = .returned (.agg (Ov.cs ⟨(a : Int), ((byA L a).length : Int) + 1, t, .slice (some ⟨gc, 0, none⟩) 16 16, xk, xo, xn, xu, xpt, xpa, xky, xtx, cnts L⟩).toArray) ∧ 1 ≤ t ∧ t ≤ (T : Int) + 1 ∧ (∀ x ∈ L, x.t < t) ∧ Own 3 w' w.heap.size (.slice (some ⟨gc, 0, none⟩) 16 16) ((cnts L).map (Value.int .i64)) ∧ Below w.heap.size w w' := by
  have hb0 : Below w.heap.size w ((w.alloc (.cells #[.int .i64 0, .int .i64 0, .int .i64 0, .slice none 0 0, .int .i64 xk, .int .i64 xo, .int .i64 xn, .int .i64 xu, .int .i64 xpt, .int .i64 xpa, .string xky, .string xtx] 29)).alloc (.cells #[.int .i64 0, .int .i64 0, .int .i64 0, .slice none 0 0, .int .i64 0, .int .i64 0, .int .i64 0, .int .i64 0, .int .i64 0, .int .i64 0, .string ByteArray.empty, .string ByteArray.empty] 29)) := below_then (below_alloc _ _) _
  have hcn := l08Counts_wide C ((w.alloc (.cells #[.int .i64 0, .int .i64 0, .int .i64 0, .slice none 0 0, .int .i64 xk, .int .i64 xo, .int .i64 xn, .int .i64 xu, .int .i64 xpt, .int .i64 xpa, .string xky, .string xtx] 29)).alloc (.cells #[.int .i64 0, .int .i64 0, .int .i64 0, .slice none 0 0, .int .i64 0, .int .i64 0, .int .i64 0, .int .i64 0, .int .i64 0, .int .i64 0, .string ByteArray.empty, .string ByteArray.empty] 29)) v L (by have := hb0.size; omega) (hr.below (hb0.mono hC)) hl hA
  rw [World.size_alloc, World.size_alloc] at hcn
  obtain ⟨n, HN⟩ : ∃ n, Hid ((byA L a).length = n) := ⟨_, rfl⟩
  have hn1 : n ≤ 1048576 := by rw [← HN.out]; exact Nat.le_trans (List.length_filter_le _ _) hl
  have HM0 : Hid (∀ (w3 : World) (gc : Nat), Own 3 w3 (w.heap.size + 1 + 1) (.slice (some ⟨gc, 0, none⟩) 16 16) ((cnts L).map (Value.int .i64)) → Below (w.heap.size + 1 + 1) ((w.alloc (.cells #[.int .i64 0, .int .i64 0, .int .i64 0, .slice none 0 0, .int .i64 xk, .int .i64 xo, .int .i64 xn, .int .i64 xu, .int .i64 xpt, .int .i64 xpa, .string xky, .string xtx] 29)).alloc (.cells #[.int .i64 0, .int .i64 0, .int .i64 0, .slice none 0 0, .int .i64 0, .int .i64 0, .int .i64 0, .int .i64 0, .int .i64 0, .int .i64 0, .string ByteArray.empty, .string ByteArray.empty] 29)) w3 → Mk w (w3.alloc (.cells #[.slice (some ⟨gc, 0, none⟩) 16 16] 25)) w3.heap.size gc n a ⟨0, 0, 0, .slice none 0 0, xk, xo, xn, xu, xpt, xpa, xky, xtx, cnts L⟩ L) := fun w3 gc ho hb => by
    have hs := hb.size
    have h1 : w3.heap[w.heap.size]? = _ := (hb.block w.heap.size (by omega)).trans ((Below.heap_alloc _ _ _ (by rw [World.size_alloc]; omega)).trans (heap_alloc_new w (.cells #[.int .i64 0, .int .i64 0, .int .i64 0, .slice none 0 0, .int .i64 xk, .int .i64 xo, .int .i64 xn, .int .i64 xu, .int .i64 xpt, .int .i64 xpa, .string xky, .string xtx] 29)))
    have h2 := heap_alloc_new (w.alloc (.cells #[.int .i64 0, .int .i64 0, .int .i64 0, .slice none 0 0, .int .i64 xk, .int .i64 xo, .int .i64 xn, .int .i64 xu, .int .i64 xpt, .int .i64 xpa, .string xky, .string xtx] 29)) (.cells #[.int .i64 0, .int .i64 0, .int .i64 0, .slice none 0 0, .int .i64 0, .int .i64 0, .int .i64 0, .int .i64 0, .int .i64 0, .int .i64 0, .string ByteArray.empty, .string ByteArray.empty] 29)
    rw [World.size_alloc] at h2
    have hgc := World.ownsRow.lt ho gc rfl
    exact ⟨(Below.heap_alloc w3 _ _ (by omega)).trans h1, (Below.heap_alloc w3 _ _ (by omega)).trans ((hb.block (w.heap.size + 1) (by omega)).trans h2), heap_alloc_new w3 _, World.ownsRow.alloc ho _, ⟨by omega, by omega⟩, below_then (hb0.trans (hb.mono (by omega))) _⟩
  have HRL : Hid (RdO C w v L) := hr
  have HTT : Hid (∀ x ∈ L, 0 ≤ x.t ∧ x.t ≤ (T : Int)) := ht
  obtain ⟨⟨ao, cap, rfl, hcap, hmax, hnil, hrow⟩, -⟩ := hr
  clear ht hA hb0
  go_enter Tryz.func73, Tryz.ntmps73
  go_upto_region 2 with (first | (go_at_call 70; refine hcn.mono ?_; rintro e w3 ⟨gc, rfl, hoc, hb3⟩; have HM := HM0.out w3 gc hoc hb3; clear hoc hb3))
  clear hcn HM0
  generalize w3.alloc (.cells #[.slice (some ⟨gc, 0, none⟩) 16 16] 25) = w4 at *
  generalize w3.heap.size = vb at *
  have c0 := HM.op.at 0 rfl
  have f0 := HM.op.free 0
  replace HM := HM.put (y := ⟨(a : Int), 0, 0, .slice none 0 0, xk, xo, xn, xu, xpt, xpa, xky, xtx, cnts L⟩) 0 (.int .i64 (a : Int)) rfl
  go_upto_region 3 with fail
  clear c0 f0
  generalize w4.setCell ⟨w.heap.size, 0, none⟩ (.int .i64 (a : Int)) = w5 at *
  have c1 := HM.op.at 1 rfl
  have f1 := HM.op.free 1
  have cv := blk_cell HM.vec 0 rfl
  have cn : w5.cell? ⟨gc, a, none⟩ = some (.int .i64 (n : Int)) := own_at HM.own (by rw [List.getElem?_map, cnts_at L ha, HN.out]; rfl)
  have hai : (a : Int) < 16 := by omega
  replace HM := HM.put (y := ⟨(a : Int), (n : Int) + 1, 0, .slice none 0 0, xk, xo, xn, xu, xpt, xpa, xky, xtx, cnts L⟩) 1 (.int .i64 ((n : Int) + 1)) rfl
  have hnw : IntKind.i64.wrap ((n : Int) + 1) = (n : Int) + 1 := by rw [IntKind.wrap_i64]; omega
  go_upto_region 4 with fail
  clear c1 f1 cv cn
  generalize w5.setCell ⟨w.heap.size, 1, none⟩ (.int .i64 ((n : Int) + 1)) = w6 at *
  have c3 := HM.op.at 3 rfl
  have f3 := HM.op.free 3
  have cv := blk_cell HM.vec 0 rfl
  replace HM := HM.put (y := ⟨(a : Int), (n : Int) + 1, 0, .slice (some ⟨gc, 0, none⟩) 16 16, xk, xo, xn, xu, xpt, xpa, xky, xtx, cnts L⟩) 3 (.slice (some ⟨gc, 0, none⟩) 16 16) rfl
  go_upto_region 5 with fail
  clear c3 f3 cv hai hnw
  generalize w6.setCell ⟨w.heap.size, 3, none⟩ (.slice (some ⟨gc, 0, none⟩) 16 16) = w7 at *
  have HT0 : Hid (∃ t9 : Int, 0 ≤ t9 ∧ t9 ≤ (T : Int) ∧ (∀ q, q < 0 → (ovAt L q).t ≤ t9) ∧ Mk w w7 vb gc n a ⟨(a : Int), (n : Int) + 1, t9, .slice (some ⟨gc, 0, none⟩) 16 16, xk, xo, xn, xu, xpt, xpa, xky, xtx, cnts L⟩ L) := ⟨0, by omega, by omega, fun q hq => absurd hq (by omega), HM⟩
  clear HM
  go_wp2_with fail
  go_loopw [8] (fun ti wr => ∃ k : Nat, k ≤ L.length ∧ ti = .int .i64 (k : Int) ∧ Hid (∃ t9 : Int, 0 ≤ t9 ∧ t9 ≤ (T : Int) ∧ (∀ q, q < k → (ovAt L q).t ≤ t9) ∧ Mk w wr vb gc n a ⟨(a : Int), (n : Int) + 1, t9, .slice (some ⟨gc, 0, none⟩) 16 16, xk, xo, xn, xu, xpt, xpa, xky, xtx, cnts L⟩ L)) (fun ti _ => L.length - (intOf ti).toNat)
  case atStart => exact ⟨0, Nat.zero_le _, rfl, HT0⟩
  case round =>
    clear HT0
    obtain ⟨k, hk, rfl, HI⟩ := hrel
    obtain ⟨t, ht0, htT, hge, HM⟩ := HI.out
    by_cases hlt : k < L.length
    · have hki : (k : Int) < (L.length : Int) := by omega
      obtain ⟨g, off, rfl, hg, hcs⟩ := hrow (by omega)
      have hxd : wr.drew.cell? ⟨g, off + k * 12 + 2, none⟩ = some (.int .i64 (ovAt L k).t) := ((hcs k hlt).below (HM.bel.mono hC) hg).c2
      have hxt := HTT.out _ (ovAt_mem hlt)
      have hgw : g < w.heap.size := by omega
      have hc2 : wr.drew.cell? ⟨w.heap.size, 2, none⟩ = some (.int .i64 t) := HM.op.at 2 rfl
      have hf2 : wr.drew.frozen? ⟨w.heap.size, 2, none⟩ = false := HM.op.free 2
      clear hcs
      obtain ⟨y, HYT⟩ : ∃ y, Hid ((ovAt L k).t = y) := ⟨_, rfl⟩
      rw [HYT.out] at hxd hxt
      by_cases hty : t < y
      · have HI2 : Hid (∃ t9 : Int, 0 ≤ t9 ∧ t9 ≤ (T : Int) ∧ (∀ q, q < k + 1 → (ovAt L q).t ≤ t9) ∧ Mk w (wr.setCell ⟨w.heap.size, 2, none⟩ (.int .i64 y)).drew vb gc n a ⟨(a : Int), (n : Int) + 1, t9, .slice (some ⟨gc, 0, none⟩) 16 16, xk, xo, xn, xu, xpt, xpa, xky, xtx, cnts L⟩ L) := ⟨y, by omega, by omega, fun q hq => (Nat.lt_succ_iff_lt_or_eq.1 hq).elim (fun h => Int.le_trans (hge q h) (by omega)) (fun h => by rw [h, HYT.out]; omega), (HM.put (y := ⟨(a : Int), (n : Int) + 1, y, .slice (some ⟨gc, 0, none⟩) 16 16, xk, xo, xn, xu, xpt, xpa, xky, xtx, cnts L⟩) 2 (.int .i64 y) rfl).drew⟩
        have hx9 : (wr.setCell ⟨w.heap.size, 2, none⟩ (.int .i64 y)).drew.cell? ⟨g, off + k * 12 + 2, none⟩ = some (.int .i64 y) := (World.cell?_of_block (w := wr) (heap_setCell_other wr ⟨w.heap.size, 2, none⟩ g _ (by show g ≠ w.heap.size; omega))).trans hxd
        clear HI HM hge HYT
        go_wp2_with fail
        refine wp_region_held_drew (S := fun w' => w'.cell? ⟨g, off + k * 12 + 2, none⟩ = some (.int .i64 y)) (by kernel_rfl) hxd (fun hHeld => ?_)
        refine tkH 0 (.pointer (some ⟨w.heap.size, 2, none⟩)) rfl (Or.inl ⟨by kernel_rfl, by intro w hSw; have s0 := hSw; go_simp⟩) hHeld ?_
        simp only [tkS, Act.put]
        refine tkH 2 (.slice (some ⟨g, off, none⟩) L.length cap) rfl (Or.inl ⟨by kernel_rfl, by intro w hSw; have s0 := hSw; go_simp⟩) hHeld ?_
        simp only [tkS, Act.put]
        refine tkH 3 (.int .i64 ((k : Int))) rfl (Or.inl ⟨by kernel_rfl, by intro w hSw; have s0 := hSw; go_simp⟩) hHeld ?_
        simp only [tkS, Act.put]
        refine tkH 4 (.pointer (some ⟨g, off + k * 12, none⟩)) rfl (Or.inl ⟨by kernel_rfl, by intro w hSw; have s0 := hSw; go_simp⟩) hHeld ?_
        simp only [tkS, Act.put]
        refine tkH 5 (.pointer (some ⟨g, off + k * 12 + 2, none⟩)) rfl (Or.inl ⟨by kernel_rfl, by intro w hSw; have s0 := hSw; go_simp⟩) hHeld ?_
        simp only [tkS, Act.put]
        refine tkH 6 (.int .i64 y) rfl (Or.inl ⟨by kernel_rfl, by intro w hSw; have s0 := hSw; go_simp⟩) hHeld ?_
        simp only [tkS, Act.put]
        refine wpAnyH_ready (rs := [1]) (by kernel_rfl) (by simp) ?_
        refine AllReadyH.cons rfl (fun K hK => ?_) AllReadyH.nil
        have c8 := hc2
        have c8b : wr.cell? ⟨w.heap.size, 2, none⟩ = some (.int .i64 t) := hc2
        go_simp
        refine hK.out _ _ hxd (fun hHeld => ?_)
        clear hK K
        refine tkH 7 (.int .i64 y) rfl (Or.inl ⟨by kernel_rfl, by intro w hSw; have s0 := hSw; go_simp⟩) hHeld ?_
        simp only [tkS, Act.put]
        refine tkH 8 (.pointer (some ⟨w.heap.size, 2, none⟩)) rfl (Or.inl ⟨by kernel_rfl, by intro w hSw; have s0 := hSw; go_simp⟩) hHeld ?_
        simp only [tkS, Act.put]
        refine wpAnyH_ready (rs := [9]) (by kernel_rfl) (by simp) ?_
        refine AllReadyH.cons rfl (fun K hK => ?_) AllReadyH.nil
        have c11 := hc2
        have c11b : wr.cell? ⟨w.heap.size, 2, none⟩ = some (.int .i64 t) := hc2
        have f11 := hf2
        have f11b : wr.frozen? ⟨w.heap.size, 2, none⟩ = false := hf2
        go_simp
        refine hK.out _ _ hx9 (fun hHeld => ?_)
        clear hK K
        refine wpAnyH_done (by kernel_rfl) ?_ _
        go_wp2_with fail
        go_roundw
        case rel => exact ⟨k + 1, by omega, by go_num, HI2⟩
        case measure => simp [intOf]; omega
      · have HI2 : Hid (∃ t9 : Int, 0 ≤ t9 ∧ t9 ≤ (T : Int) ∧ (∀ q, q < k + 1 → (ovAt L q).t ≤ t9) ∧ Mk w (wr.setCell ⟨w.heap.size, 2, none⟩ (.int .i64 t)).drew vb gc n a ⟨(a : Int), (n : Int) + 1, t9, .slice (some ⟨gc, 0, none⟩) 16 16, xk, xo, xn, xu, xpt, xpa, xky, xtx, cnts L⟩ L) := ⟨t, by omega, by omega, fun q hq => (Nat.lt_succ_iff_lt_or_eq.1 hq).elim (fun h => Int.le_trans (hge q h) (by omega)) (fun h => by rw [h, HYT.out]; omega), (HM.put (y := ⟨(a : Int), (n : Int) + 1, t, .slice (some ⟨gc, 0, none⟩) 16 16, xk, xo, xn, xu, xpt, xpa, xky, xtx, cnts L⟩) 2 (.int .i64 t) rfl).drew⟩
        have hx9 : (wr.setCell ⟨w.heap.size, 2, none⟩ (.int .i64 t)).drew.cell? ⟨g, off + k * 12 + 2, none⟩ = some (.int .i64 y) := (World.cell?_of_block (w := wr) (heap_setCell_other wr ⟨w.heap.size, 2, none⟩ g _ (by show g ≠ w.heap.size; omega))).trans hxd
        clear HI HM hge HYT
        go_wp2_with fail
        refine wp_region_held_drew (S := fun w' => w'.cell? ⟨g, off + k * 12 + 2, none⟩ = some (.int .i64 y)) (by kernel_rfl) hxd (fun hHeld => ?_)
        refine tkH 0 (.pointer (some ⟨w.heap.size, 2, none⟩)) rfl (Or.inl ⟨by kernel_rfl, by intro w hSw; have s0 := hSw; go_simp⟩) hHeld ?_
        simp only [tkS, Act.put]
        refine tkH 2 (.slice (some ⟨g, off, none⟩) L.length cap) rfl (Or.inl ⟨by kernel_rfl, by intro w hSw; have s0 := hSw; go_simp⟩) hHeld ?_
        simp only [tkS, Act.put]
        refine tkH 3 (.int .i64 ((k : Int))) rfl (Or.inl ⟨by kernel_rfl, by intro w hSw; have s0 := hSw; go_simp⟩) hHeld ?_
        simp only [tkS, Act.put]
        refine tkH 4 (.pointer (some ⟨g, off + k * 12, none⟩)) rfl (Or.inl ⟨by kernel_rfl, by intro w hSw; have s0 := hSw; go_simp⟩) hHeld ?_
        simp only [tkS, Act.put]
        refine tkH 5 (.pointer (some ⟨g, off + k * 12 + 2, none⟩)) rfl (Or.inl ⟨by kernel_rfl, by intro w hSw; have s0 := hSw; go_simp⟩) hHeld ?_
        simp only [tkS, Act.put]
        refine tkH 6 (.int .i64 y) rfl (Or.inl ⟨by kernel_rfl, by intro w hSw; have s0 := hSw; go_simp⟩) hHeld ?_
        simp only [tkS, Act.put]
        refine wpAnyH_ready (rs := [1]) (by kernel_rfl) (by simp) ?_
        refine AllReadyH.cons rfl (fun K hK => ?_) AllReadyH.nil
        have c8 := hc2
        have c8b : wr.cell? ⟨w.heap.size, 2, none⟩ = some (.int .i64 t) := hc2
        go_simp
        refine hK.out _ _ hxd (fun hHeld => ?_)
        clear hK K
        refine tkH 7 (.int .i64 t) rfl (Or.inl ⟨by kernel_rfl, by intro w hSw; have s0 := hSw; go_simp; intro h9; omega⟩) hHeld ?_
        simp only [tkS, Act.put]
        refine tkH 8 (.pointer (some ⟨w.heap.size, 2, none⟩)) rfl (Or.inl ⟨by kernel_rfl, by intro w hSw; have s0 := hSw; go_simp⟩) hHeld ?_
        simp only [tkS, Act.put]
        refine wpAnyH_ready (rs := [9]) (by kernel_rfl) (by simp) ?_
        refine AllReadyH.cons rfl (fun K hK => ?_) AllReadyH.nil
        have c11 := hc2
        have c11b : wr.cell? ⟨w.heap.size, 2, none⟩ = some (.int .i64 t) := hc2
        have f11 := hf2
        have f11b : wr.frozen? ⟨w.heap.size, 2, none⟩ = false := hf2
        go_simp
        refine hK.out _ _ hx9 (fun hHeld => ?_)
        clear hK K
        refine wpAnyH_done (by kernel_rfl) ?_ _
        go_wp2_with fail
        go_roundw
        case rel => exact ⟨k + 1, by omega, by go_num, HI2⟩
        case measure => simp [intOf]; omega
    · obtain rfl : k = L.length := by omega
      have hki : ¬ (L.length : Int) < (L.length : Int) := by omega
      have c2 := HM.op.at 2 rfl
      have f2 := HM.op.free 2
      have htw : IntKind.i64.wrap (t + 1) = t + 1 := by rw [IntKind.wrap_i64]; omega
      have HLT : Hid (∀ x ∈ L, x.t < t + 1) := fun x hx => by
        obtain ⟨q, hq, rfl⟩ := List.mem_iff_getElem.1 hx
        have := hge q hq
        have e := ovAt_get hq
        rw [List.getElem?_eq_getElem hq] at e
        rw [← Option.some.inj e] at this
        omega
      have HM2 := HM.put (y := ⟨(a : Int), (n : Int) + 1, t + 1, .slice (some ⟨gc, 0, none⟩) 16 16, xk, xo, xn, xu, xpt, xpa, xky, xtx, cnts L⟩) 2 (.int .i64 (t + 1)) rfl
      clear HI hge HM
      go_upto_region 10 with fail
      clear c2 f2 htw
      generalize wr.setCell ⟨w.heap.size, 2, none⟩ (.int .i64 (t + 1)) = w8 at *
      have hrg := opBlk_range HM2.op
      have hth := there_blk HM2.res (n := 12) (by simp)
      have hrs : (w8.setCells (w.heap.size + 1) 0 (Ov.cs (⟨(a : Int), (n : Int) + 1, t + 1, .slice (some ⟨gc, 0, none⟩) 16 16, xk, xo, xn, xu, xpt, xpa, xky, xtx, cnts L⟩ : Ov))).rangeAt (w.heap.size + 1) 0 (Ov.cs (⟨(a : Int), (n : Int) + 1, t + 1, .slice (some ⟨gc, 0, none⟩) 16 16, xk, xo, xn, xu, xpt, xpa, xky, xtx, cnts L⟩ : Ov)) := World.rangeAt_setCells_same _ _ _ _ hth
      have hO9 : Own 3 (w8.setCells (w.heap.size + 1) 0 (Ov.cs (⟨(a : Int), (n : Int) + 1, t + 1, .slice (some ⟨gc, 0, none⟩) 16 16, xk, xo, xn, xu, xpt, xpa, xky, xtx, cnts L⟩ : Ov))) w.heap.size (.slice (some ⟨gc, 0, none⟩) 16 16) ((cnts L).map (Value.int .i64)) := (HM2.own.apart (grownBy_setCells w8 (w.heap.size + 1) _ 0) (fun kk hk => by cases hk; omega)).mono (by omega)
      have hB9 : Below w.heap.size w (w8.setCells (w.heap.size + 1) 0 (Ov.cs (⟨(a : Int), (n : Int) + 1, t + 1, .slice (some ⟨gc, 0, none⟩) 16 16, xk, xo, xn, xu, xpt, xpa, xky, xtx, cnts L⟩ : Ov))) := below_cellsC (by omega) _ _ _ HM2.bel
      have hth' : w8.there (w.heap.size + 1) 0 (Ov.cs (⟨(a : Int), (n : Int) + 1, t + 1, .slice (some ⟨gc, 0, none⟩) 16 16, xk, xo, xn, xu, xpt, xpa, xky, xtx, cnts L⟩ : Ov)).toArray.size := hth
      have HI1 : Hid ((Tryz.prog.info? 29).map (·.size) = some (Ov.cs (⟨(a : Int), (n : Int) + 1, t + 1, .slice (some ⟨gc, 0, none⟩) 16 16, xk, xo, xn, xu, xpt, xpa, xky, xtx, cnts L⟩ : Ov)).length) := infoOpB _
      have HI2 : Hid ((Tryz.prog.info? 29).map (·.size) = some (Ov.cs (⟨(a : Int), (n : Int) + 1, t + 1, .slice (some ⟨gc, 0, none⟩) 16 16, xk, xo, xn, xu, xpt, xpa, xky, xtx, cnts L⟩ : Ov)).toArray.size) := infoOpB _
      have hone : (Ov.cs (⟨(a : Int), (n : Int) + 1, t + 1, .slice (some ⟨gc, 0, none⟩) 16 16, xk, xo, xn, xu, xpt, xpa, xky, xtx, cnts L⟩ : Ov)).toArray.all (·.oneCell') = true := all_oneCell_toArray (cs_one (⟨(a : Int), (n : Int) + 1, t + 1, .slice (some ⟨gc, 0, none⟩) 16 16, xk, xo, xn, xu, xpt, xpa, xky, xtx, cnts L⟩ : Ov) rfl)
      obtain ⟨cs, HCS⟩ : ∃ cs, Hid (Ov.cs (⟨(a : Int), (n : Int) + 1, t + 1, .slice (some ⟨gc, 0, none⟩) 16 16, xk, xo, xn, xu, xpt, xpa, xky, xtx, cnts L⟩ : Ov) = cs) := ⟨_, rfl⟩
      rw [HCS.out] at hrg hrs hO9 hB9 hth' HI1 HI2 hone
      clear HM2 hth
      have hld := run_loadVar_mid (P := Tryz.prog) _ (w.heap.size + 1) 0 29 cs _ hrs Tryz.underlying29 rfl HI1.out
      have HLD : Hid _ := hld
      clear hld hrs
      go_wp2_with (first | (refine wpList_load_mid rfl 29 _ rfl w.heap.size 0 rfl cs _ hrg Tryz.underlying29 rfl HI1.out ?_) | (refine wpList_store_mid rfl 29 _ _ rfl (w.heap.size + 1) 0 cs.toArray rfl rfl hth' HI2.out hone ?_))
      have hld := HLD.out
      exact bodyPost_ret (v := .agg cs.toArray) (by simp [results, Tryz.results73, asAddr, hld]) rfl ⟨gc, t + 1, by rw [HN.out, HCS.out], by omega, by omega, HLT.out, hO9, hB9⟩
end Go.Proofs.YtmmkmkaannlkhaaGreatDoor
