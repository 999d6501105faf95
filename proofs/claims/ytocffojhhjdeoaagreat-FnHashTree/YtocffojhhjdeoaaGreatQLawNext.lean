/- The laws' own fresh and next: whether an object is new in a log; an operation of an actor behind a log. -/
import Derived.Deep.RegionHeld3
import Derived.Test.YtocffojhhjdeoaaGreatQDrawMake
import Derived.Test.YtocffojhhjdeoaaGreatQLedgerToRowRd
namespace Go.Proofs.YtocffojhhjdeoaaGreat
open Go.RowKit
set_option linter.unusedVariables false

set_option maxHeartbeats 1000000 in
set_option maxRecDepth 100000 in
theorem fresh_any (C : Nat) (w : World) (v : Value) (L : List Ov) (o : Int) (hr : RdO C w v L) (hl : L.length ≤ 1048576) : Calls Tryz.prog 7 #[v, .int .i64 o] w fun e w' => ∃ b : Bool, e = .returned (.bool b) ∧ w' = w := by
  obtain ⟨⟨ao, cap, rfl, hcap, hmax, hnil, hrow⟩, -⟩ := hr
  go_enter Tryz.func7, Tryz.ntmps7
  go_wp2_with fail
  go_loop [5] (fun ti => ∃ k : Nat, k ≤ L.length ∧ ti = .int .i64 (k : Int)) (fun ti => L.length - (intOf ti).toNat)
  case atStart => exact ⟨0, Nat.zero_le _, rfl⟩
  case round =>
    obtain ⟨k, hk, rfl⟩ := hrel
    by_cases hlt : k < L.length
    · have hki : (k : Int) < (L.length : Int) := by omega
      obtain ⟨g, off, rfl, hg, hcs⟩ := hrow (by omega)
      have c5 := (hcs k hlt).c5
      clear hcs hrow
      generalize (ovAt L k).o = y at c5
      by_cases hy : y = o
      · subst hy
        go_wp2_with fail
        go_ret
        exact ⟨.inl rfl, rfl⟩
      · have hyb : (y == o) = false := by simpa using hy
        clear hy
        go_wp2_with fail
        go_round
        case rel => exact ⟨k + 1, by omega, by go_num⟩
        case measure => simp [intOf]; omega
    · have hki : ¬ (k : Int) < (L.length : Int) := by omega
      go_wp2_with fail
      go_ret
      exact ⟨.inr rfl, rfl⟩

/-- What next holds on its way: the operation, its result's block, the counts. -/
structure Nx (w wr : World) (gc : Nat) (x : Ov) : Prop where
  op : OpBlk wr w.heap.size x
  res : wr.heap[w.heap.size + 1]? = some (.cells #[.int .i64 0, .int .i64 0, .int .i64 0, .slice none 0 0, .int .i64 0, .int .i64 0, .int .i64 0, .int .i64 0, .int .i64 0, .int .i64 0, .string ByteArray.empty, .string ByteArray.empty] 37 (0, 0))
  own : Own 3 wr (w.heap.size + 2) (.slice (some ⟨gc, 0, none⟩) 16 16) (x.ds.map (Value.int .i64))
  len : x.ds.length = 16
  low : w.heap.size + 2 ≤ gc
  bel : Below w.heap.size w wr
theorem Nx.drew {w wr : World} {gc : Nat} {x : Ov} (h : Nx w wr gc x) : Nx w wr.drew gc x := ⟨h.op, h.res, h.own, h.len, h.low, h.bel.drew⟩
theorem Nx.put {w wr : World} {gc : Nat} {x y : Ov} (h : Nx w wr gc x) (j : Nat) (u : Value) (e : x.cs.toArray.setIfInBounds j u = y.cs.toArray) (hdv : y.dv = x.dv) (hds : y.ds = x.ds) : Nx w (wr.setCell ⟨w.heap.size, j, none⟩ u) gc y :=
  ⟨h.op.put j u e, (heap_setCell_other wr ⟨w.heap.size, j, none⟩ (w.heap.size + 1) _ (by show w.heap.size + 1 ≠ w.heap.size; omega)).trans h.res, by rw [hds]; exact h.own.apart (grownBy_set wr w.heap.size j u) (fun k hk => by cases hk; omega), by rw [hds]; exact h.len, h.low, h.bel.setCell (p := ⟨w.heap.size, j, none⟩) (Nat.le_refl _) _⟩
theorem Nx.num {w wr : World} {gc : Nat} {x : Ov} (h : Nx w wr gc x) {i : Nat} (hi : i < 16) : ∃ c : Int, wr.cell? ⟨gc, i, none⟩ = some (.int .i64 c) :=
  ⟨x.ds[i]'(by rw [h.len]; exact hi), own_at h.own (by rw [List.getElem?_map, List.getElem?_eq_getElem (by rw [h.len]; exact hi)]; rfl)⟩
theorem Nx.frz {w wr : World} {gc : Nat} {x : Ov} (h : Nx w wr gc x) (i : Nat) : wr.frozen? ⟨gc, i, none⟩ = false := by
  have h9 := h.own
  unfold Own at h9
  rw [List.length_map, h.len] at h9
  exact World.ownsRow.frozenAt h9 i
theorem Nx.bump {w wr : World} {gc : Nat} {xa xs xt xk xo xn xu xpt xpa : Int} {xky xtx : ByteArray} {xds : List Int} (h : Nx w wr gc ⟨xa, xs, xt, .slice (some ⟨gc, 0, none⟩) 16 16, xk, xo, xn, xu, xpt, xpa, xky, xtx, xds⟩) (i : Nat) (c : Int) : Nx w (wr.setCell ⟨gc, i, none⟩ (.int .i64 c)) gc ⟨xa, xs, xt, .slice (some ⟨gc, 0, none⟩) 16 16, xk, xo, xn, xu, xpt, xpa, xky, xtx, xds.set i c⟩ := by
  have hl := h.low
  have hlen : xds.length = 16 := h.len
  refine ⟨(heap_setCell_other wr ⟨gc, i, none⟩ w.heap.size _ (by show w.heap.size ≠ gc; omega)).trans h.op, (heap_setCell_other wr ⟨gc, i, none⟩ (w.heap.size + 1) _ (by show w.heap.size + 1 ≠ gc; omega)).trans h.res, ?_, by show (xds.set i c).length = 16; rw [List.length_set]; exact hlen, hl, h.bel.setCell (p := ⟨gc, i, none⟩) (by show w.heap.size ≤ gc; omega) _⟩
  have h9 : Own 3 wr (w.heap.size + 2) (.slice (some ⟨gc, 0, none⟩) 16 16) (xds.map (Value.int .i64)) := h.own
  unfold Own at h9
  rw [List.length_map, hlen] at h9
  have h4 := (World.ownsRow.stored h9 i (.int .i64 c)).1
  unfold Own
  show World.ownsRow _ _ _ _ _ ((xds.set i c).map (Value.int .i64)).length ((xds.set i c).map (Value.int .i64))
  rw [List.length_map, List.length_set, hlen, List.map_set]
  exact h4

set_option maxHeartbeats 4000000 in
set_option maxRecDepth 100000 in
theorem next7_any (C : Nat) (w : World) (v : Value) (L : List Ov) (hC : C ≤ w.heap.size) (hr : RdO C w v L) (hl : L.length ≤ 1048576) (hA : ∀ x ∈ L, 0 ≤ x.a ∧ x.a < 16) :
    Calls Tryz.prog 9 #[v, .int .i64 7, .agg #[.int .i64 0, .int .i64 0, .int .i64 0, .slice none 0 0, .int .i64 4, .int .i64 9, .int .i64 1, .int .i64 0, .int .i64 0, .int .i64 0, .string ByteArray.empty, .string ByteArray.empty]] w fun e w' => ∃ X : Ov, e = .returned (.agg X.cs.toArray) ∧ (∃ a n c, X.dv = .slice a n c) ∧ Rd w'.heap.size w' X.dv (X.ds.map (Value.int .i64)) ∧ X.ky.size ≤ 5 ∧ X.tx.size ≤ 5 ∧ Below w.heap.size w w' := by
  obtain ⟨⟨ao, cap, rfl, hcap, hmax, hnil, hrow⟩, -⟩ := hr
  have HROW : Hid (∀ k, k < L.length → ∃ g off, ao = some ⟨g, off, none⟩ ∧ g < C ∧ OpAt w g (off + k * 12) (ovAt L k)) := fun k hk => by
    obtain ⟨g, off, h1, h2, h3⟩ := hrow (by omega)
    exact ⟨g, off, h1, h2, h3 k hk⟩
  have HA : Hid (∀ k, k < L.length → ∃ a : Nat, (ovAt L k).a = (a : Int) ∧ a < 16) := fun k hk => by
    have h1 := hA _ (ovAt_mem hk)
    obtain ⟨a, ea⟩ := Int.eq_ofNat_of_zero_le h1.1
    exact ⟨a, ea, by omega⟩
  obtain ⟨i3, hi3, hx0, hx1, hx2⟩ := info_parts info3
  have hN0 : OpBlk ((w.alloc (.cells #[.int .i64 7, .int .i64 1, .int .i64 1, .slice none 0 0, .int .i64 4, .int .i64 9, .int .i64 1, .int .i64 0, .int .i64 0, .int .i64 0, .string ByteArray.empty, .string ByteArray.empty] 37)).alloc (.cells #[.int .i64 0, .int .i64 0, .int .i64 0, .slice none 0 0, .int .i64 0, .int .i64 0, .int .i64 0, .int .i64 0, .int .i64 0, .int .i64 0, .string ByteArray.empty, .string ByteArray.empty] 37)) w.heap.size ⟨7, 1, 1, .slice none 0 0, 4, 9, 1, 0, 0, 0, ByteArray.empty, ByteArray.empty, []⟩ := (Below.heap_alloc _ _ _ (by rw [World.size_alloc]; omega)).trans (heap_alloc_new w _)
  have hR0 := heap_alloc_new (w.alloc (.cells #[.int .i64 7, .int .i64 1, .int .i64 1, .slice none 0 0, .int .i64 4, .int .i64 9, .int .i64 1, .int .i64 0, .int .i64 0, .int .i64 0, .string ByteArray.empty, .string ByteArray.empty] 37)) (.cells #[.int .i64 0, .int .i64 0, .int .i64 0, .slice none 0 0, .int .i64 0, .int .i64 0, .int .i64 0, .int .i64 0, .int .i64 0, .int .i64 0, .string ByteArray.empty, .string ByteArray.empty] 37)
  rw [World.size_alloc] at hR0
  have hB0 := below_then (below_alloc w (.cells #[.int .i64 7, .int .i64 1, .int .i64 1, .slice none 0 0, .int .i64 4, .int .i64 9, .int .i64 1, .int .i64 0, .int .i64 0, .int .i64 0, .string ByteArray.empty, .string ByteArray.empty] 37)) (.cells #[.int .i64 0, .int .i64 0, .int .i64 0, .slice none 0 0, .int .i64 0, .int .i64 0, .int .i64 0, .int .i64 0, .int .i64 0, .int .i64 0, .string ByteArray.empty, .string ByteArray.empty] 37)
  clear hrow hA
  go_enter Tryz.func9, Tryz.ntmps9
  go_wp2_with (at_make; refine wpList_make_full _ rfl _ _ 31 rfl (w.heap.size + 2) 3 i3 (.int .i64 0) 1 Tryz.underlying31 hi3 hx0 hx1 _ _ _ _ 16 rfl rfl rfl rfl (by rw [hx2]; omega) (by unfold maxLen; omega) (by simp) ?_)
  intro w2 hown hgrow
  have ho2 := own_of hown
  rw [toList_madeCells_one] at ho2
  have hs2 := hgrow.size
  simp only [World.size_alloc] at hs2 ho2 ⊢
  have hN4 : OpBlk w2 w.heap.size ⟨7, 1, 1, .slice none 0 0, 4, 9, 1, 0, 0, 0, ByteArray.empty, ByteArray.empty, []⟩ := (hgrow.block w.heap.size (by simp only [World.size_alloc]; omega) (by simp)).trans hN0
  have hR4 : w2.heap[w.heap.size + 1]? = _ := (hgrow.block (w.heap.size + 1) (by simp only [World.size_alloc]; omega) (by simp)).trans hR0
  have hB4 : Below w.heap.size w w2 := hB0.grown hgrow (by simp only [World.size_alloc]; omega) (fun k e => by cases e)
  have c3 := OpBlk.at hN4 3 rfl
  have f3 := OpBlk.free hN4 3
  have HN : Nx w (w2.setCell ⟨w.heap.size, 3, none⟩ (.slice (some ⟨w.heap.size + 1 + 1, 0, none⟩) 16 16)) (w.heap.size + 1 + 1) ⟨7, 1, 1, .slice (some ⟨w.heap.size + 1 + 1, 0, none⟩) 16 16, 4, 9, 1, 0, 0, 0, ByteArray.empty, ByteArray.empty, List.replicate 16 0⟩ := by
    refine ⟨OpBlk.put hN4 (y := ⟨7, 1, 1, .slice (some ⟨w.heap.size + 1 + 1, 0, none⟩) 16 16, 4, 9, 1, 0, 0, 0, ByteArray.empty, ByteArray.empty, List.replicate 16 0⟩) 3 _ rfl, (heap_setCell_other w2 ⟨w.heap.size, 3, none⟩ (w.heap.size + 1) _ (by show w.heap.size + 1 ≠ w.heap.size; omega)).trans hR4, ?_, rfl, by omega, hB4.setCell (p := ⟨w.heap.size, 3, none⟩) (Nat.le_refl _) _⟩
    exact Own.apart (show Own 3 w2 (w.heap.size + 2) (.slice (some ⟨w.heap.size + 1 + 1, 0, none⟩) 16 16) ((List.replicate 16 (0 : Int)).map (Value.int .i64)) from by rw [List.map_replicate]; exact ho2) (grownBy_set w2 w.heap.size 3 _) (fun k hk => by cases hk; omega)
  clear hN0 hR0 hB0 ho2 hown hN4 hR4 hB4 hgrow hs2
  go_upto_region 5 with fail
  clear c3 f3
  generalize w2.setCell ⟨w.heap.size, 3, none⟩ (.slice (some ⟨w.heap.size + 1 + 1, 0, none⟩) 16 16) = w3 at *
  generalize w.heap.size + 1 + 1 = gc at *
  go_wp2_with fail
  go_loopw [7] (fun ti wr => ∃ k : Nat, k ≤ L.length ∧ ti = .int .i64 (k : Int) ∧ ∃ xa xs xt xk xo xn xu xpt xpa xds, Nx w wr gc ⟨xa, xs, xt, .slice (some ⟨gc, 0, none⟩) 16 16, xk, xo, xn, xu, xpt, xpa, ByteArray.empty, ByteArray.empty, xds⟩) (fun ti _ => L.length - (intOf ti).toNat)
  case atStart => exact ⟨0, Nat.zero_le _, rfl, _, _, _, _, _, _, _, _, _, _, HN⟩
  case round =>
    clear HN
    obtain ⟨k, hk, rfl, xa, xs, xt, xk, xo, xn, xu, xpt, xpa, xds, HN⟩ := hrel
    by_cases hlt : k < L.length
    · have hki : (k : Int) < (L.length : Int) := by omega
      obtain ⟨g, off, rfl, hg, hx⟩ := HROW.out k hlt
      obtain ⟨a, ea, ha⟩ := HA.out k hlt
      have HX : Hid (∀ wz, Below w.heap.size w wz → OpAt wz g (off + k * 12) (ovAt L k)) := fun wz hz => hx.below (hz.mono hC) hg
      have hgw : g < w.heap.size := by omega
      have hai : (a : Int) < 16 := by omega
      have hc0 : wr.drew.cell? ⟨g, off + k * 12, none⟩ = some (.int .i64 (a : Int)) := by
        have := (HX.out wr.drew HN.bel.drew).c0
        rwa [ea] at this
      have HEA : Hid _ := ea
      clear hx ea
      go_wp2_with fail
      have hd := HN.drew
      refine wp_region_held_drew (S := fun w' => w'.cell? ⟨w.heap.size, 3, none⟩ = some (.slice (some ⟨gc, 0, none⟩) 16 16) ∧ w'.cell? ⟨g, off + k * 12, none⟩ = some (.int .i64 (a : Int))) (by kernel_rfl) ⟨hd.op.at 3 rfl, hc0⟩ (fun hHeld => ?_)
      clear HN
      generalize wr.drew = w3 at *
      refine tkH 0 (.pointer (some ⟨w.heap.size, 3, none⟩)) rfl (Or.inl ⟨by kernel_rfl, by intro w hSw; clear hSw; go_simp⟩) hHeld ?_
      simp only [tkS, Act.put]
      refine tkH 1 (.pointer (some ⟨w.heap.size, 3, none⟩)) rfl (Or.inl ⟨by kernel_rfl, by intro w hSw; clear hSw; go_simp⟩) hHeld ?_
      simp only [tkS, Act.put]
      refine tkH 2 (.slice (some ⟨gc, 0, none⟩) 16 16) rfl (Or.inl ⟨by kernel_rfl, by intro w hSw; obtain ⟨s0, s1⟩ := hSw; go_simp⟩) hHeld ?_
      simp only [tkS, Act.put]
      refine tkH 3 (.slice (some ⟨g, off, none⟩) L.length cap) rfl (Or.inl ⟨by kernel_rfl, by intro w hSw; clear hSw; go_simp⟩) hHeld ?_
      simp only [tkS, Act.put]
      refine tkH 4 (.int .i64 (k : Int)) rfl (Or.inl ⟨by kernel_rfl, by intro w hSw; clear hSw; go_simp⟩) hHeld ?_
      simp only [tkS, Act.put]
      refine tkH 5 (.pointer (some ⟨g, off + k * 12, none⟩)) rfl (Or.inl ⟨by kernel_rfl, by intro w hSw; clear hSw; go_simp⟩) hHeld ?_
      simp only [tkS, Act.put]
      refine tkH 6 (.pointer (some ⟨g, off + k * 12, none⟩)) rfl (Or.inl ⟨by kernel_rfl, by intro w hSw; clear hSw; go_simp⟩) hHeld ?_
      simp only [tkS, Act.put]
      refine tkH 7 (.int .i64 (a : Int)) rfl (Or.inl ⟨by kernel_rfl, by intro w hSw; obtain ⟨s0, s1⟩ := hSw; go_simp⟩) hHeld ?_
      simp only [tkS, Act.put]
      refine tkH 8 (.pointer (some ⟨gc, a, none⟩)) rfl (Or.inl ⟨by kernel_rfl, by intro w hSw; clear hSw; go_simp⟩) hHeld ?_
      simp only [tkS, Act.put]
      refine wpAnyH_ready (rs := [9]) (by kernel_rfl) (by simp) ?_
      refine AllReadyH.cons rfl (fun K hK => ?_) AllReadyH.nil
      have hn := hd.num ha
      have fq := hd.frz a
      obtain ⟨cv, hcv⟩ := hn
      go_simp
      refine hK.out _ _ (⟨hd.op.at 3 rfl, hc0⟩) (fun hHeld => ?_)
      clear hK K
      try simp only [tkS, Act.put]
      refine tkH 10 (.int .i64 (IntKind.i64.wrap (cv + 1))) rfl (Or.inl ⟨by kernel_rfl, by intro w hSw; clear hSw; go_simp⟩) hHeld ?_
      simp only [tkS, Act.put]
      refine tkH 11 (.pointer (some ⟨gc, a, none⟩)) rfl (Or.inl ⟨by kernel_rfl, by intro w hSw; clear hSw; go_simp⟩) hHeld ?_
      simp only [tkS, Act.put]
      refine wpAnyH_ready (rs := [12]) (by kernel_rfl) (by simp) ?_
      refine AllReadyH.cons rfl (fun K hK => ?_) AllReadyH.nil
      have hd4 := hd.bump a (IntKind.i64.wrap (cv + 1))
      have hc04 := (World.cell?_of_block (w := w3) (a := ⟨g, off + k * 12, none⟩) (heap_setCell_other w3 ⟨gc, a, none⟩ g (.int .i64 (IntKind.i64.wrap (cv + 1))) (by show g ≠ gc; have := hd.low; omega))).trans hc0
      go_simp
      refine hK.out _ _ (⟨hd4.op.at 3 rfl, hc04⟩) (fun hHeld => ?_)
      clear hK K
      try simp only [tkS, Act.put]
      refine wpAnyH_done (by kernel_rfl) ?_ _
      clear hd hcv fq hc04
      generalize w3.setCell ⟨gc, a, none⟩ (.int .i64 (IntKind.i64.wrap (cv + 1))) = w4 at *
      generalize xds.set a (IntKind.i64.wrap (cv + 1)) = xds4 at *
      have hx5 := (HX.out w4 hd4.bel).c2
      generalize (ovAt L k).t = yt at hx5
      have he := hd4.drew
      clear hd4
      go_wp2_with fail
      refine wp_region_held_drew (S := fun w' => w'.cell? ⟨g, off + k * 12 + 2, none⟩ = some (.int .i64 yt)) (by kernel_rfl) hx5 (fun hHeld => ?_)
      replace hx5 : w4.drew.cell? ⟨g, off + k * 12 + 2, none⟩ = some (.int .i64 yt) := hx5
      generalize w4.drew = w5 at *
      refine tkH 0 (.pointer (some ⟨w.heap.size, 2, none⟩)) rfl (Or.inl ⟨by kernel_rfl, by intro w hSw; clear hSw; go_simp⟩) hHeld ?_
      simp only [tkS, Act.put]
      refine tkH 2 (.slice (some ⟨g, off, none⟩) L.length cap) rfl (Or.inl ⟨by kernel_rfl, by intro w hSw; clear hSw; go_simp⟩) hHeld ?_
      simp only [tkS, Act.put]
      refine tkH 3 (.int .i64 (k : Int)) rfl (Or.inl ⟨by kernel_rfl, by intro w hSw; clear hSw; go_simp⟩) hHeld ?_
      simp only [tkS, Act.put]
      refine tkH 4 (.pointer (some ⟨g, off + k * 12, none⟩)) rfl (Or.inl ⟨by kernel_rfl, by intro w hSw; clear hSw; go_simp⟩) hHeld ?_
      simp only [tkS, Act.put]
      refine tkH 5 (.pointer (some ⟨g, off + k * 12 + 2, none⟩)) rfl (Or.inl ⟨by kernel_rfl, by intro w hSw; clear hSw; go_simp⟩) hHeld ?_
      simp only [tkS, Act.put]
      refine tkH 6 (.int .i64 yt) rfl (Or.inl ⟨by kernel_rfl, by intro w hSw; have s0 := hSw; go_simp⟩) hHeld ?_
      simp only [tkS, Act.put]
      refine tkH 7 (.int .i64 (IntKind.i64.wrap (yt + 1))) rfl (Or.inl ⟨by kernel_rfl, by intro w hSw; clear hSw; go_simp⟩) hHeld ?_
      simp only [tkS, Act.put]
      refine wpAnyH_ready (rs := [1]) (by kernel_rfl) (by simp) ?_
      refine AllReadyH.cons rfl (fun K hK => ?_) AllReadyH.nil
      have c2 := he.op.at 2 rfl
      have f2 := he.op.free 2
      go_simp
      refine hK.out _ _ (hx5) (fun hHeld => ?_)
      clear hK K
      try simp only [tkS, Act.put]
      refine tkH 8 (.int .i64 (max xt (IntKind.i64.wrap (yt + 1)))) rfl (Or.inl ⟨by kernel_rfl, by intro w hSw; clear hSw; go_simp; split <;> omega⟩) hHeld ?_
      simp only [tkS, Act.put]
      refine tkH 9 (.pointer (some ⟨w.heap.size, 2, none⟩)) rfl (Or.inl ⟨by kernel_rfl, by intro w hSw; clear hSw; go_simp⟩) hHeld ?_
      simp only [tkS, Act.put]
      refine wpAnyH_ready (rs := [10]) (by kernel_rfl) (by simp) ?_
      refine AllReadyH.cons rfl (fun K hK => ?_) AllReadyH.nil
      have he6 := he.put (y := ⟨xa, xs, max xt (IntKind.i64.wrap (yt + 1)), .slice (some ⟨gc, 0, none⟩) 16 16, xk, xo, xn, xu, xpt, xpa, ByteArray.empty, ByteArray.empty, xds4⟩) 2 (.int .i64 (max xt (IntKind.i64.wrap (yt + 1)))) rfl rfl rfl
      have hx6 := (World.cell?_of_block (w := w5) (a := ⟨g, off + k * 12 + 2, none⟩) (heap_setCell_other w5 ⟨w.heap.size, 2, none⟩ g (.int .i64 (max xt (IntKind.i64.wrap (yt + 1)))) (by show g ≠ w.heap.size; omega))).trans hx5
      go_simp
      refine hK.out _ _ (hx6) (fun hHeld => ?_)
      clear hK K
      try simp only [tkS, Act.put]
      refine wpAnyH_done (by kernel_rfl) ?_ _
      clear he c2 f2 hx6 hx5
      generalize w5.setCell ⟨w.heap.size, 2, none⟩ (.int .i64 (max xt (IntKind.i64.wrap (yt + 1)))) = w6 at *
      generalize max xt (IntKind.i64.wrap (yt + 1)) = xt6 at *
      have hc06 : w6.cell? ⟨g, off + k * 12, none⟩ = some (.int .i64 (a : Int)) := by
        have := (HX.out w6 he6.bel).c0
        rwa [HEA.out] at this
      by_cases h7 : a = 7
      · have h7b : ((a : Int) == 7) = true := by simp; omega
        have c1 := he6.op.at 1 rfl
        have f1 := he6.op.free 1
        have he7 := he6.put (y := ⟨xa, wrap64 (xs + 1), xt6, .slice (some ⟨gc, 0, none⟩) 16 16, xk, xo, xn, xu, xpt, xpa, ByteArray.empty, ByteArray.empty, xds4⟩) 1 (.int .i64 (wrap64 (xs + 1))) rfl rfl rfl
        clear h7
        go_wp2_with fail
        go_roundw
        case rel => exact ⟨k + 1, by omega, by go_num, _, _, _, _, _, _, _, _, _, _, he7⟩
        case measure => simp [intOf]; omega
      · have h7b : ((a : Int) == 7) = false := by simp; omega
        clear h7
        go_wp2_with fail
        go_roundw
        case rel => exact ⟨k + 1, by omega, by go_num, _, _, _, _, _, _, _, _, _, _, he6⟩
        case measure => simp [intOf]; omega
    · have hki : ¬ (k : Int) < (L.length : Int) := by omega
      have hrg := opBlk_range HN.op
      have hth := there_blk HN.res (n := 12) (by simp)
      have hlw := HN.low
      generalize HXX : (⟨xa, xs, xt, .slice (some ⟨gc, 0, none⟩) 16 16, xk, xo, xn, xu, xpt, xpa, ByteArray.empty, ByteArray.empty, xds⟩ : Ov) = X at *
      have HDV : Hid (X.dv = .slice (some ⟨gc, 0, none⟩) 16 16 ∧ X.ky.size ≤ 5 ∧ X.tx.size ≤ 5) := by rw [← HXX]; exact ⟨rfl, Nat.zero_le _, Nat.zero_le _⟩
      have hth' : wr.there (w.heap.size + 1) 0 X.cs.toArray.size := hth
      have hrs : (wr.setCells (w.heap.size + 1) 0 X.cs).rangeAt (w.heap.size + 1) 0 X.cs := World.rangeAt_setCells_same _ _ _ _ hth
      have hO9 : Rd (wr.setCells (w.heap.size + 1) 0 X.cs).heap.size (wr.setCells (w.heap.size + 1) 0 X.cs) X.dv (X.ds.map (Value.int .i64)) := by
        rw [HDV.out.1]
        exact (HN.own.apart (grownBy_setCells wr (w.heap.size + 1) _ 0) (fun kk hk => by cases hk; omega)).rd
      have hB9 : Below w.heap.size w (wr.setCells (w.heap.size + 1) 0 X.cs) := below_cellsC (by omega) _ _ _ HN.bel
      have HI1 : Hid ((Tryz.prog.info? 37).map (·.size) = some X.cs.length) := infoOpB _
      have HI2 : Hid ((Tryz.prog.info? 37).map (·.size) = some X.cs.toArray.size) := infoOpB _
      have hone : X.cs.toArray.all (·.oneCell') = true := all_oneCell_toArray (cs_one X (by rw [HDV.out.1]; rfl))
      obtain ⟨cs, HCS⟩ : ∃ cs, Hid (X.cs = cs) := ⟨_, rfl⟩
      rw [HCS.out] at hrg hrs hO9 hB9 hth' HI1 HI2 hone
      clear HN hth HXX
      have hld := run_loadVar_mid (P := Tryz.prog) _ (w.heap.size + 1) 0 37 cs _ hrs Tryz.underlying37 rfl HI1.out
      have HLD : Hid _ := hld
      clear hld hrs
      go_wp2_with (first | (refine wpList_load_mid rfl 37 _ rfl w.heap.size 0 rfl cs _ hrg Tryz.underlying37 rfl HI1.out ?_) | (refine wpList_store_mid rfl 37 _ _ rfl (w.heap.size + 1) 0 cs.toArray rfl rfl hth' HI2.out hone ?_))
      have hld := HLD.out
      exact bodyPost_ret (v := .agg cs.toArray) (by simp [results, Tryz.results9, asAddr, hld]) rfl ⟨X, by rw [HCS.out], ⟨_, _, _, HDV.out.1⟩, hO9, HDV.out.2.1, HDV.out.2.2, hB9⟩
end Go.Proofs.YtocffojhhjdeoaaGreat
