/- Drawn vectors: what l02New, the source's vector and its oddVector do. -/
import Derived.Deep.RegionHeld3
import Derived.Test.YtfjekbfejbgneaaQSrcOdd
import Derived.Test.YtfjekbfejbgneaaQInfoToVecCopy
import Derived.Test.YtfjekbfejbgneaaQVecArrToVecJoins
namespace Go.Proofs.Ytfjekbfejbgneaa
open Go.RowKit
set_option linter.unusedVariables false

/-- What a drawn count may be. -/
def Sml (B : Int) (xs : List Int) : Prop := ∀ x ∈ xs, -1 ≤ x ∧ x ≤ B
theorem Sml.set {B : Int} {xs : List Int} (h : Sml B xs) (k : Nat) {x : Int} (h0 : -1 ≤ x) (h1 : x ≤ B) : Sml B (xs.set k x) := by
  intro y hy
  rcases List.mem_or_eq_of_mem_set hy with hy | rfl
  · exact h y hy
  · exact ⟨h0, h1⟩
theorem Sml.take {B : Int} {xs : List Int} (h : Sml B xs) (n : Nat) : Sml B (xs.take n) := fun x hx => h x (List.mem_of_mem_take hx)
theorem map_set_int (xs : List Int) (k : Nat) (x : Int) : (xs.map (Value.int .i64)).set k (.int .i64 x) = (xs.set k x).map (Value.int .i64) := by rw [List.map_set]
/-- A row of the call's own beside a store elsewhere. -/
theorem own_beside {e : TypeId} {w : World} {B g n cap m k : Nat} {cs : List Value} (h : Own e w B (.slice (some ⟨g, 0, none⟩) n cap) cs) (hn : g ≠ m) (u : Value) : Own e (w.setCell ⟨m, k, none⟩ u) B (.slice (some ⟨g, 0, none⟩) n cap) cs := by
  obtain ⟨h1, h2⟩ := h
  refine ⟨h1, ?_⟩
  rcases h2 with h2 | ⟨g', cap', cur, hv, hb, hh, r⟩
  · exact .inl h2
  · refine .inr ⟨g', cap', cur, hv, hb, ?_, r⟩
    simp only [Value.slice.injEq, Option.some.injEq, Addr.mk.injEq, and_true] at hv
    obtain ⟨rfl, _⟩ := hv
    rw [heap_setCell_other w ⟨m, k, none⟩ g u hn]
    exact hh
theorem blk_beside {w : World} {g m k : Nat} {o : Obj} (h : w.heap[g]? = some o) (hn : g ≠ m) (u : Value) : (w.setCell ⟨m, k, none⟩ u).heap[g]? = some o := by
  rw [heap_setCell_other w ⟨m, k, none⟩ g u hn]
  exact h

set_option maxHeartbeats 1000000 in
set_option maxRecDepth 100000 in
theorem l02New_any (w : World) : Calls Try.prog 47 #[] w fun e w' => ∃ g, e = .returned (.agg #[.slice (some ⟨g, 0, none⟩) 16 16]) ∧ Own 3 w' w.heap.size (.slice (some ⟨g, 0, none⟩) 16 16) ((List.replicate 16 0).map (Value.int .i64)) ∧ Below w.heap.size w w' := by
  obtain ⟨i0, hi, hz0, hz1, hz2⟩ := info_parts info3
  go_enter Try.func47, Try.ntmps47
  go_wp2_with (at_make; refine wpList_make_full _ rfl _ _ 24 rfl (w.heap.size + 1) 3 i0 (.int .i64 0) 1 Try.underlying24 hi hz0 hz1 _ _ _ _ 16 rfl rfl rfl rfl (by rw [hz2]; omega) (by unfold maxLen; omega) (by simp) ?_)
  intro w1 hown hgrow
  have ho1 := own_of hown
  rw [toList_madeCells_one] at ho1
  have hk := (hgrow.block w.heap.size (by simp) (by simp)).trans (heap_alloc_new w _)
  have c0 := cell_blk hk 0 rfl
  have f0 := free_blk hk 0
  have hb1 : Below w.heap.size w w1 := (below_alloc w _).grown hgrow (by simp) (fun k hk => by cases hk)
  have ho2 := own_beside (m := w.heap.size) (k := 0) ho1 (by omega) (.slice (some ⟨w.heap.size + 1, 0, none⟩) 16 16)
  have hb2 := hb1.setCell (p := ⟨w.heap.size, 0, none⟩) (Nat.le_refl _) (.slice (some ⟨w.heap.size + 1, 0, none⟩) 16 16)
  have q0 : (w1.setCell ⟨w.heap.size, 0, none⟩ (.slice (some ⟨w.heap.size + 1, 0, none⟩) 16 16)).cell? ⟨w.heap.size, 0, none⟩ = some (.slice (some ⟨w.heap.size + 1, 0, none⟩) 16 16) := World.cell?_setCell_same _ _ _ c0
  clear hown hgrow ho1
  go_wp2_with fail
  refine bodyPost_ret (v := .agg #[.slice (some ⟨w.heap.size + 1, 0, none⟩) 16 16]) ?_ rfl ⟨_, rfl, ho2.mono (by omega), hb2⟩
  simp [results, Try.results47, go_sem, q0]

set_option maxHeartbeats 4000000 in
set_option maxRecDepth 100000 in
theorem srcVector_any (C b A : Nat) (w : World) (h : Src C w b A) (hA : A ≤ 700000000) :
    Calls Try.prog 24 #[.pointer (some ⟨b, 0, none⟩)] w fun e w' => ∃ (g : Nat) (xs : List Int), e = .returned (.agg #[.slice (some ⟨g, 0, none⟩) 16 16]) ∧ xs.length = 16 ∧ Sml 4 xs ∧ Own 3 w' w.heap.size (.slice (some ⟨g, 0, none⟩) 16 16) (xs.map (Value.int .i64)) ∧ Src C w' b (A + 12) ∧ w.grownBy w' (some b) := by
  have hlt := h.lt
  go_enter Try.func24, Try.ntmps24
  go_wp2_with fail
  refine (l02New_any _).mono ?_
  rintro e w1 ⟨g, rfl, ho1, hb1⟩
  have hB := below_seq (below_alloc w _) hb1
  rw [World.size_alloc] at ho1
  have hg0 := own_lt ho1
  have hg1 := ho1.blk g rfl
  have hk1 := block_made hb1
  have hS1 := h.below hB hlt
  have hG1 : w.grownBy w1 (some b) := ⟨hB.os, hB.tape, hB.output, hB.size, fun k hk _ => hB.block k hk⟩
  have hsz := hb1.size
  rw [World.size_alloc] at hsz
  clear hb1 hB h
  go_wp2_with fail
  have ho2 : Own 3 (w1.alloc (.cells #[.slice (some ⟨g, 0, none⟩) 16 16] 26)) (w.heap.size + 1) (.slice (some ⟨g, 0, none⟩) 16 16) ((List.replicate 16 0).map (Value.int .i64)) := Own.below ho1 (below_alloc w1 _) (Nat.le_refl _)
  have hv2 : (w1.alloc (.cells #[.slice (some ⟨g, 0, none⟩) 16 16] 26)).heap[w1.heap.size]? = some (.cells #[.slice (some ⟨g, 0, none⟩) 16 16] 26 (0, 0)) := heap_alloc_new w1 _
  have hk2 := blk_al hk1 (.cells #[.slice (some ⟨g, 0, none⟩) 16 16] 26)
  have hS2 := hS1.alloc (.cells #[.slice (some ⟨g, 0, none⟩) 16 16] 26)
  have hG2 := gr_alloc hG1 (.cells #[.slice (some ⟨g, 0, none⟩) 16 16] 26)
  clear ho1 hk1 hS1 hG1
  go_loopw [4] (fun ti wr => ∃ (k : Nat) (xs : List Int), k ≤ 4 ∧ ti = .int .i64 (k : Int) ∧ xs.length = 16 ∧ Sml 4 xs ∧ Own 3 wr (w.heap.size + 1) (.slice (some ⟨g, 0, none⟩) 16 16) (xs.map (Value.int .i64)) ∧ wr.heap[w1.heap.size]? = some (.cells #[.slice (some ⟨g, 0, none⟩) 16 16] 26 (0, 0)) ∧ wr.heap[w.heap.size]? = some (.cells #[.slice none 0 0] 26 (0, 0)) ∧ Src C wr b (A + 3 * k) ∧ w.grownBy wr (some b)) (fun ti _ => 4 - (intOf ti).toNat)
  case atStart => exact ⟨0, List.replicate 16 0, by omega, rfl, by simp, (fun x hx => by rw [List.eq_of_mem_replicate hx]; omega), ho2, hv2, hk2, hS2, hG2⟩
  case round =>
    clear ho2 hv2 hk2 hS2 hG2
    obtain ⟨k, xs, hk, rfl, hx, hX, ho, hv, hr, hSr, hGr⟩ := hrel
    by_cases hlt4 : k < 4
    · have q0 : (k : Int) < 4 := by omega
      have i0 : (0 : Int) ≤ (k : Int) := by omega
      have i1 : (k : Int) < 16 := by omega
      have hne : w1.heap.size ≠ g := by omega
      have cv := cell_blk hv 0 rfl
      have hS : wr.drew.cell? ⟨w1.heap.size, 0, none⟩ = some (.slice (some ⟨g, 0, none⟩) 16 16) := cv
      have hSd : Src C wr.drew b (A + 3 * k) := hSr
      go_wp2_with fail
      go_region_held3 (fun w' => w'.cell? ⟨w1.heap.size, 0, none⟩ = some (.slice (some ⟨g, 0, none⟩) 16 16)) (first | exact hS | exact (World.cell?_setCells_out g [_] k _ _ (fun e => absurd e hne)).trans hS) (first | (go_at_call 23; refine Calls.mono (srcNext_any C b (A + 3 * k) 5 _ hSd (by omega) (by omega) (by omega)) ?_; rintro e w2 ⟨r1, rfl, hr0, hr1, hS2, hG2⟩; replace hS := keep_c hS hG2 (by omega); have ho3 := Own.apart (w' := w2) ho ⟨hG2.os, hG2.tape, hG2.output, hG2.size, hG2.block⟩ (fun j hj => by cases hj; omega); have c1 := own_cell ho3 (k := k) (by simp; omega); have f1 := own_free ho3 k))
      have hG3 := grownBy_trans hGr (gr_undrew hG2)
      have hv3 := blk_on hv (gr_undrew hG2) (by omega)
      have hr3 := blk_on hr (gr_undrew hG2) (by omega)
      have R := own_set ho3 k (.int .i64 r1)
      rw [map_set_int] at R
      go_wp2_with fail
      go_roundw
      case rel => exact ⟨k + 1, xs.set k r1, by omega, by go_num, by simp [hx], hX.set k (by omega) (by omega), R, blk_beside hv3 (by omega) _, blk_beside hr3 (by omega) _, (hS2.set (by omega) _).mono (by omega), gr_put hG3 (by omega) _ _⟩
      case measure => simp [intOf]; omega
    · obtain rfl : k = 4 := by omega
      have cv := cell_blk hv 0 rfl
      have c0 := cell_blk hr 0 rfl
      have f0 := free_blk hr 0
      have ho2 := own_beside (m := w.heap.size) (k := 0) ho (by omega) (.slice (some ⟨g, 0, none⟩) 16 16)
      have q0 : (wr.setCell ⟨w.heap.size, 0, none⟩ (.slice (some ⟨g, 0, none⟩) 16 16)).cell? ⟨w.heap.size, 0, none⟩ = some (.slice (some ⟨g, 0, none⟩) 16 16) := World.cell?_setCell_same _ _ _ c0
      go_wp2_with fail
      refine bodyPost_ret (v := .agg #[.slice (some ⟨g, 0, none⟩) 16 16]) ?_ rfl ⟨g, xs, rfl, hx, hX, ho2.mono (by omega), (hSr.set (by omega) _).mono (by omega), gr_put hGr (Nat.le_refl _) _ _⟩
      simp [results, Try.results24, go_sem, q0]

end Go.Proofs.Ytfjekbfejbgneaa
