/- Drawn vectors: what l02New, the source's vector and its oddVector do. -/
import Derived.Deep.RegionHeld3
import Derived.Test.YtocffojhhjdeoaaGreatQSrcOdd
import Derived.Test.YtocffojhhjdeoaaGreatQInfoToSignSpec
import Derived.Test.YtocffojhhjdeoaaGreatQVecArrToVecJoins
namespace Go.Proofs.YtocffojhhjdeoaaGreat
open Go.RowKit
set_option linter.unusedVariables false

/-- What a drawn count may be. -/
def Sml (B : Int) (xs : List Int) : Prop := ∀ x ∈ xs, -1 ≤ x ∧ x ≤ B
theorem Sml.set {B : Int} {xs : List Int} (h : Sml B xs) (k : Nat) {x : Int} (h0 : -1 ≤ x) (h1 : x ≤ B) : Sml B (xs.set k x) := by
  intro y hy
  rcases List.mem_or_eq_of_mem_set hy with hy | rfl
  · exact h y hy
  · exact ⟨h0, h1⟩
theorem Sml.take {B : Int} {xs : List Int} (h : Sml B xs) (n : Nat) : Sml B (xs.take n) := fun x hx => h x (List.mem_of_mem_take hx)
theorem map_set_int (xs : List Int) (k : Nat) (x : Int) : (xs.map (Value.int .i64)).set k (.int .i64 x) = (xs.set k x).map (Value.int .i64) := by rw [List.map_set]
/-- A row of the call's own beside a store elsewhere. -/
theorem own_beside {e : TypeId} {w : World} {B g n cap m k : Nat} {cs : List Value} (h : Own e w B (.slice (some ⟨g, 0, none⟩) n cap) cs) (hn : g ≠ m) (u : Value) : Own e (w.setCell ⟨m, k, none⟩ u) B (.slice (some ⟨g, 0, none⟩) n cap) cs := by
  obtain ⟨h1, h2⟩ := h
  refine ⟨h1, ?_⟩
  rcases h2 with h2 | ⟨g', cap', cur, hv, hb, hh, r⟩
  · exact .inl h2
  · refine .inr ⟨g', cap', cur, hv, hb, ?_, r⟩
    simp only [Value.slice.injEq, Option.some.injEq, Addr.mk.injEq, and_true] at hv
    obtain ⟨rfl, _⟩ := hv
    rw [heap_setCell_other w ⟨m, k, none⟩ g u hn]
    exact hh
theorem blk_beside {w : World} {g m k : Nat} {o : Obj} (h : w.heap[g]? = some o) (hn : g ≠ m) (u : Value) : (w.setCell ⟨m, k, none⟩ u).heap[g]? = some o := by
  rw [heap_setCell_other w ⟨m, k, none⟩ g u hn]
  exact h

set_option maxHeartbeats 1000000 in
set_option maxRecDepth 100000 in
theorem l02New_any (w : World) : Calls Tryz.prog 54 #[] w fun e w' => ∃ g, e = .returned (.agg #[.slice (some ⟨g, 0, none⟩) 16 16]) ∧ Own 3 w' w.heap.size (.slice (some ⟨g, 0, none⟩) 16 16) ((List.replicate 16 0).map (Value.int .i64)) ∧ Below w.heap.size w w' := by
  obtain ⟨i0, hi, hz0, hz1, hz2⟩ := info_parts info3
  go_enter Tryz.func54, Tryz.ntmps54
  go_wp2_with (at_make; refine wpList_make_full _ rfl _ _ 31 rfl (w.heap.size + 1) 3 i0 (.int .i64 0) 1 Tryz.underlying31 hi hz0 hz1 _ _ _ _ 16 rfl rfl rfl rfl (by rw [hz2]; omega) (by unfold maxLen; omega) (by simp) ?_)
  intro w1 hown hgrow
  have ho1 := own_of hown
  rw [toList_madeCells_one] at ho1
  have hk := (hgrow.block w.heap.size (by simp) (by simp)).trans (heap_alloc_new w _)
  have c0 := cell_blk hk 0 rfl
  have f0 := free_blk hk 0
  have hb1 : Below w.heap.size w w1 := (below_alloc w _).grown hgrow (by simp) (fun k hk => by cases hk)
  have ho2 := own_beside (m := w.heap.size) (k := 0) ho1 (by omega) (.slice (some ⟨w.heap.size + 1, 0, none⟩) 16 16)
  have hb2 := hb1.setCell (p := ⟨w.heap.size, 0, none⟩) (Nat.le_refl _) (.slice (some ⟨w.heap.size + 1, 0, none⟩) 16 16)
  have q0 : (w1.setCell ⟨w.heap.size, 0, none⟩ (.slice (some ⟨w.heap.size + 1, 0, none⟩) 16 16)).cell? ⟨w.heap.size, 0, none⟩ = some (.slice (some ⟨w.heap.size + 1, 0, none⟩) 16 16) := World.cell?_setCell_same _ _ _ c0
  clear hown hgrow ho1
  go_wp2_with fail
  refine bodyPost_ret (v := .agg #[.slice (some ⟨w.heap.size + 1, 0, none⟩) 16 16]) ?_ rfl ⟨_, rfl, ho2.mono (by omega), hb2⟩
  simp [results, Tryz.results54, go_sem, q0]

end Go.Proofs.YtocffojhhjdeoaaGreat
