/- Drawn stamps that may not be valid. -/
import Derived.Deep.RegionHeld3
import Derived.Test.YtpiadcjkbbgggaaQSrcToSrcMore
namespace Go.Proofs.Ytpiadcjkbbgggaa
open Go.RowKit
set_option linter.unusedVariables false

theorem blk_al {w : World} {g : Nat} {o : Obj} (h : w.heap[g]? = some o) (o' : Obj) : (w.alloc o').heap[g]? = some o := by
  rw [Below.heap_alloc w o' g (Array.getElem?_eq_some_iff.1 h).1]
  exact h
theorem keep_c {w w1 : World} {g k b : Nat} {v : Value} (h : w.cell? ⟨g, k, none⟩ = some v) (hg : w.grownBy w1 (some b)) (hn : g ≠ b) : w1.cell? ⟨g, k, none⟩ = some v := hg.cell (a := ⟨g, k, none⟩) h (fun e => hn (by simpa using e))
theorem gr_undrew {w w1 : World} {row : Option Nat} (h : w.drew.grownBy w1 row) : w.grownBy w1 row := ⟨h.os, h.tape, h.output, h.size, h.block⟩
theorem gr_drew {w w1 : World} {row : Option Nat} (h : w.grownBy w1 row) : w.grownBy w1.drew row := ⟨h.os, h.tape, h.output, h.size, h.block⟩
theorem Src.allocD {C : Nat} {w : World} {b A : Nat} (h : Src C w b A) (o : Obj) : Src C (w.alloc o).drew b A := h.alloc o
theorem lit3 (n : Nat) (h : n < 3) : ∃ x : Int, (#[.int .i64 (-1), .int .i64 16, .int .i64 15] : Array Value)[n]? = some (.int .i64 x) := by
  match n, h with
  | 0, _ => exact ⟨_, rfl⟩
  | 1, _ => exact ⟨_, rfl⟩
  | 2, _ => exact ⟨_, rfl⟩
theorem lit4 (n : Nat) (h : n < 4) : ∃ x : Int, (#[.int .i64 0, .int .i64 (-1), .int .i64 1000000000000, .int .i64 1000000000001] : Array Value)[n]? = some (.int .i64 x) := by
  match n, h with
  | 0, _ => exact ⟨_, rfl⟩
  | 1, _ => exact ⟨_, rfl⟩
  | 2, _ => exact ⟨_, rfl⟩
  | 3, _ => exact ⟨_, rfl⟩
theorem res2 {w : World} {n : Nat} {x y : Value} (c0 : w.cell? ⟨n, 0, none⟩ = some x) (c1 : w.cell? ⟨n, 1, none⟩ = some y) (u v : Value) :
    ((w.setCell ⟨n, 0, none⟩ u).setCell ⟨n, 1, none⟩ v).cell? ⟨n, 0, none⟩ = some u ∧ ((w.setCell ⟨n, 0, none⟩ u).setCell ⟨n, 1, none⟩ v).cell? ⟨n, 1, none⟩ = some v :=
  ⟨(World.cell?_setCells_out n [v] 1 _ _ (fun _ => by simp)).trans (World.cell?_setCell_same _ _ _ c0), World.cell?_setCell_same _ _ _ ((World.cell?_setCells_out n [u] 0 _ _ (fun _ => by simp)).trans c1)⟩

end Go.Proofs.Ytpiadcjkbbgggaa
