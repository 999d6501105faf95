/- Drawn words and stamps. -/
import Derived.Test.YtnomplfnblmciaaSrc
namespace Go.Proofs.Ytnomplfnblmciaa
open Go.RowKit
set_option linter.unusedVariables false

theorem cell_blk {w : World} {g : Nat} {cs : Array Value} {T : TypeId} (h : w.heap[g]? = some (.cells cs T (0, 0))) (k : Nat) {v : Value} (hk : cs[k]? = some v) : w.cell? ⟨g, k, none⟩ = some v := by
  unfold World.cell?
  rw [show w.heap[(⟨g, k, none⟩ : Addr).block]? = some (.cells cs T (0, 0)) from h]
  exact hk
theorem free_blk {w : World} {g : Nat} {cs : Array Value} {T : TypeId} (h : w.heap[g]? = some (.cells cs T (0, 0))) (k : Nat) : w.frozen? ⟨g, k, none⟩ = false := by
  unfold World.frozen?
  rw [show w.heap[(⟨g, k, none⟩ : Addr).block]? = some (.cells cs T (0, 0)) from h]
  simp
/-- A new block behind what a source does meanwhile. -/
theorem blk_kept {w w1 : World} {o : Obj} {b : Nat} (hb : b < w.heap.size) (hg : (w.alloc o).grownBy w1 (some b)) : w1.heap[w.heap.size]? = some o := by
  rw [hg.block w.heap.size (by simp) (by simp; omega)]
  exact heap_alloc_new w o
theorem blk_on {w w1 : World} {g b : Nat} {o : Obj} (h : w.heap[g]? = some o) (hg : w.grownBy w1 (some b)) (hn : g ≠ b) : w1.heap[g]? = some o := by
  rw [hg.block g (Array.getElem?_eq_some_iff.1 h).1 (by simp; omega)]
  exact h
theorem gr_put {w w1 : World} {row : Option Nat} {n : Nat} (h : w.grownBy w1 row) (hn : w.heap.size ≤ n) (k : Nat) (u : Value) : w.grownBy (w1.setCell ⟨n, k, none⟩ u) row :=
  ⟨h.os, h.tape, h.output, by simpa using h.size, fun i hi hr => (heap_setCell_other w1 ⟨n, k, none⟩ i u (by show i ≠ n; omega)).trans (h.block i hi hr)⟩
theorem gr_alloc {w w1 : World} {row : Option Nat} (h : w.grownBy w1 row) (o : Obj) : w.grownBy (w1.alloc o) row := grownBy_trans h (World.grownBy_alloc w1 o row)

set_option maxHeartbeats 1000000 in
set_option maxRecDepth 100000 in
theorem word_any (C b A : Nat) (w : World) (h : Src C w b A) (hA : A ≤ 800000000) :
    Calls Try.prog 27 #[.pointer (some ⟨b, 0, none⟩)] w fun e w' => ∃ s : ByteArray, e = .returned (.string s) ∧ s.size ≤ 5 ∧ Src C w' b (A + 3) ∧ w.grownBy w' (some b) := by
  have hlt := h.lt
  go_enter Try.func27, Try.ntmps27
  go_wp2_with fail
  refine (srcNext_any C b A 10 _ (h.alloc _) (by omega) (by omega) (by omega)).mono ?_
  rintro e w1 ⟨r, rfl, hr0, hr1, hS, hG⟩
  have hk := blk_kept hlt hG
  have hG0 := grownBy_trans (World.grownBy_alloc w _ (some b)) hG
  have c0 := cell_blk hk 0 rfl
  have c1 := cell_blk hk 1 rfl
  have c2 := cell_blk hk 2 rfl
  have c3 := cell_blk hk 3 rfl
  have c4 := cell_blk hk 4 rfl
  have c5 := cell_blk hk 5 rfl
  have c6 := cell_blk hk 6 rfl
  have c7 := cell_blk hk 7 rfl
  have c8 := cell_blk hk 8 rfl
  have c9 := cell_blk hk 9 rfl
  have hcs : r = 0 ∨ r = 1 ∨ r = 2 ∨ r = 3 ∨ r = 4 ∨ r = 5 ∨ r = 6 ∨ r = 7 ∨ r = 8 ∨ r = 9 := by omega
  clear hk hG hr0 hr1
  rcases hcs with rfl | rfl | rfl | rfl | rfl | rfl | rfl | rfl | rfl | rfl
  all_goals
    go_wp2_with fail
    go_ret
    exact ⟨_, rfl, by decide, hS, hG0⟩

end Go.Proofs.Ytnomplfnblmciaa
