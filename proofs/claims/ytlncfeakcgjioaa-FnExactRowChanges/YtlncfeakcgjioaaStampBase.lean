/- Stamps: plain facts, and what toStamp does. -/
import Derived.Test.YtlncfeakcgjioaaInfo
namespace Go.Proofs.Ytlncfeakcgjioaa
open Go.RowKit
set_option linter.unusedVariables false

theorem below_alloc (w : World) (o : Obj) : Below w.heap.size w (w.alloc o) := (Below.refl _ _).alloc (Nat.le_refl _) _
theorem below_then {w w1 : World} (h : Below w.heap.size w w1) (o : Obj) : Below w.heap.size w (w1.alloc o) := h.alloc h.size o
theorem below_seq {w w1 w2 : World} (h : Below w.heap.size w w1) (k : Below w1.heap.size w1 w2) : Below w.heap.size w w2 := h.trans (k.mono h.size)

/-- A new block's cells, there behind whatever leaves it as it is. -/
theorem cell_made {w w1 : World} {cs : Array Value} {T : TypeId} (h : Below (w.alloc (.cells cs T)).heap.size (w.alloc (.cells cs T)) w1) {k : Nat} {v : Value} (hk : cs[k]? = some v) : w1.cell? ⟨w.heap.size, k, none⟩ = some v := by
  rw [h.cell (p := ⟨w.heap.size, k, none⟩) (by simp)]
  unfold World.cell?
  rw [show (w.alloc (.cells cs T)).heap[(⟨w.heap.size, k, none⟩ : Addr).block]? = some (.cells cs T (0, 0)) from heap_alloc_new w _]
  exact hk

theorem cell_made1 {w w1 : World} {v : Value} {T : TypeId} (h : Below (w.alloc (.cells #[v] T)).heap.size (w.alloc (.cells #[v] T)) w1) : w1.cell? ⟨w.heap.size, 0, none⟩ = some v := cell_made h (k := 0) rfl
theorem alloc_keep {w : World} {a : Addr} {v : Value} (h : w.cell? a = some v) (o : Obj) : (w.alloc o).cell? a = some v := by
  rw [World.cell?_alloc_lt]
  · exact h
  · unfold World.cell? at h
    split at h
    · rename_i hb
      exact (Array.getElem?_eq_some_iff.1 hb).1
    all_goals simp at h
theorem old_le {w w1 : World} {o : Obj} (h : Below (w.alloc o).heap.size (w.alloc o) w1) : w.heap.size ≤ w1.heap.size := by
  have := h.size
  rw [World.size_alloc] at this
  omega
theorem frozen_made {w w1 : World} {cs : Array Value} {T : TypeId} (h : Below (w.alloc (.cells cs T)).heap.size (w.alloc (.cells cs T)) w1) (k : Nat) : w1.frozen? ⟨w.heap.size, k, none⟩ = false := by
  rw [h.frozen (p := ⟨w.heap.size, k, none⟩) (by simp)]
  unfold World.frozen?
  rw [show (w.alloc (.cells cs T)).heap[(⟨w.heap.size, k, none⟩ : Addr).block]? = some (.cells cs T (0, 0)) from heap_alloc_new w _]
  simp

/-- A stamp is valid. -/
def stOK (t a : Int) : Bool := decide (1 ≤ t ∧ t ≤ 1000000000000 ∧ 0 ≤ a ∧ a < 16)
theorem stOK_yes {t a : Int} (h1 : 1 ≤ t) (h2 : t ≤ 1000000000000) (h3 : 0 ≤ a) (h4 : a < 16) : stOK t a = true := decide_eq_true ⟨h1, h2, h3, h4⟩
theorem stOK_no {t a : Int} (h : ¬ (1 ≤ t ∧ t ≤ 1000000000000 ∧ 0 ≤ a ∧ a < 16)) : stOK t a = false := decide_eq_false h

end Go.Proofs.Ytlncfeakcgjioaa
