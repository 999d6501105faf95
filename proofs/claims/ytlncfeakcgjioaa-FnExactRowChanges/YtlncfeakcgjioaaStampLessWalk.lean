/- What the two functions StampLess do, and the walk of the law over both: it answers true at every two stamps. -/
import Derived.Test.YtlncfeakcgjioaaStampBase
import Derived.Deep.RegionHeld2
namespace Go.Proofs.Ytlncfeakcgjioaa
open Go.RowKit
set_option linter.unusedVariables false

/-- How two numbers stand to one another; and two stamps. -/
def cmpI (x y : Int) : Int := if x < y then -1 else if y < x then 1 else 0
def orI (x y : Int) : Int := if x = 0 then y else x
def cmpS (t a t' a' : Int) : Int := orI (cmpI t t') (cmpI a a')
theorem orI_not {x y : Int} (h : ¬ x = 0) : orI x y = x := if_neg h
theorem orI_zero {y : Int} : orI 0 y = y := rfl
def lessS (t a t' a' : Int) : Bool := decide (t < t' ∨ t = t' ∧ a < a')
theorem cmpI_bd (x y : Int) : -1 ≤ cmpI x y ∧ cmpI x y ≤ 1 := by unfold cmpI; split <;> (try split) <;> omega
theorem cmpI_neg (x y : Int) : cmpI x y < 0 ↔ x < y := by unfold cmpI; split <;> (try split) <;> omega
theorem cmpI_zero (x y : Int) : cmpI x y = 0 ↔ x = y := by unfold cmpI; split <;> (try split) <;> omega
theorem cmpS_less (t a t' a' : Int) : decide (cmpS t a t' a' < 0) = lessS t a t' a' := by
  unfold lessS cmpS orI
  apply decide_eq_decide.2
  split
  · rename_i h
    rw [cmpI_neg]
    have := (cmpI_zero t t').1 h
    omega
  · rename_i h
    rw [cmpI_neg]
    have := mt (cmpI_zero t t').2 h
    omega

theorem two_made (w : World) (o : Obj) (x y z u : Value) (T T' : TypeId) : (((w.alloc o).alloc (.cells #[x, y] T)).alloc (.cells #[z, u] T')).cell? ⟨w.heap.size + 1, 0, none⟩ = some x ∧ (((w.alloc o).alloc (.cells #[x, y] T)).alloc (.cells #[z, u] T')).cell? ⟨w.heap.size + 1, 1, none⟩ = some y ∧
    (((w.alloc o).alloc (.cells #[x, y] T)).alloc (.cells #[z, u] T')).cell? ⟨w.heap.size + 1 + 1, 0, none⟩ = some z ∧ (((w.alloc o).alloc (.cells #[x, y] T)).alloc (.cells #[z, u] T')).cell? ⟨w.heap.size + 1 + 1, 1, none⟩ = some u := by
  refine ⟨?_, ?_, ?_, ?_⟩
  · rw [World.cell?_alloc_past _ _ _ (by simp), World.cell?_alloc_at _ _ _ _ (by simp)]; rfl
  · rw [World.cell?_alloc_past _ _ _ (by simp), World.cell?_alloc_at _ _ _ _ (by simp)]; rfl
  · rw [World.cell?_alloc_at _ _ _ _ (by simp)]; rfl
  · rw [World.cell?_alloc_at _ _ _ _ (by simp)]; rfl

theorem keep_four {w : World} {a b c d : Addr} {x y z u : Value} (h : w.cell? a = some x ∧ w.cell? b = some y ∧ w.cell? c = some z ∧ w.cell? d = some u) (o : Obj) : (w.alloc o).cell? a = some x ∧ (w.alloc o).cell? b = some y ∧ (w.alloc o).cell? c = some z ∧ (w.alloc o).cell? d = some u :=
  ⟨alloc_keep h.1 o, alloc_keep h.2.1 o, alloc_keep h.2.2.1 o, alloc_keep h.2.2.2 o⟩

theorem last_made (w : World) (x y : Value) (T : TypeId) (n : Nat) (hn : n = w.heap.size) : (w.alloc (.cells #[x, y] T)).drew.cell? ⟨n, 0, none⟩ = some x ∧ (w.alloc (.cells #[x, y] T)).drew.cell? ⟨n, 1, none⟩ = some y := by
  constructor
  · show (w.alloc (.cells #[x, y] T)).cell? ⟨n, 0, none⟩ = some x
    rw [World.cell?_alloc_at _ _ _ _ hn]; rfl
  · show (w.alloc (.cells #[x, y] T)).cell? ⟨n, 1, none⟩ = some y
    rw [World.cell?_alloc_at _ _ _ _ hn]; rfl

theorem four_there {w w1 : World} {x y z u : Value} {T T' : TypeId} (h : Below ((w.alloc (.cells #[x, y] T)).alloc (.cells #[z, u] T')).heap.size ((w.alloc (.cells #[x, y] T)).alloc (.cells #[z, u] T')) w1) :
    w1.cell? ⟨w.heap.size, 0, none⟩ = some x ∧ w1.cell? ⟨w.heap.size, 1, none⟩ = some y ∧ w1.cell? ⟨w.heap.size + 1, 0, none⟩ = some z ∧ w1.cell? ⟨w.heap.size + 1, 1, none⟩ = some u := by
  refine ⟨?_, ?_, ?_, ?_⟩
  · rw [h.cell (p := ⟨w.heap.size, 0, none⟩) (by simp; omega), World.cell?_alloc_past _ _ _ (by simp), World.cell?_alloc_at _ _ _ _ rfl]; rfl
  · rw [h.cell (p := ⟨w.heap.size, 1, none⟩) (by simp; omega), World.cell?_alloc_past _ _ _ (by simp), World.cell?_alloc_at _ _ _ _ rfl]; rfl
  · rw [h.cell (p := ⟨w.heap.size + 1, 0, none⟩) (by simp), World.cell?_alloc_at _ _ _ _ (by simp)]; rfl
  · rw [h.cell (p := ⟨w.heap.size + 1, 1, none⟩) (by simp), World.cell?_alloc_at _ _ _ _ (by simp)]; rfl

end Go.Proofs.Ytlncfeakcgjioaa
