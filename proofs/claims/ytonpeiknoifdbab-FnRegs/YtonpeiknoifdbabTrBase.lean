/- A block of three cells that can be written: plain facts. -/
import Derived.Test.YtonpeiknoifdbabStampBase
namespace Go.Proofs.Ytonpeiknoifdbab
open Go.RowKit
set_option linter.unusedVariables false

/-- A block of three cells that can be written. -/
def Tr (w : World) (n : Nat) (x y z : Value) : Prop := (w.cell? ⟨n, 0, none⟩ = some x ∧ w.cell? ⟨n, 1, none⟩ = some y ∧ w.cell? ⟨n, 2, none⟩ = some z) ∧ ∀ k, w.frozen? ⟨n, k, none⟩ = false
theorem Tr.put {w : World} {n : Nat} {x y z : Value} (h : Tr w n x y z) (x' y' z' : Value) : Tr (((w.setCell ⟨n, 0, none⟩ x').setCell ⟨n, 1, none⟩ y').setCell ⟨n, 2, none⟩ z') n x' y' z' := by
  obtain ⟨⟨h0, h1, h2⟩, hf⟩ := h
  have o : ∀ (w : World) (i j : Nat) (u : Value), i ≠ j → (w.setCell ⟨n, j, none⟩ u).cell? ⟨n, i, none⟩ = w.cell? ⟨n, i, none⟩ := fun w i j u hij => World.cell?_setCells_out n [u] j w _ (fun _ => by simp; omega)
  refine ⟨⟨?_, ?_, ?_⟩, fun k => ?_⟩
  · rw [o _ 0 2 _ (by decide), o _ 0 1 _ (by decide)]; exact World.cell?_setCell_same _ _ _ h0
  · rw [o _ 1 2 _ (by decide)]; exact World.cell?_setCell_same _ _ _ ((o _ 1 0 _ (by decide)).trans h1)
  · exact World.cell?_setCell_same _ _ _ (((o _ 2 1 _ (by decide)).trans (o _ 2 0 _ (by decide))).trans h2)
  · exact ((World.frozen?_setCells n [z'] 2 _ _).trans ((World.frozen?_setCells n [y'] 1 _ _).trans (World.frozen?_setCells n [x'] 0 _ _))).trans (hf k)
theorem below_put {B : Nat} {w w1 : World} {n : Nat} (h : Below B w w1) (hn : B ≤ n) (x y z : Value) : Below B w (((w1.setCell ⟨n, 0, none⟩ x).setCell ⟨n, 1, none⟩ y).setCell ⟨n, 2, none⟩ z) :=
  ((h.setCell (p := ⟨n, 0, none⟩) hn _).setCell (p := ⟨n, 1, none⟩) hn _).setCell (p := ⟨n, 2, none⟩) hn _
theorem Tr.beside {w : World} {n m : Nat} {x y z : Value} (h : Tr w n x y z) (hn : n ≠ m) (p q r : Value) : Tr (((w.setCell ⟨m, 0, none⟩ p).setCell ⟨m, 1, none⟩ q).setCell ⟨m, 2, none⟩ r) n x y z := by
  have o : ∀ (w : World) (i j : Nat) (u : Value), (w.setCell ⟨m, j, none⟩ u).cell? ⟨n, i, none⟩ = w.cell? ⟨n, i, none⟩ := fun w i j u => World.cell?_setCells_out m [u] j w _ (fun e => absurd e hn)
  refine ⟨⟨?_, ?_, ?_⟩, fun k => ?_⟩
  · rw [o, o, o]; exact h.1.1
  · rw [o, o, o]; exact h.1.2.1
  · rw [o, o, o]; exact h.1.2.2
  · exact ((World.frozen?_setCells m [r] 2 _ _).trans ((World.frozen?_setCells m [q] 1 _ _).trans (World.frozen?_setCells m [p] 0 _ _))).trans (h.2 k)

end Go.Proofs.Ytonpeiknoifdbab
