/- Counters: what the laws' own helpers do with them. -/
import Derived.Test.YtonpeiknoifdbabVecMarks
namespace Go.Proofs.Ytonpeiknoifdbab
open Go.RowKit
set_option linter.unusedVariables false

theorem two_cells {w w1 : World} {x y : Value} {T : TypeId} (h : Below (w.alloc (.cells #[x, y] T)).heap.size (w.alloc (.cells #[x, y] T)) w1) :
    w1.cell? ⟨w.heap.size, 0, none⟩ = some x ∧ w1.cell? ⟨w.heap.size, 1, none⟩ = some y :=
  ⟨cell_made h (k := 0) rfl, cell_made h (k := 1) rfl⟩

/-- What is left of l behind two lengths; -1 if they are more. -/
def left2 (l m n : Nat) : Int := if m ≤ l then (if n ≤ l - m then ((l - m - n : Nat) : Int) else -1) else -1

/-- A block of two cells that can be written. -/
def Dy (w : World) (n : Nat) (x y : Value) : Prop := (w.cell? ⟨n, 0, none⟩ = some x ∧ w.cell? ⟨n, 1, none⟩ = some y) ∧ ∀ k, w.frozen? ⟨n, k, none⟩ = false
theorem Dy.lt {w : World} {n : Nat} {x y : Value} (h : Dy w n x y) : n < w.heap.size := cell_ltV h.1.1
theorem Dy.on {w w1 : World} {n : Nat} {x y : Value} (h : Dy w n x y) (hb : Below w.heap.size w w1) : Dy w1 n x y :=
  ⟨⟨(hb.cell (p := ⟨n, 0, none⟩) h.lt).trans h.1.1, (hb.cell (p := ⟨n, 1, none⟩) h.lt).trans h.1.2⟩, fun k => (hb.frozen (p := ⟨n, k, none⟩) h.lt).trans (h.2 k)⟩
theorem Dy.made (w : World) (x y : Value) (T : TypeId) : Dy (w.alloc (.cells #[x, y] T)) w.heap.size x y := ⟨two_cells (Below.refl _ _), frozen_made (Below.refl _ _)⟩
theorem Dy.set0 {w : World} {n : Nat} {x y : Value} (h : Dy w n x y) (x' : Value) : Dy (w.setCell ⟨n, 0, none⟩ x') n x' y :=
  ⟨⟨World.cell?_setCell_same _ _ _ h.1.1, (World.cell?_setCells_out n [x'] 0 w _ (fun _ => by simp)).trans h.1.2⟩, fun k => (World.frozen?_setCells n [x'] 0 w _).trans (h.2 k)⟩
theorem Dy.set1 {w : World} {n : Nat} {x y : Value} (h : Dy w n x y) (y' : Value) : Dy (w.setCell ⟨n, 1, none⟩ y') n x y' :=
  ⟨⟨(World.cell?_setCells_out n [y'] 1 w _ (fun _ => by simp)).trans h.1.1, World.cell?_setCell_same _ _ _ h.1.2⟩, fun k => (World.frozen?_setCells n [y'] 1 w _).trans (h.2 k)⟩
theorem Dy.aside {w : World} {n m : Nat} {x y : Value} (h : Dy w n x y) (hn : n ≠ m) (j : Nat) (u : Value) : Dy (w.setCell ⟨m, j, none⟩ u) n x y :=
  ⟨⟨(World.cell?_setCells_out m [u] j w _ (fun e => absurd e hn)).trans h.1.1, (World.cell?_setCells_out m [u] j w _ (fun e => absurd e hn)).trans h.1.2⟩, fun k => (World.frozen?_setCells m [u] j w _).trans (h.2 k)⟩

/-- Two rows that are not the same block. -/
def Apart (u v : Value) : Prop := ∀ i j, u.ownBlock = some i → v.ownBlock = some j → i ≠ j
theorem Own.setK {e : TypeId} {w : World} {B P : Nat} {v : Value} {cs : List Value} (h : Own e w B v cs) (k : Nat) (u : Value) (hp : P < B) : Own e (w.setCell ⟨P, k, none⟩ u) B v cs := h.apart (grownBy_set w P k u) (fun k hk => by cases hk; exact hp)

end Go.Proofs.Ytonpeiknoifdbab
