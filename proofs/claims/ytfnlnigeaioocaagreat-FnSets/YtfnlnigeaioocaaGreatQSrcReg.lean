/- Drawn registers. -/
import Derived.Test.YtfnlnigeaioocaaGreatQSrcOdd
import Derived.Test.YtfnlnigeaioocaaGreatQWordOKsToRegGreater
import Derived.Test.YtfnlnigeaioocaaGreatQInfoToTrBase
namespace Go.Proofs.YtfnlnigeaioocaaGreat
open Go.RowKit
set_option linter.unusedVariables false

theorem Src.grown {C : Nat} {w w' : World} {b A : Nat} (h : Src C w b A) (hg : w.grownBy w' none) : Src C w' b A := by
  obtain ⟨v, xs, p, q, h1, h2, h3, h4⟩ := h
  refine ⟨v, xs, p, q, ?_, h2, h3.grown hg (fun k hk => by cases hk), h4⟩
  unfold Sr
  rw [hg.block b h1.lt (by simp)]
  exact h1
theorem tr_of {w : World} {g : Nat} {x y z : Value} {T : TypeId} (h : w.heap[g]? = some (.cells #[x, y, z] T (0, 0))) : Tr w g x y z := ⟨⟨cell_blk h 0 rfl, cell_blk h 1 rfl, cell_blk h 2 rfl⟩, free_blk h⟩
theorem gr_none {w w1 : World} {row : Option Nat} (h : w.grownBy w1 none) : w.grownBy w1 row := ⟨h.os, h.tape, h.output, h.size, fun i hi _ => h.block i hi (by simp)⟩
theorem gr_put3 {w w1 : World} {row : Option Nat} {n : Nat} (h : w.grownBy w1 row) (hn : w.heap.size ≤ n) (x y z : Value) : w.grownBy (((w1.setCell ⟨n, 0, none⟩ x).setCell ⟨n, 1, none⟩ y).setCell ⟨n, 2, none⟩ z) row := gr_put (gr_put (gr_put h hn _ _) hn _ _) hn _ _
theorem Src.set3 {C : Nat} {w : World} {b A n : Nat} (h : Src C w b A) (hn : b < n) (x y z : Value) : Src C (((w.setCell ⟨n, 0, none⟩ x).setCell ⟨n, 1, none⟩ y).setCell ⟨n, 2, none⟩ z) b A := ((h.set hn x).set hn y).set hn z
theorem tr_aside {w : World} {n m : Nat} {x y z : Value} (h : Tr w n x y z) (hn : n ≠ m) (p q r : Value) : Tr (((w.setCell ⟨m, 0, none⟩ p).setCell ⟨m, 1, none⟩ q).setCell ⟨m, 2, none⟩ r) n x y z := by
  have o : ∀ (w : World) (i j : Nat) (u : Value), (w.setCell ⟨m, j, none⟩ u).cell? ⟨n, i, none⟩ = w.cell? ⟨n, i, none⟩ := fun w i j u => World.cell?_setCells_out m [u] j w _ (fun e => absurd e hn)
  refine ⟨⟨?_, ?_, ?_⟩, fun k => ?_⟩
  · rw [o, o, o]; exact h.1.1
  · rw [o, o, o]; exact h.1.2.1
  · rw [o, o, o]; exact h.1.2.2
  · exact ((World.frozen?_setCells m [r] 2 _ _).trans ((World.frozen?_setCells m [q] 1 _ _).trans (World.frozen?_setCells m [p] 0 _ _))).trans (h.2 k)
theorem ofInts_size (xs : List Int) : (ofInts xs).size = xs.length := by simp [ofInts, ByteArray.size]

end Go.Proofs.YtfnlnigeaioocaaGreat
