/- A row of stamps that is being sorted: its elements, and what an exchange of two of them does. -/
import Derived.Sort.Defs
import Derived.Deep.RegionHeld2
import Derived.Deep.CutRange
import Derived.Test.YtfnlnigeaioocaaGreatQSeqAppToSortedKeys
namespace Go.Proofs.YtfnlnigeaioocaaGreat
open Go.RowKit
open Go.Sort (swp insInner insOuter insertionSort)
set_option linter.unusedVariables false

/-- The order of stamps, as the sort takes it. -/
def ltS (x y : Sp) : Bool := lessS x.1 x.2 y.1 y.2
/-- The row in block g holds d; all else that lay in W0 is as it was. -/
structure Sw (W0 : World) (B g cap : Nat) (d : Array Sp) (w : World) : Prop where
  own : OwnS w B (.slice (some ⟨g, 0, none⟩) d.size cap) d.toList
  gr : W0.grownBy w (some g)
theorem sp_at {d : Array Sp} {i : Nat} (h : i < d.size) : d.toList[i]'(by simpa using h) = d[i]! := by simp [getElem!_pos d i h]
theorem Sw.at {W0 w : World} {B g cap : Nat} {d : Array Sp} (h : Sw W0 B g cap d w) {i : Nat} (hi : i < d.size) : w.cell? ⟨g, i * 2, none⟩ = some (.int .i64 d[i]!.1) ∧ w.cell? ⟨g, i * 2 + 1, none⟩ = some (.int .i64 d[i]!.2) := by
  have := h.own.cells (by simp) (k := i) (by simpa using hi)
  rwa [sp_at hi] at this
theorem Sw.free {W0 w : World} {B g cap : Nat} {d : Array Sp} (h : Sw W0 B g cap d w) (k : Nat) : w.frozen? ⟨g, k, none⟩ = false := by
  have : OwnS w B (.slice (some ⟨g, 0, none⟩) d.toList.length cap) d.toList := by simpa using h.own
  exact World.ownsRow.frozenAt this k
theorem Sw.lt {W0 w : World} {B g cap : Nat} {d : Array Sp} (h : Sw W0 B g cap d w) : g < w.heap.size := (h.own.lt g rfl).2
theorem Sw.on {W0 w w' : World} {B g cap : Nat} {d : Array Sp} (h : Sw W0 B g cap d w) (hb : Below w.heap.size w w') : Sw W0 B g cap d w' := by
  refine ⟨?_, grownBy_trans h.gr (grownBy_below hb (Nat.le_refl _) _)⟩
  obtain ⟨k1, k2⟩ := h.own
  refine ⟨k1, ?_⟩
  rcases k2 with k2 | ⟨g', cap', cur, hv, hg, hh, r⟩
  · exact .inl k2
  · exact .inr ⟨g', cap', cur, hv, hg, (hb.block g' (Array.getElem?_eq_some_iff.1 hh).1).trans hh, r⟩
theorem Sw.drew {W0 w : World} {B g cap : Nat} {d : Array Sp} (h : Sw W0 B g cap d w) : Sw W0 B g cap d w.drew := h.on (show Below _ w w.drew from (Below.refl _ w).drew)
theorem spCs_set {ss : List Sp} {i : Nat} (hi : i < ss.length) (x : Sp) : spCs (ss.set i x) = ((spCs ss).set (i * 2) (.int .i64 x.1)).set (i * 2 + 1) (.int .i64 x.2) := by
  induction ss generalizing i with
  | nil => simp at hi
  | cons e ls ih =>
    cases i with
    | zero => simp [spCs, spC]
    | succ i =>
      have := ih (i := i) (by simpa using hi)
      have e0 : (i + 1) * 2 = i * 2 + 1 + 1 := by omega
      rw [e0]
      simpa [spCs, spC] using this
theorem Sw.put {W0 w : World} {B g cap : Nat} {d : Array Sp} (h : Sw W0 B g cap d w) {i : Nat} (hi : i < d.size) (x : Sp) : Sw W0 B g cap (d.setIfInBounds i x) ((w.setCell ⟨g, i * 2, none⟩ (.int .i64 x.1)).setCell ⟨g, i * 2 + 1, none⟩ (.int .i64 x.2)) := by
  refine ⟨?_, grownBy_trans (grownBy_trans h.gr (grownBy_set w g (i * 2) _)) (grownBy_set _ g (i * 2 + 1) _)⟩
  have ho : w.ownsRow B 56 2 (.slice (some ⟨g, 0, none⟩) d.size cap) d.toList.length (spCs d.toList) := h.own
  rw [show d.toList.length = d.size by simp] at ho
  have h2 := (World.ownsRow.stored (World.ownsRow.stored ho (i * 2) (.int .i64 x.1)).1 (i * 2 + 1) (.int .i64 x.2)).1
  unfold OwnS
  rw [Array.toList_setIfInBounds, spCs_set (by simpa using hi), List.length_set, show d.toList.length = d.size by simp, Array.size_setIfInBounds]
  exact h2
theorem swp_size (d : Array Sp) (i j : Nat) : (swp d i j).size = d.size := by simp [swp]
theorem Sw.swp {W0 w : World} {B g cap : Nat} {d : Array Sp} (h : Sw W0 B g cap d w) {i j : Nat} (hi : i < d.size) (hj : j < d.size) :
    Sw W0 B g cap (Go.Sort.swp d i j) ((((w.setCell ⟨g, i * 2, none⟩ (.int .i64 d[j]!.1)).setCell ⟨g, i * 2 + 1, none⟩ (.int .i64 d[j]!.2)).setCell ⟨g, j * 2, none⟩ (.int .i64 d[i]!.1)).setCell ⟨g, j * 2 + 1, none⟩ (.int .i64 d[i]!.2)) :=
  (h.put hi d[j]!).put (by simpa using hj) d[i]!
theorem Sw.there {W0 w : World} {B g cap : Nat} {d : Array Sp} (h : Sw W0 B g cap d w) : w.there g 0 (d.size * 2) := fun j hj => by
  have ho : w.ownsRow B 56 2 (.slice (some ⟨g, 0, none⟩) d.size cap) d.toList.length (spCs d.toList) := h.own
  rw [show d.toList.length = d.size by simp] at ho
  have hl : (spCs d.toList).length = d.size * 2 := by simp [spCs_len]
  rw [Nat.zero_add]
  refine ⟨?_, World.ownsRow.frozenAt ho j⟩
  rw [World.ownsRow.cellAt ho j hj, List.getElem?_eq_getElem (by omega)]
  rfl
/-- Cells that can be written, at two places of the row, one after the other. -/
theorem Sw.steps {W0 w : World} {B g cap : Nat} {d : Array Sp} (h : Sw W0 B g cap d w) {i j : Nat} (hi : i < d.size) (hj : j < d.size) (p q r : Value) :
    ∃ u0 u1 u2 u3, (w.drew.cell? ⟨g, i * 2, none⟩ = some u0 ∧ w.drew.frozen? ⟨g, i * 2, none⟩ = false) ∧ ((w.setCell ⟨g, i * 2, none⟩ p).drew.cell? ⟨g, i * 2 + 1, none⟩ = some u1 ∧ (w.setCell ⟨g, i * 2, none⟩ p).drew.frozen? ⟨g, i * 2 + 1, none⟩ = false) ∧
      (((w.setCell ⟨g, i * 2, none⟩ p).setCell ⟨g, i * 2 + 1, none⟩ q).drew.cell? ⟨g, j * 2, none⟩ = some u2 ∧ ((w.setCell ⟨g, i * 2, none⟩ p).setCell ⟨g, i * 2 + 1, none⟩ q).drew.frozen? ⟨g, j * 2, none⟩ = false) ∧
      ((((w.setCell ⟨g, i * 2, none⟩ p).setCell ⟨g, i * 2 + 1, none⟩ q).setCell ⟨g, j * 2, none⟩ r).drew.cell? ⟨g, j * 2 + 1, none⟩ = some u3 ∧ (((w.setCell ⟨g, i * 2, none⟩ p).setCell ⟨g, i * 2 + 1, none⟩ q).setCell ⟨g, j * 2, none⟩ r).drew.frozen? ⟨g, j * 2 + 1, none⟩ = false) := by
  have t0 := h.there
  have t1 : (w.setCell ⟨g, i * 2, none⟩ p).there g 0 (d.size * 2) := World.there_setCells t0 g (i * 2) [p]
  have t2 : ((w.setCell ⟨g, i * 2, none⟩ p).setCell ⟨g, i * 2 + 1, none⟩ q).there g 0 (d.size * 2) := World.there_setCells t1 g (i * 2 + 1) [q]
  have t3 : (((w.setCell ⟨g, i * 2, none⟩ p).setCell ⟨g, i * 2 + 1, none⟩ q).setCell ⟨g, j * 2, none⟩ r).there g 0 (d.size * 2) := World.there_setCells t2 g (j * 2) [r]
  have a0 := t0 (i * 2) (by omega)
  have a1 := t1 (i * 2 + 1) (by omega)
  have a2 := t2 (j * 2) (by omega)
  have a3 := t3 (j * 2 + 1) (by omega)
  rw [Nat.zero_add] at a0 a1 a2 a3
  obtain ⟨u0, v0⟩ := Option.isSome_iff_exists.1 a0.1
  obtain ⟨u1, v1⟩ := Option.isSome_iff_exists.1 a1.1
  obtain ⟨u2, v2⟩ := Option.isSome_iff_exists.1 a2.1
  obtain ⟨u3, v3⟩ := Option.isSome_iff_exists.1 a3.1
  exact ⟨u0, u1, u2, u3, ⟨v0, a0.2⟩, ⟨v1, a1.2⟩, ⟨v2, a2.2⟩, ⟨v3, a3.2⟩⟩
theorem cmp_lt (x y : Sp) : (cmpS x.1 x.2 y.1 y.2 < 0 ∧ ltS x y = true) ∨ (¬ cmpS x.1 x.2 y.1 y.2 < 0 ∧ ltS x y = false) := by
  have h := cmpS_less x.1 x.2 y.1 y.2
  unfold ltS
  by_cases hc : cmpS x.1 x.2 y.1 y.2 < 0
  · exact .inl ⟨hc, by rw [← h]; simp [hc]⟩
  · exact .inr ⟨hc, by rw [← h]; simp [hc]⟩

end Go.Proofs.YtfnlnigeaioocaaGreat
