/- The specification's l08Make: an operation that counts all of a log, behind all of it. -/
import Derived.Deep.Cut
import Derived.Test.YtcjlihfkibpgoaaGreatDoorQLedgerToLogFind
import Derived.Test.YtcjlihfkibpgoaaGreatDoorQOpNumsToOpRange
import Derived.Test.YtcjlihfkibpgoaaGreatDoorQThereKit
import Derived.Test.YtcjlihfkibpgoaaGreatDoorQTakeKitToBigKit
import Derived.Test.YtcjlihfkibpgoaaGreatDoorQOpToToLawKit
namespace Go.Proofs.YtcjlihfkibpgoaaGreatDoor
open Go.RowKit
set_option linter.unusedVariables false

theorem OpBlk.put {W : World} {B : Nat} {x y : Ov} (h : OpBlk W B x) (j : Nat) (u : Value) (e : x.cs.toArray.setIfInBounds j u = y.cs.toArray) : OpBlk (W.setCell ⟨B, j, none⟩ u) B y := by
  unfold OpBlk at h ⊢
  rw [heap_setCell_same W B j _ _ u h, e]
theorem OpBlk.at {W : World} {B : Nat} {x : Ov} (h : OpBlk W B x) (j : Nat) {u : Value} (hj : x.cs[j]? = some u) : W.cell? ⟨B, j, none⟩ = some u := by
  have := opBlk_range h j u hj
  rwa [Nat.zero_add] at this
theorem OpBlk.free {W : World} {B : Nat} {x : Ov} (h : OpBlk W B x) (j : Nat) : W.frozen? ⟨B, j, none⟩ = false := blk_free h j
theorem OpBlk.lo {W : World} {B : Nat} {x : Ov} (h : OpBlk W B x) : B < W.heap.size := (Array.getElem?_eq_some_iff.1 h).1

theorem below_cellsC {B : Nat} {a : World} {b : Nat} (hb : B ≤ b) : ∀ (vs : List Value) (o : Nat) (w : World), Below B a w → Below B a (w.setCells b o vs)
  | [], _, _, h => h
  | v :: vs, o, w, h => below_cellsC hb vs (o + 1) _ (h.setCell (p := ⟨b, o, none⟩) hb v)
theorem there_blk {w : World} {g n : Nat} {cs : Array Value} {T : TypeId} (h : w.heap[g]? = some (.cells cs T (0, 0))) (hn : n ≤ cs.size) : w.there g 0 n := fun j hj => by
  rw [Nat.zero_add]
  refine ⟨?_, blk_free h j⟩
  rw [blk_cell h j (v := cs[j]'(by omega)) (by simp)]
  rfl

/-- What l08Make holds on its way: the operation x in block B, its result's block, the counts. -/
structure Mk (w wr : World) (vb gc n a : Nat) (x : Ov) (L : List Ov) : Prop where
  op : OpBlk wr w.heap.size x
  res : wr.heap[w.heap.size + 1]? = some (.cells #[.int .i64 0, .int .i64 0, .int .i64 0, .slice none 0 0, .int .i64 0, .int .i64 0, .int .i64 0, .int .i64 0, .int .i64 0, .int .i64 0, .string ByteArray.empty, .string ByteArray.empty] 41 (0, 0))
  vec : wr.heap[vb]? = some (.cells #[.slice (some ⟨gc, 0, none⟩) 16 16] 37 (0, 0))
  own : Own 3 wr (w.heap.size + 2) (.slice (some ⟨gc, 0, none⟩) 16 16) ((cnts L).map (Value.int .i64))
  low : w.heap.size + 2 ≤ gc ∧ w.heap.size + 2 ≤ vb
  bel : Below w.heap.size w wr
theorem Mk.put {w wr : World} {vb gc n a : Nat} {x y : Ov} {L : List Ov} (h : Mk w wr vb gc n a x L) (j : Nat) (u : Value) (e : x.cs.toArray.setIfInBounds j u = y.cs.toArray) : Mk w (wr.setCell ⟨w.heap.size, j, none⟩ u) vb gc n a y L :=
  ⟨h.op.put j u e, (heap_setCell_other wr ⟨w.heap.size, j, none⟩ (w.heap.size + 1) _ (by show w.heap.size + 1 ≠ w.heap.size; omega)).trans h.res, (heap_setCell_other wr ⟨w.heap.size, j, none⟩ vb _ (by have := h.low.2; show vb ≠ w.heap.size; omega)).trans h.vec, h.own.apart (grownBy_set wr w.heap.size j u) (fun k hk => by cases hk; omega), h.low, h.bel.setCell (p := ⟨w.heap.size, j, none⟩) (Nat.le_refl _) _⟩
theorem Mk.drew {w wr : World} {vb gc n a : Nat} {x : Ov} {L : List Ov} (h : Mk w wr vb gc n a x L) : Mk w wr.drew vb gc n a x L := ⟨h.op, h.res, h.vec, h.own, h.low, h.bel.drew⟩

end Go.Proofs.YtcjlihfkibpgoaaGreatDoor
