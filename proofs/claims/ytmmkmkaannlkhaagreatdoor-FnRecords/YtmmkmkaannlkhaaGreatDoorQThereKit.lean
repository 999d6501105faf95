/- A block that was made is there. -/
import Derived.Deep.MidRow
import Derived.Test.YtmmkmkaannlkhaaGreatDoorQInfoToLawAt
namespace Go.Proofs.YtmmkmkaannlkhaaGreatDoor
open Go.RowKit
set_option linter.unusedVariables false

theorem there_made {w w1 : World} {cs : Array Value} {T : TypeId} (h : Below (w.alloc (.cells cs T)).heap.size (w.alloc (.cells cs T)) w1) {n : Nat} (hn : n ≤ cs.size) : w1.there w.heap.size 0 n := fun j hj => by
  rw [Nat.zero_add]
  refine ⟨?_, frozen_made h j⟩
  rw [cell_made h (k := j) (v := cs[j]'(by omega)) (by simp)]
  rfl
end Go.Proofs.YtmmkmkaannlkhaaGreatDoor
