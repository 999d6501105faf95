/- What isWord answers; three cells that were made. -/
import Derived.Handy
import Derived.Test.YtmmkmkaannlkhaaGreatDoorQInfoToLawAt
import Derived.Test.YtmmkmkaannlkhaaGreatDoorQStampLessWalkToStampNextMax
namespace Go.Proofs.YtmmkmkaannlkhaaGreatDoor
open Go.RowKit
set_option linter.unusedVariables false

set_option maxHeartbeats 400000 in
theorem isWord_any (s : ByteArray) (w : World) :
    Calls Tryz.prog 52 #[.string s] w fun e w' => e = .returned (.bool (decide (s.size ≤ 200))) ∧ w' = w := by
  go_enter Tryz.func52, Tryz.ntmps52
  go_wp2_with fail
  go_ret
  exact ⟨by simp; omega, rfl⟩

theorem three_cells {w w1 : World} {x y z : Value} {T : TypeId} (h : Below (w.alloc (.cells #[x, y, z] T)).heap.size (w.alloc (.cells #[x, y, z] T)) w1) :
    w1.cell? ⟨w.heap.size, 0, none⟩ = some x ∧ w1.cell? ⟨w.heap.size, 1, none⟩ = some y ∧ w1.cell? ⟨w.heap.size, 2, none⟩ = some z :=
  ⟨cell_made h (k := 0) rfl, cell_made h (k := 1) rfl, cell_made h (k := 2) rfl⟩

end Go.Proofs.YtmmkmkaannlkhaaGreatDoor
