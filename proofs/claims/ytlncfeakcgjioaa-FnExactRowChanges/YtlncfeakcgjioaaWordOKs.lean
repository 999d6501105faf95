/- What isWord answers; three cells that were made. -/
import Derived.Test.YtlncfeakcgjioaaStampOKWalk
import Derived.Test.YtlncfeakcgjioaaStampLessWalk
import Derived.Handy
namespace Go.Proofs.Ytlncfeakcgjioaa
open Go.RowKit
set_option linter.unusedVariables false

set_option maxHeartbeats 400000 in
theorem isWord_any (s : ByteArray) (w : World) :
    Calls Try.prog 40 #[.string s] w fun e w' => e = .returned (.bool (decide (s.size ≤ 200))) ∧ w' = w := by
  go_enter Try.func40, Try.ntmps40
  go_wp2_with fail
  go_ret
  exact ⟨by simp; omega, rfl⟩

theorem three_cells {w w1 : World} {x y z : Value} {T : TypeId} (h : Below (w.alloc (.cells #[x, y, z] T)).heap.size (w.alloc (.cells #[x, y, z] T)) w1) :
    w1.cell? ⟨w.heap.size, 0, none⟩ = some x ∧ w1.cell? ⟨w.heap.size, 1, none⟩ = some y ∧ w1.cell? ⟨w.heap.size, 2, none⟩ = some z :=
  ⟨cell_made h (k := 0) rfl, cell_made h (k := 1) rfl, cell_made h (k := 2) rfl⟩

end Go.Proofs.Ytlncfeakcgjioaa
