/- The law's own functions over lists of stamps: their size, and that two alike are alike. -/
import Derived.Test.YtaglbacicpknaaaStampNextMax
namespace Go.Proofs.Ytaglbacicpknaaa
open Go.RowKit
set_option linter.unusedVariables false

set_option maxHeartbeats 400000 in
theorem eqStamp_same (t a : Int) (w : World) :
    Calls Try.prog 21 #[.agg #[.int .i64 t, .int .i64 a], .agg #[.int .i64 t, .int .i64 a]] w fun e w' => e = .returned (.bool true) ∧ Below w.heap.size w w' := by
  go_enter Try.func21, Try.ntmps21
  go_wp2_with fail
  go_ret
  exact ⟨rfl, below_then (below_alloc _ _) _⟩

end Go.Proofs.Ytaglbacicpknaaa
