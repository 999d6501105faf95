/- What the code's LogOK answers. -/
import Derived.Test.YtnpiinjdaiobgaaLedgerOf
namespace Go.Proofs.Ytnpiinjdaiobgaa
open Go.RowKit
set_option linter.unusedVariables false

set_option maxHeartbeats 1000000 in
theorem implLogOK_any (C : Nat) (w : World) (v : Value) (L : List Ov) (hC : C ≤ w.heap.size) (hr : RdO C w v L) :
    Calls Try.prog 7 #[v] w fun e w' => e = .returned (.bool (logI L)) ∧ Below w.heap.size w w' := by
  have hl := ledgerOf_any C w v L hC hr
  unfold LoAns at hl
  go_enter Try.func7, Try.ntmps7
  go_wp2_with fail
  refine hl.mono ?_
  rintro e w' ⟨⟨h, lb, rfl, _⟩ | ⟨h, rfl⟩, hb⟩
  · go_wp2_with fail
    go_ret
    exact ⟨by rw [h]; rfl, hb⟩
  · go_wp2_with fail
    go_ret
    exact ⟨by rw [h]; rfl, hb⟩
end Go.Proofs.Ytnpiinjdaiobgaa
