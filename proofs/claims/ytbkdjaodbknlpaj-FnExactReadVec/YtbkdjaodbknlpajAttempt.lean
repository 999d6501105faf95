/- What attempt does with number: the fault becomes a code; and the code's GetInt. -/
import Derived.Test.YtbkdjaodbknlpajNumber
import Derived.Test.YtbkdjaodbknlpajGetsSpec
namespace Go.Proofs.Ytbkdjaodbknlpaj
open Go.RowKit
set_option linter.unusedVariables false

set_option maxHeartbeats 400000 in
theorem faultCode_any (w : World) : Calls Try.prog 80 #[.iface 146 (.int .i64 3)] w fun e w' => e = .returned (.int .i64 3) ∧ w' = w := by
  have hta : ∀ w, (Instr.typeAssert (.iface 146 (.int .i64 3)) 20 146 true).run Try.prog w = .ok (.tuple #[.int .i64 3, .bool true]) w := fun _ => by kernel_rfl
  go_enter Try.func80, Try.ntmps80
  go_wp2
  go_ret
  exact ⟨rfl, rfl⟩

/-- What attempt answers with number, and where the reader stands behind it. -/
def attR (xs : List Int) (b : Nat) (va : Value) (p : Nat) (e : Ending) (w' : World) : Prop := match getL xs p with
  | some (a, q) => e = .returned (.tuple #[.int .i64 a, .int .i64 0]) ∧ Rdr w' b va q
  | none => e = .returned (.tuple #[.int .i64 0, .int .i64 3]) ∧ ∃ q, q ≤ xs.length ∧ Rdr w' b va q

end Go.Proofs.Ytbkdjaodbknlpaj
