/- What is not met in a region that draws its order is passed by ('with_reducible refine quiet_pass (by kernel_rfl) ?_': with the elaborator's own unfolding the same step finds no end where what follows is not met either). -/
import Derived.Test.YtlncfeakcgjioaaQuietKeep
namespace Go.Proofs.Ytlncfeakcgjioaa
open Go.RowKit
set_option linter.unusedVariables false

theorem quiet_pass {P : Program} {ops : Array Oper} {C : World → Prop} {Q : Act → Prop} {a : Act} {o : Oper} {rest : List Oper} (hw : Region.wanted o (yielded ops a.tmps) = false) (k : wpQuiet P ops C Q rest (a.put o.dst undef)) : wpQuiet P ops C Q (o :: rest) a := by
  unfold wpQuiet
  rw [if_neg (by rw [hw]; exact Bool.false_ne_true)]
  exact k
end Go.Proofs.Ytlncfeakcgjioaa
