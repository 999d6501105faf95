/- LogAdd: what the code's answers. -/
import Derived.Test.YtfjekbfejbgneaaQAddAll
import Derived.Test.YtfjekbfejbgneaaQUnknown
import Derived.Test.YtfjekbfejbgneaaQLedClosedToLogOKImpl
import Derived.Test.YtfjekbfejbgneaaQMarkOpsToOpEq
namespace Go.Proofs.Ytfjekbfejbgneaa
open Go.RowKit
set_option linter.unusedVariables false

/-- Two answers, the one made ahead of the other. -/
def Ans2 (w w' : World) (r0 r1 : Value) (A0 A1 : List Ov) : Prop := ∃ w9, Ans w9 w.heap.size r0 A0 ∧ Below w.heap.size w w9 ∧ Below w9.heap.size w9 w' ∧ Ans w' w9.heap.size r1 A1
theorem ans2_none {w w' : World} (hb : Below w.heap.size w w') : Ans2 w w' (.slice none 0 0) (.slice none 0 0) [] [] := ⟨w', .inl ⟨rfl, rfl⟩, hb, Below.refl _ _, .inl ⟨rfl, rfl⟩⟩

end Go.Proofs.Ytfjekbfejbgneaa
