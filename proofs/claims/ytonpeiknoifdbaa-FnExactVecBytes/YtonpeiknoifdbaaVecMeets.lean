/- What the code's meet does. -/
import Derived.Test.YtonpeiknoifdbaaVecJoins
namespace Go.Proofs.Ytonpeiknoifdbaa
open Go.RowKit
set_option linter.unusedVariables false

end Go.Proofs.Ytonpeiknoifdbaa
