/- What the code's meet does. -/
import Derived.Test.YtpiadcjkbbgggaaVecJoins
namespace Go.Proofs.Ytpiadcjkbbgggaa
open Go.RowKit
set_option linter.unusedVariables false

end Go.Proofs.Ytpiadcjkbbgggaa
