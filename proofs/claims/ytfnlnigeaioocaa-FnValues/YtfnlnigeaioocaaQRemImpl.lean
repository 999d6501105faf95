/- What the code's remove does at a set's map. -/
import Derived.Test.YtfnlnigeaioocaaQKeysIterToKeepMath
import Derived.Test.YtfnlnigeaioocaaQSetOf
namespace Go.Proofs.Ytfnlnigeaioocaa
open Go.RowKit
set_option linter.unusedVariables false

end Go.Proofs.Ytfnlnigeaioocaa
