/- What the code's remove does at a set's map. -/
import Derived.Test.YthidpocfjcibaaaQKeysIterToKeepMath
import Derived.Test.YthidpocfjcibaaaQSetOf
namespace Go.Proofs.Ythidpocfjcibaaa
open Go.RowKit
set_option linter.unusedVariables false

end Go.Proofs.Ythidpocfjcibaaa
