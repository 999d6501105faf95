/- The specification's LogOK answers as the code's; what it draws is walked once. -/
import Derived.BigQuiet
import Derived.Deep.Cut
import Derived.Test.YtcjlihfkibpgoaaGreatDoorQLedClosedToByMath
import Derived.Test.YtcjlihfkibpgoaaGreatDoorQOpSpec
namespace Go.Proofs.YtcjlihfkibpgoaaGreatDoor
open Go.RowKit
set_option linter.unusedVariables false

end Go.Proofs.YtcjlihfkibpgoaaGreatDoor
