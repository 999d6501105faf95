/- The code's columns, written: encode of a column of numbers, of texts. -/
import Derived.Test.YtcjlihfkibpgoaaGreatDoorQOpNumsToOpRange
import Derived.Test.YtcjlihfkibpgoaaGreatDoorQOpByMathToLogByMath
import Derived.Test.YtcjlihfkibpgoaaGreatDoorQStampLessWalkToStampNextEq
import Derived.Test.YtcjlihfkibpgoaaGreatDoorQTextsToPutTextsSpec
import Derived.Test.YtcjlihfkibpgoaaGreatDoorQTakeKitToBigKit
namespace Go.Proofs.YtcjlihfkibpgoaaGreatDoor
open Go.RowKit
set_option linter.unusedVariables false

end Go.Proofs.YtcjlihfkibpgoaaGreatDoor
