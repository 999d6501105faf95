/- What eqByteS, markByteS and heldByteS do: equal bytes are told equal; a row that the call owns is written over; what was written is found again. -/
import Derived.Test.YtbkdjaodbknlpaaInfo
namespace Go.Proofs.Ytbkdjaodbknlpaa
open Go.RowKit
set_option linter.unusedVariables false

end Go.Proofs.Ytbkdjaodbknlpaa
