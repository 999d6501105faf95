/- What l01Num, l01Put and appendInt do: the bytes of a number from 0 to MaxNum, behind a row that the call owns. -/
import Derived.Test.YtlncfeakcgjioaaInfo
namespace Go.Proofs.Ytlncfeakcgjioaa
open Go.RowKit
set_option linter.unusedVariables false


end Go.Proofs.Ytlncfeakcgjioaa
