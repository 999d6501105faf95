/- What l01Num, l01Put and appendInt do: the bytes of a number from 0 to MaxNum, behind a row that the call owns. -/
import Derived.Test.YtaiaffhphejjcaaInfo
namespace Go.Proofs.Ytaiaffhphejjcaa
open Go.RowKit
set_option linter.unusedVariables false


end Go.Proofs.Ytaiaffhphejjcaa
