/- What sharedStart, l01Alike, textsSize, szStringS, toStringS and eqStringS do. -/
import Derived.Test.YtagnpahkhaighaaNums
import Derived.Test.YtagnpahkhaighaaTextsBase
namespace Go.Proofs.Ytagnpahkhaighaa
open Go.RowKit Go.Lib
set_option linter.unusedVariables false

theorem info9 : (Try.prog.info? 9).map (fun i => (i.zero, i.size, i.bytes)) = some (some (.string ByteArray.empty), 1, 16) := by kernel_rfl

end Go.Proofs.Ytagnpahkhaighaa
