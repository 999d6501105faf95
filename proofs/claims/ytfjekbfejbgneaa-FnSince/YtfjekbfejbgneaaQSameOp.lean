/- Whether two operations say the same: the code's and the specification's. -/
import Derived.Shelf.SlGeneric
import Derived.Shelf.SlicesG.Equal
import Derived.Ground.SlgnProg
import Derived.Test.YtfjekbfejbgneaaQGrowOpsToFindOps
namespace Go.Proofs
open Go.RowKit Go.Sort Go.Shelf
namespace Ytfjekbfejbgneaa
set_option linter.unusedVariables false

end Ytfjekbfejbgneaa
end Go.Proofs
namespace Go.Proofs.Ytfjekbfejbgneaa
open Go.RowKit
set_option linter.unusedVariables false

end Go.Proofs.Ytfjekbfejbgneaa
