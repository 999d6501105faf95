/- The row of the type byte in the program's table. -/
import Derived.Test.YtlncfeakcgjioaaProg
import Derived.Test.YtlncfeakcgjioaaBase
import Derived.WalkSpells
import Derived.WalkLawsBesides
import Derived.Deep.QuietTactic
import Derived.BigQuiet
namespace Go.Proofs.Ytlncfeakcgjioaa
open Go.RowKit

theorem info5 : (Try.prog.info? 5).map (fun i => (i.zero, i.size, i.bytes)) = some (some (.int .u8 0), 1, 1) := by kernel_rfl
end Go.Proofs.Ytlncfeakcgjioaa
