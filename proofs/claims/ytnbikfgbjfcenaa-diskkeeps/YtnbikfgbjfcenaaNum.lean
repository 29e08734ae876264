/- What the program's own code.Num and code.Text do: they lay eight bytes, and a text behind its length, behind a copy of what they are handed; nothing that was there is turned. -/
import Derived.Test.YtnbikfgbjfcenaaProg
import Derived.Test.YtnbikfgbjfcenaaMath
import Derived.WalkSpells
import Derived.WalkLawsBesides
import Derived.Room.AppendFits
namespace Go.Proofs.Ytnbikfgbjfcenaa
open Go.RowKit
set_option linter.unusedVariables false
theorem Try.info5 : (Try.prog.info? 5).map (fun i => (i.zero, i.size, i.bytes)) = some (some (.int .u8 0), 1, 1) := by kernel_rfl

end Go.Proofs.Ytnbikfgbjfcenaa
