/- great and first of chapter 6's statements. -/
import Derived.Test.YtobgobmfhgagbaaGreatDoorGProg
import Derived.Test.YtobgobmfhgagbaaGreatDoorTPairs
import Derived.Test.YtobgobmfhgagbaaGreatDoorGRun
namespace Go.Proofs.YtobgobmfhgagbaaGreatDoor
open Go.RowKit
set_option linter.unusedVariables false
set_option maxRecDepth 100000

/-- Is there more than is gone through? If not, there are no more than these. -/
def GreatVm (l : List Inst) (key : ByteArray) (vals : List ByteArray) (e : Ending) : Prop := ∃ g, e = .returned (.bool g) ∧ (g = false → l.length ≤ 60 ∧ key.size ≤ 100 ∧ vals.length ≤ 60)
end Go.Proofs.YtobgobmfhgagbaaGreatDoor
