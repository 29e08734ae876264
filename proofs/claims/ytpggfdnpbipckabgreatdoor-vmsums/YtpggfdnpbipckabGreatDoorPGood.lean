/- good of the reference: whether an instruction may be. -/
import Derived.Test.YtpggfdnpbipckabGreatDoorPJudge
namespace Go.Proofs.YtpggfdnpbipckabGreatDoor
open Go.RowKit
set_option linter.unusedVariables false
set_option maxRecDepth 100000

end Go.Proofs.YtpggfdnpbipckabGreatDoor
