/- VmRuns at arguments as they come in. -/
import Derived.Test.YtpggfdnpbipckaaGreatDoorVmRuns
import Derived.Test.YtpggfdnpbipckaaGreatDoorVLaidV
namespace Go.Proofs.YtpggfdnpbipckaaGreatDoor
open Go.RowKit Go.Lib
set_option linter.unusedVariables false
set_option maxRecDepth 100000
theorem vmRuns_walk (w : World) (T : Tabs w) (v : Value) (l : List Inst) (h : rSlice 3 rIns w [v] l) (key : ByteArray) (hk : key.size ≤ maxLen) (u : Value) (vals : List ByteArray) (hu : rSlice 1 rStr w [u] vals) (fuel : Int) (wf : (Lit.int .i64 fuel).wf = true) :
    Calls Tryz.prog 3 #[v, .string key, u, .int .i64 fuel] w fun e w' => e = .returned (.bool true) ∧ Below w.heap.size w w' :=
  vmRuns_plain w T v l (Co.arg h) (code_nums h) key hk u vals (Txs.arg hu).1 (Txs.arg hu).2 fuel (wf_i64 wf)
end Go.Proofs.YtpggfdnpbipckaaGreatDoor
