/- ProgTells at an argument as it comes in. -/
import Derived.Test.YtkkgclocamekcaaPTells
import Derived.Test.YtkkgclocamekcaaPArg
namespace Go.Proofs.Ytkkgclocamekcaa
open Go.RowKit
theorem progTells_walk (w : World) (v : Value) (l : List Inst) (h : rSlice 3 rIns w [v] l) :
    Calls Try.prog 3 #[v] w fun e w' => e = .returned (.bool true) ∧ Below w.heap.size w w' :=
  progTells_plain w v l (Co.arg h)
end Go.Proofs.Ytkkgclocamekcaa
