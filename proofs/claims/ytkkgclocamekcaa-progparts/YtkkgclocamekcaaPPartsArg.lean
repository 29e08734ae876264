/- ProgParts at arguments as they come in. -/
import Derived.Test.YtkkgclocamekcaaPParts
import Derived.Test.YtkkgclocamekcaaPArg
namespace Go.Proofs.Ytkkgclocamekcaa
open Go.RowKit
theorem progParts_walk (w : World) (u : Value) (a : List Inst) (ha : rSlice 3 rIns w [u] a) (v : Value) (b : List Inst) (hb : rSlice 3 rIns w [v] b) (o : Int) (wo : (Lit.int .i64 o).wf = true) :
    Calls Try.prog 4 #[u, v, .int .i64 o] w fun e w' => e = .returned (.bool true) ∧ Below w.heap.size w w' :=
  progParts_plain w u v a b o wo (Co.arg ha) (Co.arg hb)
end Go.Proofs.Ytkkgclocamekcaa
