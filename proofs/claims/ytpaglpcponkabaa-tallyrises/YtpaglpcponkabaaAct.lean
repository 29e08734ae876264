/- How an act of layer 2's statements reads. -/
import Derived.Test.YtpaglpcponkabaaProg
import Derived.Test.YtpaglpcponkabaaRds
namespace Go.Proofs.Ytpaglpcponkabaa
open Go.RowKit
set_option linter.unusedVariables false
def rAct : Rd (Bool × Int × Int) := rPair 1 rBool (rPair 1 (rInt .i64) (rInt .i64))
theorem opens_act : Opens Try.prog 31 3 rAct :=
  opens_struct Try.underlying31 (by kernel_rfl) (opensF_cons rfl (by kernel_rfl) (opens_bool Try.underlying4) (opensF_cons rfl (by kernel_rfl) (opens_int Try.underlying3) (opensF_last rfl (by kernel_rfl) rfl (opens_int Try.underlying3))))
theorem opens_acts : Opens Try.prog 22 1 (rSlice 3 rAct) := opens_slice Try.underlying22 (by kernel_rfl) (by decide) opens_act
theorem rAct_cells {w : World} {cs : List Value} {x : Bool × Int × Int} (hl : cs.length = 3) (h : rAct w cs x) : cs = [.bool x.1, .int .i64 x.2.1, .int .i64 x.2.2] ∧ (Lit.int .i64 x.2.1).wf = true ∧ (Lit.int .i64 x.2.2).wf = true := by
  obtain ⟨r, i, n⟩ := x
  match cs, hl with
  | [a, b, c], _ =>
    obtain ⟨h1, ⟨h2, h3⟩, h4, h5⟩ := h
    simp [rBool] at h1 h2 h4
    subst h1 h2 h4
    exact ⟨rfl, h3, h5⟩
end Go.Proofs.Ytpaglpcponkabaa
