/- That the library functions which this program calls are the ones that the library's contracts speak of: bodies, types and variables, one by one. -/
import Derived.Shelf.Small.Strs
import Derived.Test.YtafbofcenbfkeaaProg
namespace Go.Proofs.Ytafbofcenbfkeaa
open Go.Shelf
def lays106_ren : Go.Shelf.Ren := ⟨fun | 106 => 33 | 213 => 37 | 265 => 39 | n => n, fun | 9 => 9 | 3 => 3 | n => n, fun | n => n⟩
theorem lays106 : Go.Proofs.Lays.n106 Try.prog lays106_ren := {
  mixed := by kernel_rfl
  f106 := Try.func33.trans (congrArg some (by kernel_rfl))
  f213 := Try.func37.trans (congrArg some (by kernel_rfl))
  f265 := Try.func39.trans (congrArg some (by kernel_rfl))
  t3 := Try.underlying3
  a3 := Try.isAgg3
  z3 := Try.sizeOf3
  v3 := Try.zeroValue3
  t9 := Try.underlying9
  a9 := Try.isAgg9
  z9 := Try.sizeOf9
  v9 := Try.zeroValue9 }
end Go.Proofs.Ytafbofcenbfkeaa
