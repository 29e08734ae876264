/- From what the cards list to what the walks read: the table of powers and the two sentinels. -/
import Derived.Test.YtenihkjghbmfjaaDoorVBase
namespace Go.Proofs.YtenihkjghbmfjaaDoor
open Go.RowKit Go.Lib

theorem gPow : Tryd.prog.globalNamed powN = some 0 := by kernel_rfl
theorem gSyn : Tryd.prog.globalNamed "strconv.ErrSyntax" = some 1 := by kernel_rfl
theorem gRng : Tryd.prog.globalNamed "strconv.ErrRange" = some 2 := by kernel_rfl
theorem gPowT : (Tryd.prog.globals[0]?).map (·.type) = some 60 := by kernel_rfl
theorem gSynT : (Tryd.prog.globals[1]?).map (·.type) = some 41 := by kernel_rfl
theorem gRngT : (Tryd.prog.globals[2]?).map (·.type) = some 41 := by kernel_rfl
theorem star : "*" ++ "errors.errorString" = "*errors.errorString" := by decide
theorem rowEs (u : TypeId) (h : Tryd.prog.typeName? 3 u = some "*errors.errorString") : u = 73 :=
  typeName_ptr_named (nm := "errors.errorString") (by rw [star]; kernel_rfl) (by kernel_rfl) (by decide) u (by rw [star]; exact h)

theorem tabs_of_laid {W : World} (h : laidMet Tryd.prog Rows.valueBackRow.laid W) : Tabs W := by
  have h3 := h.tail.tail
  have h4 := h3.tail
  have h5 := h4.tail
  obtain ⟨a0, s0, hv0, -, -, -⟩ := laid_sentinel h4 gRng gRngT Tryd.underlying41 rowEs Tryd.underlying73 Tryd.underlying75 rfl rfl Tryd.underlying9 (by kernel_rfl) (by kernel_rfl)
  obtain ⟨a1, s1, hv1, -, -, -⟩ := laid_sentinel h5 gSyn gSynT Tryd.underlying41 rowEs Tryd.underlying73 Tryd.underlying75 rfl rfl Tryd.underlying9 (by kernel_rfl) (by kernel_rfl)
  refine ⟨?_, ⟨_, _, hv1⟩, ⟨_, _, hv0⟩⟩
  exact tabIs_of_head gPow gPowT Tryd.underlying60 Tryd.underlying39 (by kernel_rfl) (by kernel_rfl) h3

end Go.Proofs.YtenihkjghbmfjaaDoor
