/- From what the cards list to what the walks read: the table of powers and the two sentinels. -/
import Derived.Test.YtfimoobgbodbmaaGreatDoorGVv
namespace Go.Proofs.YtfimoobgbodbmaaGreatDoor
open Go.RowKit Go.Lib

theorem gPow : Tryz.prog.globalNamed powN = some 1 := by kernel_rfl
theorem gSyn : Tryz.prog.globalNamed "strconv.ErrSyntax" = some 2 := by kernel_rfl
theorem gRng : Tryz.prog.globalNamed "strconv.ErrRange" = some 3 := by kernel_rfl
theorem gPowT : (Tryz.prog.globals[1]?).map (·.type) = some 288 := by kernel_rfl
theorem gSynT : (Tryz.prog.globals[2]?).map (·.type) = some 251 := by kernel_rfl
theorem gRngT : (Tryz.prog.globals[3]?).map (·.type) = some 251 := by kernel_rfl
theorem star : "*" ++ "errors.errorString" = "*errors.errorString" := by decide
theorem rowEs (u : TypeId) (h : Tryz.prog.typeName? 3 u = some "*errors.errorString") : u = 296 :=
  typeName_ptr_named (nm := "errors.errorString") (by rw [star]; kernel_rfl) (by kernel_rfl) (by decide) u (by rw [star]; exact h)

theorem tabs_of_laid {W : World} (h : laidMet Tryz.prog Rows.mapperScriptRow.laid W) : Tabs W := by
  have h3 := h.tail.tail
  have h4 := h3.tail
  have h5 := h4.tail
  obtain ⟨a0, s0, hv0, -, -, -⟩ := laid_sentinel h4 gRng gRngT Tryz.underlying251 rowEs Tryz.underlying296 Tryz.underlying298 rfl rfl Tryz.underlying9 (by kernel_rfl) (by kernel_rfl)
  obtain ⟨a1, s1, hv1, -, -, -⟩ := laid_sentinel h5 gSyn gSynT Tryz.underlying251 rowEs Tryz.underlying296 Tryz.underlying298 rfl rfl Tryz.underlying9 (by kernel_rfl) (by kernel_rfl)
  refine ⟨?_, ⟨_, _, hv1⟩, ⟨_, _, hv0⟩⟩
  exact tabIs_of_head gPow gPowT Tryz.underlying288 Tryz.underlying159 (by kernel_rfl) (by kernel_rfl) h3

end Go.Proofs.YtfimoobgbodbmaaGreatDoor
