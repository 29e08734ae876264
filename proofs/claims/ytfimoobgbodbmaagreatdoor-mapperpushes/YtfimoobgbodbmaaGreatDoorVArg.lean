/- What comes in: programs, texts, numbers; Low. -/
import Derived.Test.YtfimoobgbodbmaaGreatDoorGLVm
import Derived.Test.YtfimoobgbodbmaaGreatDoorGArg
import Derived.Test.YtfimoobgbodbmaaGreatDoorLow
namespace Go.Proofs.YtfimoobgbodbmaaGreatDoor
open Go.RowKit Go.Lib
set_option linter.unusedVariables false
set_option maxRecDepth 100000

theorem wf_i64 {n : Int} (wf : (Lit.int .i64 n).wf = true) : I64 n := by
  have e1 : IntKind.i64.min = -9223372036854775808 := rfl
  have e2 : IntKind.i64.max = 9223372036854775807 := rfl
  simp [Lit.wf, e1, e2] at wf
  exact ⟨by omega, by omega⟩
theorem code_nums {w : World} {v : Value} {l : List Inst} (h : rSlice 3 rIns w [v] l) : ∀ x ∈ l, I64 x.2.1 := by
  intro x hx
  obtain ⟨ao, cap, hv, h1, h2, h3, h4⟩ := h
  obtain ⟨j, hj, rfl⟩ := List.getElem_of_mem hx
  obtain ⟨b, off, rfl, hlt, hc⟩ := h4 (List.ne_nil_of_mem hx)
  obtain ⟨ds, hd, hr, hu⟩ := hc j l[j] (List.getElem?_eq_getElem hj)
  exact wf_i64 hr.2.1.2
instance : Inhabited ByteArray := ⟨ByteArray.empty⟩
theorem opens_texts : Opens Tryz.prog 120 1 (rSlice 1 rStr) := opens_slice Tryz.underlying120 (by kernel_rfl) (by decide) (opens_str Tryz.underlying9)
theorem Txs.arg {w : World} {v : Value} {l : List ByteArray} (h : rSlice 1 rStr w [v] l) : Txs w v l ∧ ∀ x ∈ l, x.size ≤ maxLen := by
  obtain ⟨ao, cap, hv, h1, h2, h3, h4⟩ := h
  refine ⟨⟨ao, cap, by simpa using hv, h1, h2, h3, fun hl => ?_⟩, fun x hx => ?_⟩
  · obtain ⟨b, off, rfl, hlt, hc⟩ := h4 hl
    refine ⟨b, off, rfl, hlt, fun j x hj k u hk => ?_⟩
    obtain ⟨ds, hd, hr, hu⟩ := hc j x hj
    have e : ds = encT x := hr.1
    subst e
    exact hu k u hk
  · obtain ⟨j, hj, rfl⟩ := List.getElem_of_mem hx
    obtain ⟨b, off, rfl, hlt, hc⟩ := h4 (List.ne_nil_of_mem hx)
    obtain ⟨ds, hd, hr, hu⟩ := hc j l[j] (List.getElem?_eq_getElem hj)
    exact hr.2
theorem lowV_calls (x n : Int) (h1 : 1 ≤ n) (h2 : n ≤ 4611686018427387904) (w : World) :
    Calls Tryz.prog 30 #[.int .i64 x, .int .i64 n] w fun e w' => e = .returned (.int .i64 (low x n)) ∧ w = w' := by
  go_enter Tryz.func30, Tryz.ntmps30
  go_wp2
  go_ret
  exact ⟨by rw [low_eq x n h1 h2]; rfl, rfl⟩
end Go.Proofs.YtfimoobgbodbmaaGreatDoor
