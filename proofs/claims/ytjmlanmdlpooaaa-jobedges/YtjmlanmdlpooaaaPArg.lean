/- Programs as they come in: a slice of instructions. -/
import Derived.Test.YtjmlanmdlpooaaaPCode
import Derived.Test.YtjmlanmdlpooaaaRds
namespace Go.Proofs.Ytjmlanmdlpooaaa
open Go.RowKit
set_option linter.unusedVariables false

abbrev rIns : Rd Inst := rPair 1 (rInt .i64) (rPair 1 (rInt .i64) rStr)
theorem opens_ins : Opens Try.prog 50 3 rIns :=
  opens_struct Try.underlying50 (by kernel_rfl) (opensF_cons rfl (by kernel_rfl) (opens_int Try.underlying3) (opensF_cons rfl (by kernel_rfl) (opens_int Try.underlying3) (opensF_last rfl (by kernel_rfl) rfl (opens_str Try.underlying9))))
instance : Inhabited Inst := ⟨zInst⟩
theorem opens_code : Opens Try.prog 23 1 (rSlice 3 rIns) := opens_slice Try.underlying23 (by kernel_rfl) (by decide) opens_ins
theorem rIns_cells {w : World} {cs : List Value} {x : Inst} (hl : cs.length = 3) (h : rIns w cs x) : cs = [.int .i64 x.1, .int .i64 x.2.1, .string x.2.2] := by
  match cs, hl with
  | [p, q, r], _ =>
    obtain ⟨h1, h2, h3⟩ := h
    have e1 : p = .int .i64 x.1 := by simpa [rInt] using h1.1
    have e2 : q = .int .i64 x.2.1 := by simpa [rInt] using h2.1
    have e3 : r = .string x.2.2 := by simpa [rStr] using h3.1
    rw [e1, e2, e3]
theorem Co.arg {w : World} {v : Value} {l : List Inst} (h : rSlice 3 rIns w [v] l) : Co w v l := by
  obtain ⟨ao, cap, hv, h1, h2, h3, h4⟩ := h
  refine ⟨ao, cap, by simpa using hv, h1, h2, h3, fun hl => ?_⟩
  obtain ⟨b, off, rfl, hlt, hc⟩ := h4 hl
  refine ⟨b, off, rfl, hlt, fun j hj => ?_⟩
  obtain ⟨ds, hd, hr, hu⟩ := hc j l[j] (List.getElem?_eq_getElem hj)
  have e : l.getD j zInst = l[j] := by simp [List.getD, List.getElem?_eq_getElem hj]
  rw [e]
  have hcs := rIns_cells hd hr
  subst hcs
  exact ⟨hu 0 _ rfl, hu 1 _ rfl, hu 2 _ rfl⟩
end Go.Proofs.Ytjmlanmdlpooaaa
