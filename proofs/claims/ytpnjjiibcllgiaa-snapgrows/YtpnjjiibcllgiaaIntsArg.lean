/- A slice of whole numbers that came in; Low. -/
import Derived.Test.YtpnjjiibcllgiaaIntsP
import Derived.Test.YtpnjjiibcllgiaaRds
import Derived.Laws.BitsAllLaws
namespace Go.Proofs.Ytpnjjiibcllgiaa
open Go.RowKit
set_option linter.unusedVariables false
theorem opens_ints : Opens Try.prog 22 1 (rSlice 1 (rInt .i64)) := opens_slice Try.underlying22 (by kernel_rfl) (by decide) (opens_int Try.underlying3)
theorem Is.arg {w : World} {v : Value} {l : List Int} (h : rSlice 1 (rInt .i64) w [v] l) : Is w v l ∧ ∀ j, j < l.length → (Lit.int .i64 (l.getD j 0)).wf = true := by
  obtain ⟨ao, cap, hv, h1, h2, h3, h4⟩ := h
  have hcell : ∀ j, j < l.length → ∀ b off, (∀ (j : Nat) (a : Int), l[j]? = some a → ∃ ds : List Value, ds.length = 1 ∧ rInt .i64 w ds a ∧ ∀ (k : Nat) (u : Value), ds[k]? = some u → w.cell? ⟨b, off + j * 1 + k, none⟩ = some u) → w.cell? ⟨b, off + j, none⟩ = some (.int .i64 (l.getD j 0)) ∧ (Lit.int .i64 (l.getD j 0)).wf = true := by
    intro j hj b off hc
    obtain ⟨ds, _, ⟨rfl, hw⟩, hu⟩ := hc j l[j] (List.getElem?_eq_getElem hj)
    have := hu 0 _ rfl
    rw [Nat.mul_one, Nat.add_zero] at this
    simp only [List.getD, List.getElem?_eq_getElem hj, Option.getD_some]
    exact ⟨this, hw⟩
  refine ⟨⟨ao, cap, by simpa using hv, h1, h2, h3, fun hl => ?_⟩, fun j hj => ?_⟩
  · obtain ⟨b, off, rfl, hlt, hc⟩ := h4 hl
    exact ⟨b, off, rfl, hlt, fun j hj => (hcell j hj b off hc).1⟩
  · obtain ⟨b, off, _, _, hc⟩ := h4 (by intro e; rw [e] at hj; simp at hj)
    exact (hcell j hj b off hc).2

end Go.Proofs.Ytpnjjiibcllgiaa
