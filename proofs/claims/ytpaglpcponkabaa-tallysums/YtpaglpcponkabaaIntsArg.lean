/- A slice of whole numbers that came in; Low. -/
import Derived.Test.YtpaglpcponkabaaInts
import Derived.Test.YtpaglpcponkabaaRds
import Derived.Laws.BitsAllLaws
namespace Go.Proofs.Ytpaglpcponkabaa
open Go.RowKit
set_option linter.unusedVariables false
theorem opens_ints : Opens Try.prog 33 1 (rSlice 1 (rInt .i64)) := opens_slice Try.underlying33 (by kernel_rfl) (by decide) (opens_int Try.underlying3)
theorem Is.arg {w : World} {v : Value} {l : List Int} (h : rSlice 1 (rInt .i64) w [v] l) : Is w v l ∧ ∀ j, j < l.length → (Lit.int .i64 (l.getD j 0)).wf = true := by
  obtain ⟨ao, cap, hv, h1, h2, h3, h4⟩ := h
  have hcell : ∀ j, j < l.length → ∀ b off, (∀ (j : Nat) (a : Int), l[j]? = some a → ∃ ds : List Value, ds.length = 1 ∧ rInt .i64 w ds a ∧ ∀ (k : Nat) (u : Value), ds[k]? = some u → w.cell? ⟨b, off + j * 1 + k, none⟩ = some u) → w.cell? ⟨b, off + j, none⟩ = some (.int .i64 (l.getD j 0)) ∧ (Lit.int .i64 (l.getD j 0)).wf = true := by
    intro j hj b off hc
    obtain ⟨ds, _, ⟨rfl, hw⟩, hu⟩ := hc j l[j] (List.getElem?_eq_getElem hj)
    have := hu 0 _ rfl
    rw [Nat.mul_one, Nat.add_zero] at this
    simp only [List.getD, List.getElem?_eq_getElem hj, Option.getD_some]
    exact ⟨this, hw⟩
  refine ⟨⟨ao, cap, by simpa using hv, h1, h2, h3, fun hl => ?_⟩, fun j hj => ?_⟩
  · obtain ⟨b, off, rfl, hlt, hc⟩ := h4 hl
    exact ⟨b, off, rfl, hlt, fun j hj => (hcell j hj b off hc).1⟩
  · obtain ⟨b, off, _, _, hc⟩ := h4 (by intro e; rw [e] at hj; simp at hj)
    exact (hcell j hj b off hc).2

theorem uwrap_eq (n : Int) : IntKind.u64.wrap n = n % 18446744073709551616 := by
  simp [IntKind.wrap, IntKind.bits, IntKind.signed]
theorem uwrap_bd (n : Int) : 0 ≤ IntKind.u64.wrap n ∧ IntKind.u64.wrap n < 18446744073709551616 := by
  rw [uwrap_eq]; omega
/-- x, from 0 to below n. -/
def low (x n : Int) : Int := IntKind.u64.wrap x % n
theorem low_bd (x n : Int) (h : 1 ≤ n) : 0 ≤ low x n ∧ low x n < n := by
  unfold low; exact ⟨Int.emod_nonneg _ (by omega), Int.emod_lt_of_pos _ (by omega)⟩
theorem low_eq (x n : Int) (h1 : 1 ≤ n) (h2 : n ≤ 4611686018427387904) : wrap64 ((IntKind.u64.wrap x).tmod n) = low x n := by
  have hb := low_bd x n h1
  rw [Int.tmod_eq_emod_of_nonneg (uwrap_bd x).1]
  exact IntWalk.wrap64_in _ ⟨by unfold low at hb; omega, by unfold low at hb; omega⟩
set_option maxHeartbeats 400000 in
theorem low_any (x n : Int) (w : World) (h1 : 1 ≤ n) (h2 : n ≤ 4611686018427387904) :
    Calls Try.prog 17 #[.int .i64 x, .int .i64 n] w fun e w' => e = .returned (.int .i64 (low x n)) ∧ w = w' := by
  go_enter Try.func17, Try.ntmps17
  go_wp2
  go_ret
  exact ⟨by rw [low_eq x n h1 h2]; rfl, rfl⟩
end Go.Proofs.Ytpaglpcponkabaa
