/- x, from 0 to below n, as unsigned numbers. -/
import Derived.WalkKit
import Derived.Laws.BitsAllLaws
namespace Go.Proofs.Ytpnjjiibcllgiaa
open Go.RowKit
theorem uwrap_eq (n : Int) : IntKind.u64.wrap n = n % 18446744073709551616 := by
  simp [IntKind.wrap, IntKind.bits, IntKind.signed]
theorem uwrap_bd (n : Int) : 0 ≤ IntKind.u64.wrap n ∧ IntKind.u64.wrap n < 18446744073709551616 := by
  rw [uwrap_eq]; omega
/-- x, from 0 to below n. -/
def low (x n : Int) : Int := IntKind.u64.wrap x % n
theorem low_bd (x n : Int) (h : 1 ≤ n) : 0 ≤ low x n ∧ low x n < n := by
  unfold low; exact ⟨Int.emod_nonneg _ (by omega), Int.emod_lt_of_pos _ (by omega)⟩
theorem low_eq (x n : Int) (h1 : 1 ≤ n) (h2 : n ≤ 4611686018427387904) : wrap64 ((IntKind.u64.wrap x).tmod n) = low x n := by
  have hb := low_bd x n h1
  rw [Int.tmod_eq_emod_of_nonneg (uwrap_bd x).1]
  exact IntWalk.wrap64_in _ ⟨by unfold low at hb; omega, by unfold low at hb; omega⟩
end Go.Proofs.Ytpnjjiibcllgiaa
