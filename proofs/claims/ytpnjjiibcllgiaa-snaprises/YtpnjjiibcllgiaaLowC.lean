/- Low: x, from 0 to below n. -/
import Derived.Test.YtpnjjiibcllgiaaLow
import Derived.Test.YtpnjjiibcllgiaaSav
import Derived.Test.YtpnjjiibcllgiaaProg
namespace Go.Proofs.Ytpnjjiibcllgiaa
open Go.RowKit
set_option linter.unusedVariables false
theorem low_calls (x n : Int) (h1 : 1 ≤ n) (h2 : n ≤ 4611686018427387904) (w : World) :
    Calls Try.prog 15 #[.int .i64 x, .int .i64 n] w fun e w' => e = .returned (.int .i64 (low x n)) ∧ w = w' := by
  go_enter Try.func15, Try.ntmps15
  go_wp2
  go_ret
  exact ⟨by rw [low_eq x n h1 h2]; rfl, rfl⟩
/-- Low, as a number from 0 on. -/
theorem low_nat (x : Int) (n : Nat) (h : 1 ≤ n) : ∃ k : Nat, low x n = k ∧ k < n := by
  have := low_bd x n (by omega)
  exact ⟨(low x n).toNat, by omega, by omega⟩
end Go.Proofs.Ytpnjjiibcllgiaa
