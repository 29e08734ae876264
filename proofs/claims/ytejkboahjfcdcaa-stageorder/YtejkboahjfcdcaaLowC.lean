/- Low: x, from 0 to below n. -/
import Derived.Test.YtejkboahjfcdcaaLow
import Derived.Test.YtejkboahjfcdcaaSav
import Derived.Test.YtejkboahjfcdcaaProg
namespace Go.Proofs.Ytejkboahjfcdcaa
open Go.RowKit
set_option linter.unusedVariables false
theorem low_calls (x n : Int) (h1 : 1 ≤ n) (h2 : n ≤ 4611686018427387904) (w : World) :
    Calls Try.prog 24 #[.int .i64 x, .int .i64 n] w fun e w' => e = .returned (.int .i64 (low x n)) ∧ w = w' := by
  go_enter Try.func24, Try.ntmps24
  go_wp2
  go_ret
  exact ⟨by rw [low_eq x n h1 h2]; rfl, rfl⟩
/-- Low, as a number from 0 on. -/
theorem low_nat (x : Int) (n : Nat) (h : 1 ≤ n) : ∃ k : Nat, low x n = k ∧ k < n := by
  have := low_bd x n (by omega)
  exact ⟨(low x n).toNat, by omega, by omega⟩
end Go.Proofs.Ytejkboahjfcdcaa
