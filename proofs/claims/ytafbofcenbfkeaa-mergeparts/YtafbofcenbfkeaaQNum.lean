/- Number and Of, of the program and of the reference. -/
import Derived.Test.YtafbofcenbfkeaaLPairs
import Derived.Test.YtafbofcenbfkeaaQMath
import Derived.Test.YtafbofcenbfkeaaLow
namespace Go.Proofs.Ytafbofcenbfkeaa
open Go.RowKit
set_option linter.unusedVariables false

set_option maxHeartbeats 1000000 in
theorem number_any (s : ByteArray) (hs : s.size ≤ 1000) (w : World) :
    Calls Try.prog 34 #[.string s] w fun e w' => e = .returned (.int .u32 (numK s : Nat)) ∧ w' = w := by
  go_enter Try.func34, Try.ntmps34
  go_wp2
  go_loop [3, 7] (fun x i => ∃ k : Nat, k ≤ s.size ∧ i = .int .i64 k ∧ ∃ y : Nat, x = .int .u32 (y : Int) ∧ Hid (y = numL (s.data.toList.take k)) ∧ y < 4294967296) (fun _ i => s.size - (intOf i).toNat)
  case atStart => exact ⟨0, by omega, rfl, 7, rfl, hid (by simp [numL]), by omega⟩
  case round =>
    obtain ⟨k, hk, rfl, y, rfl, HY, hy⟩ := hrel
    by_cases hlt : k < s.size
    · have hd : decide ((k : Int) < (s.size : Int)) = true := by simp; omega
      have HN := hid (show numStep y (s[k]'hlt) = numL (s.data.toList.take (k + 1)) by rw [numL_take hlt, ← HY.out])
      go_wp2
      go_round
      case rel => exact ⟨k + 1, by omega, by go_num, numStep y (s[k]'hlt), congrArg (Value.int .u32) (step_left y _), HN, numStep_lt _ _⟩
      case measure => simp [intOf]; omega
    · obtain rfl : k = s.size := by omega
      have hd : decide ((s.size : Int) < (s.size : Int)) = false := by simp
      have HE := hid (show y = numK s by rw [HY.out, numL_all])
      go_wp2
      go_ret
      exact ⟨by rw [HE.out]; rfl, rfl⟩
set_option maxHeartbeats 1000000 in
theorem partOf_any (s : ByteArray) (hs : s.size ≤ 1000) (parts : Int) (h1 : -9223372036854775808 ≤ parts) (h2 : parts ≤ 9223372036854775807) (w : World) :
    Calls Try.prog 29 #[.string s, .int .i64 parts] w fun e w' => e = .returned (.int .i64 (ofK s parts)) ∧ w' = w := by
  by_cases hp : parts < 1
  · have hd : decide (parts < 1) = true := by simpa using hp
    have HE := hid (ofK_none (s := s) hp)
    go_enter Try.func29, Try.ntmps29
    go_wp2
    go_ret
    exact ⟨by rw [HE.out]; rfl, rfl⟩
  · have hd : decide (parts < 1) = false := by simpa using hp
    have hp1 : 1 ≤ parts := by omega
    have hz : ¬ parts = 0 := by omega
    have HT := hid (ofK_wrap s parts hp1)
    have hn := numK_lt s
    clear hp
    go_enter Try.func29, Try.ntmps29
    go_wp2_with fail
    refine (number_any s hs w).mono ?_
    rintro e w1 ⟨rfl, rfl⟩
    generalize numK s = n at HT hn ⊢
    have hm : parts % 18446744073709551616 = parts := by omega
    have hnn : (n : Int) % 18446744073709551616 = n := by omega
    go_wp2
    go_ret
    exact ⟨by rw [← HT.out]; rfl, rfl⟩
end Go.Proofs.Ytafbofcenbfkeaa
