/- Size and Chunks, of the program and of the reference. -/
import Derived.Test.YthjoomcannfnjaaCMath
import Derived.Test.YthjoomcannfnjaaLPairs
import Derived.Test.YthjoomcannfnjaaLow
namespace Go.Proofs.Ythjoomcannfnjaa
open Go.RowKit
set_option linter.unusedVariables false

set_option maxHeartbeats 1000000 in
theorem cut_Chunks_any (n s : Int) (h1 : -9223372036854775808 ≤ n) (h2 : n ≤ 9223372036854775807) (h3 : -9223372036854775808 ≤ s) (h4 : s ≤ 9223372036854775807) (w : World) :
    Calls Try.prog 16 #[.int .i64 n, .int .i64 s] w fun e w' => e = .returned (.int .i64 (chunksI n s)) ∧ w = w' := by
  by_cases hn : n < 1
  · have HC := hid (chunksI_none (.inl hn) : chunksI n s = 0)
    have d1 : decide (n < 1) = true := by simpa using hn
    go_enter Try.func16, Try.ntmps16
    go_wp2
    go_ret
    exact ⟨by rw [HC.out]; rfl, rfl⟩
  · have d1 : decide (n < 1) = false := by simpa using hn
    by_cases hs : s < 1
    · have HC := hid (chunksI_none (.inr hs) : chunksI n s = 0)
      have d2 : decide (s < 1) = true := by simpa using hs
      go_enter Try.func16, Try.ntmps16
      go_wp2
      go_ret
      exact ⟨by rw [HC.out]; rfl, rfl⟩
    · have HC := hid (chunksI_pos (by omega) (by omega) : chunksI n s = (n - 1) / s + 1)
      have d2 : decide (s < 1) = false := by simpa using hs
      have hz : ¬ s = 0 := by omega
      have hq1 : (n - 1) / s ≤ n - 1 := Int.ediv_le_self s (by omega)
      have hq2 : 0 ≤ (n - 1) / s := Int.ediv_nonneg (by omega) (by omega)
      go_enter Try.func16, Try.ntmps16
      go_wp2
      go_ret
      exact ⟨by rw [HC.out]; rfl, rfl⟩
set_option maxHeartbeats 1000000 in
theorem staitheref10_Chunks_any (n s : Int) (h1 : -9223372036854775808 ≤ n) (h2 : n ≤ 9223372036854775807) (h3 : -9223372036854775808 ≤ s) (h4 : s ≤ 9223372036854775807) (w : World) :
    Calls Try.prog 17 #[.int .i64 n, .int .i64 s] w fun e w' => e = .returned (.int .i64 (chunksI n s)) ∧ w = w' := by
  by_cases hn : n < 1
  · have HC := hid (chunksI_none (.inl hn) : chunksI n s = 0)
    have d1 : decide (n < 1) = true := by simpa using hn
    go_enter Try.func17, Try.ntmps17
    go_wp2
    go_ret
    exact ⟨by rw [HC.out]; rfl, rfl⟩
  · have d1 : decide (n < 1) = false := by simpa using hn
    by_cases hs : s < 1
    · have HC := hid (chunksI_none (.inr hs) : chunksI n s = 0)
      have d2 : decide (s < 1) = true := by simpa using hs
      go_enter Try.func17, Try.ntmps17
      go_wp2
      go_ret
      exact ⟨by rw [HC.out]; rfl, rfl⟩
    · have HC := hid (chunksI_pos (by omega) (by omega) : chunksI n s = (n - 1) / s + 1)
      have d2 : decide (s < 1) = false := by simpa using hs
      have hz : ¬ s = 0 := by omega
      have hq1 : (n - 1) / s ≤ n - 1 := Int.ediv_le_self s (by omega)
      have hq2 : 0 ≤ (n - 1) / s := Int.ediv_nonneg (by omega) (by omega)
      go_enter Try.func17, Try.ntmps17
      go_wp2
      go_ret
      exact ⟨by rw [HC.out]; rfl, rfl⟩
set_option maxHeartbeats 1000000 in
theorem cut_Size_any (c a : Int) (h1 : 0 ≤ c) (h2 : c ≤ 1000) (w : World) :
    Calls Try.prog 14 #[.int .i64 c, .int .i64 a] w fun e w' => e = .returned (.int .i64 (sizeI c a)) ∧ w = w' := by
  by_cases ha : a % 2 = 0
  · have HC := hid (sizeI_even ha : sizeI c a = c)
    have d1 : (a.tmod 2 != 0) = false := by
      have : a.tmod 2 = 0 := (tmod_two a).2 ha
      rw [this]; rfl
    go_enter Try.func14, Try.ntmps14
    go_wp2
    go_ret
    exact ⟨by rw [HC.out]; rfl, rfl⟩
  · have HC := hid (sizeI_odd ha : sizeI c a = c + 1)
    have d1 : (a.tmod 2 != 0) = true := by
      have : a.tmod 2 ≠ 0 := fun h => ha ((tmod_two a).1 h)
      simpa using this
    go_enter Try.func14, Try.ntmps14
    go_wp2
    go_ret
    exact ⟨by rw [HC.out]; rfl, rfl⟩
set_option maxHeartbeats 1000000 in
theorem staitheref10_Size_any (c a : Int) (h1 : 0 ≤ c) (h2 : c ≤ 1000) (w : World) :
    Calls Try.prog 15 #[.int .i64 c, .int .i64 a] w fun e w' => e = .returned (.int .i64 (sizeI c a)) ∧ w = w' := by
  by_cases ha : a % 2 = 0
  · have HC := hid (sizeI_even ha : sizeI c a = c)
    have d1 : (a.tmod 2 != 0) = false := by
      have : a.tmod 2 = 0 := (tmod_two a).2 ha
      rw [this]; rfl
    go_enter Try.func15, Try.ntmps15
    go_wp2
    go_ret
    exact ⟨by rw [HC.out]; rfl, rfl⟩
  · have HC := hid (sizeI_odd ha : sizeI c a = c + 1)
    have d1 : (a.tmod 2 != 0) = true := by
      have : a.tmod 2 ≠ 0 := fun h => ha ((tmod_two a).1 h)
      simpa using this
    go_enter Try.func15, Try.ntmps15
    go_wp2
    go_ret
    exact ⟨by rw [HC.out]; rfl, rfl⟩
theorem low_calls (x n : Int) (h1 : 1 ≤ n) (h2 : n ≤ 4611686018427387904) (w : World) :
    Calls Try.prog 9 #[.int .i64 x, .int .i64 n] w fun e w' => e = .returned (.int .i64 (low x n)) ∧ w = w' := by
  go_enter Try.func9, Try.ntmps9
  go_wp2
  go_ret
  exact ⟨by rw [low_eq x n h1 h2]; rfl, rfl⟩
end Go.Proofs.Ythjoomcannfnjaa
