/- Laid together: LowC CNum CChunkM. -/
import Derived.Test.YtfimoobgbodbmaaGreatDoorLow
import Derived.Test.YtfimoobgbodbmaaGreatDoorGSeq
import Derived.Test.YtfimoobgbodbmaaGreatDoorProg
import Derived.Test.YtfimoobgbodbmaaGreatDoorGMpA
import Derived.Test.YtfimoobgbodbmaaGreatDoorLPairs
import Derived.Test.YtfimoobgbodbmaaGreatDoorLis
import Derived.Test.YtfimoobgbodbmaaGreatDoorGStab
import Derived.Test.YtfimoobgbodbmaaGreatDoorAppAny
/-! Low: x, from 0 to below n. -/
namespace Go.Proofs.YtfimoobgbodbmaaGreatDoor
open Go.RowKit
set_option linter.unusedVariables false
set_option maxRecDepth 100000
theorem low_calls (x n : Int) (h1 : 1 ≤ n) (h2 : n ≤ 4611686018427387904) (w : World) :
    Calls Tryz.prog 30 #[.int .i64 x, .int .i64 n] w fun e w' => e = .returned (.int .i64 (low x n)) ∧ w = w' := by
  go_enter Tryz.func30, Tryz.ntmps30
  go_wp2
  go_ret
  exact ⟨by rw [low_eq x n h1 h2]; rfl, rfl⟩
/-- Low, as a number from 0 on. -/
theorem low_nat (x : Int) (n : Nat) (h : 1 ≤ n) : ∃ k : Nat, low x n = k ∧ k < n := by
  have := low_bd x n (by omega)
  exact ⟨(low x n).toNat, by omega, by omega⟩
end Go.Proofs.YtfimoobgbodbmaaGreatDoor
/-! Size and Chunks, of the program and of the reference. -/
namespace Go.Proofs.YtfimoobgbodbmaaGreatDoor
open Go.RowKit
set_option linter.unusedVariables false
set_option maxRecDepth 100000

set_option maxHeartbeats 1000000 in
theorem cut_Chunks_any (n s : Int) (h1 : -9223372036854775808 ≤ n) (h2 : n ≤ 9223372036854775807) (h3 : -9223372036854775808 ≤ s) (h4 : s ≤ 9223372036854775807) (w : World) :
    Calls Tryz.prog 72 #[.int .i64 n, .int .i64 s] w fun e w' => e = .returned (.int .i64 (chunksI n s)) ∧ w = w' := by
  by_cases hn : n < 1
  · have HC := hid (chunksI_none (.inl hn) : chunksI n s = 0)
    have d1 : decide (n < 1) = true := by simpa using hn
    go_enter Tryz.func72, Tryz.ntmps72
    go_wp2
    go_ret
    exact ⟨by rw [HC.out]; rfl, rfl⟩
  · have d1 : decide (n < 1) = false := by simpa using hn
    by_cases hs : s < 1
    · have HC := hid (chunksI_none (.inr hs) : chunksI n s = 0)
      have d2 : decide (s < 1) = true := by simpa using hs
      go_enter Tryz.func72, Tryz.ntmps72
      go_wp2
      go_ret
      exact ⟨by rw [HC.out]; rfl, rfl⟩
    · have HC := hid (chunksI_pos (by omega) (by omega) : chunksI n s = (n - 1) / s + 1)
      have d2 : decide (s < 1) = false := by simpa using hs
      have hz : ¬ s = 0 := by omega
      have hq1 : (n - 1) / s ≤ n - 1 := Int.ediv_le_self s (by omega)
      have hq2 : 0 ≤ (n - 1) / s := Int.ediv_nonneg (by omega) (by omega)
      go_enter Tryz.func72, Tryz.ntmps72
      go_wp2
      go_ret
      exact ⟨by rw [HC.out]; rfl, rfl⟩
set_option maxHeartbeats 1000000 in
theorem staitheref10_Chunks_any (n s : Int) (h1 : -9223372036854775808 ≤ n) (h2 : n ≤ 9223372036854775807) (h3 : -9223372036854775808 ≤ s) (h4 : s ≤ 9223372036854775807) (w : World) :
    Calls Tryz.prog 42 #[.int .i64 n, .int .i64 s] w fun e w' => e = .returned (.int .i64 (chunksI n s)) ∧ w = w' := by
  by_cases hn : n < 1
  · have HC := hid (chunksI_none (.inl hn) : chunksI n s = 0)
    have d1 : decide (n < 1) = true := by simpa using hn
    go_enter Tryz.func42, Tryz.ntmps42
    go_wp2
    go_ret
    exact ⟨by rw [HC.out]; rfl, rfl⟩
  · have d1 : decide (n < 1) = false := by simpa using hn
    by_cases hs : s < 1
    · have HC := hid (chunksI_none (.inr hs) : chunksI n s = 0)
      have d2 : decide (s < 1) = true := by simpa using hs
      go_enter Tryz.func42, Tryz.ntmps42
      go_wp2
      go_ret
      exact ⟨by rw [HC.out]; rfl, rfl⟩
    · have HC := hid (chunksI_pos (by omega) (by omega) : chunksI n s = (n - 1) / s + 1)
      have d2 : decide (s < 1) = false := by simpa using hs
      have hz : ¬ s = 0 := by omega
      have hq1 : (n - 1) / s ≤ n - 1 := Int.ediv_le_self s (by omega)
      have hq2 : 0 ≤ (n - 1) / s := Int.ediv_nonneg (by omega) (by omega)
      go_enter Tryz.func42, Tryz.ntmps42
      go_wp2
      go_ret
      exact ⟨by rw [HC.out]; rfl, rfl⟩
set_option maxHeartbeats 1000000 in
theorem cut_Size_any (c a : Int) (h1 : 0 ≤ c) (h2 : c ≤ 1000) (w : World) :
    Calls Tryz.prog 71 #[.int .i64 c, .int .i64 a] w fun e w' => e = .returned (.int .i64 (sizeI c a)) ∧ w = w' := by
  by_cases ha : a % 2 = 0
  · have HC := hid (sizeI_even ha : sizeI c a = c)
    have d1 : (a.tmod 2 != 0) = false := by
      have : a.tmod 2 = 0 := (tmod_two a).2 ha
      rw [this]; rfl
    go_enter Tryz.func71, Tryz.ntmps71
    go_wp2
    go_ret
    exact ⟨by rw [HC.out]; rfl, rfl⟩
  · have HC := hid (sizeI_odd ha : sizeI c a = c + 1)
    have d1 : (a.tmod 2 != 0) = true := by
      have : a.tmod 2 ≠ 0 := fun h => ha ((tmod_two a).1 h)
      simpa using this
    go_enter Tryz.func71, Tryz.ntmps71
    go_wp2
    go_ret
    exact ⟨by rw [HC.out]; rfl, rfl⟩
set_option maxHeartbeats 1000000 in
theorem staitheref10_Size_any (c a : Int) (h1 : 0 ≤ c) (h2 : c ≤ 1000) (w : World) :
    Calls Tryz.prog 67 #[.int .i64 c, .int .i64 a] w fun e w' => e = .returned (.int .i64 (sizeI c a)) ∧ w = w' := by
  by_cases ha : a % 2 = 0
  · have HC := hid (sizeI_even ha : sizeI c a = c)
    have d1 : (a.tmod 2 != 0) = false := by
      have : a.tmod 2 = 0 := (tmod_two a).2 ha
      rw [this]; rfl
    go_enter Tryz.func67, Tryz.ntmps67
    go_wp2
    go_ret
    exact ⟨by rw [HC.out]; rfl, rfl⟩
  · have HC := hid (sizeI_odd ha : sizeI c a = c + 1)
    have d1 : (a.tmod 2 != 0) = true := by
      have : a.tmod 2 ≠ 0 := fun h => ha ((tmod_two a).1 h)
      simpa using this
    go_enter Tryz.func67, Tryz.ntmps67
    go_wp2
    go_ret
    exact ⟨by rw [HC.out]; rfl, rfl⟩
end Go.Proofs.YtfimoobgbodbmaaGreatDoor
/-! Chunk of the program, where min is told as such (Derived.Lib.MinMax). -/
namespace Go.Proofs.YtfimoobgbodbmaaGreatDoor
open Go.RowKit
set_option linter.unusedVariables false
set_option maxRecDepth 100000

set_option maxHeartbeats 2000000 in
theorem chunk_any (v : Value) (l : List KV) (s q : Int) (h1 : -9223372036854775808 ≤ s) (h2 : s ≤ 9223372036854775807) (w : World) (hv : Prs w v l) (hn : l.length ≤ 1000) :
    Calls Tryz.prog 73 #[v, .int .i64 s, .int .i64 q] w (PairsNew w (chunkL l s q)) := by
  have HV := hid hv
  obtain ⟨ao, ca, rfl, a1, a2, a3, -⟩ := hv
  unfold maxLen at a2
  clear a3
  by_cases hq : q < 0
  · have d1 : decide (q < 0) = true := by simpa using hq
    have HC := hid (chunkL_none (l := l) (s := s) (q := q) (by omega))
    go_enter Tryz.func73, Tryz.ntmps73
    go_wp2
    go_ret
    exact ⟨_, rfl, by rw [HC.out]; exact World.ownsRow_nil _ _ _ _, Below.refl _ _⟩
  · have d1 : decide (q < 0) = false := by simpa using hq
    go_enter Tryz.func73, Tryz.ntmps73
    go_wp2_with fail
    refine (cut_Chunks_any (l.length : Int) s (by omega) (by omega) h1 h2 w).mono ?_
    rintro e w1 ⟨rfl, rfl⟩
    by_cases hc : chunksI l.length s ≤ q
    · have d2 : decide (chunksI l.length s ≤ q) = true := by simpa using hc
      have HC := hid (chunkL_none (l := l) (s := s) (q := q) (by omega))
      generalize chunksI l.length s = c at d2 hc ⊢
      go_wp2
      go_ret
      exact ⟨_, rfl, by rw [HC.out]; exact World.ownsRow_nil _ _ _ _, Below.refl _ _⟩
    · have d2 : decide (chunksI l.length s ≤ q) = false := by simpa using hc
      obtain ⟨hb1, hb2, hb3⟩ := seq_lt (n := l.length) (s := s) (q := q) (by omega) (by omega)
      obtain ⟨s, rfl⟩ : ∃ k : Nat, s = k := ⟨s.toNat, by omega⟩
      obtain ⟨q, rfl⟩ : ∃ k : Nat, q = k := ⟨q.toNat, by omega⟩
      have HC := hid (chunkL_some (l := l) (s := s) (q := q) (by omega))
      generalize chunksI l.length s = c at d2 hc ⊢
      rw [← Int.natCast_mul] at hb3
      obtain ⟨b, off, rfl, hb, c1, c2⟩ := HV.out.cell (j := q * s) (by omega)
      clear c1 c2
      obtain ⟨p, hp⟩ : ∃ p, q * s = p := ⟨_, rfl⟩
      have hpi : (q : Int) * (s : Int) = p := by rw [← Int.natCast_mul, hp]
      have hpl : p < l.length := by omega
      have hcap : ¬ ca = p := by omega
      rw [hp] at HC
      obtain ⟨e, he, he2⟩ : ∃ e : Nat, (if s ≤ l.length - p then s else l.length - p) = e ∧ e ≤ l.length - p := ⟨_, rfl, by split <;> omega⟩
      have HE := hid (show (l.drop p).take e = (l.drop p).take s by
        rw [← he]
        split
        · rfl
        · rw [List.take_of_length_le (by rw [List.length_drop]; omega), List.take_of_length_le (by rw [List.length_drop]; omega)])
      have m1 : min (s : Int) ((l.length - p : Nat) : Int) = (e : Int) := by
        rw [← he]
        split <;> omega
      have m2 : min (s : Int) ((l.length : Int) - (p : Int)) = (e : Int) := by
        rw [← he]
        split <;> omega
      have m3 : min ((l.length - p : Nat) : Int) (s : Int) = (e : Int) := by omega
      clear he
      go_wp2_with fail
      refine (clone_any _ ((l.drop p).take e) w (HV.out.sub (by omega)) (by rw [List.length_take]; omega)).mono ?_
      rintro e1 w1 ⟨u, rfl, ho, hb⟩
      have HO := hid ho
      have HB := hid hb
      clear ho hb
      go_wp2
      go_ret
      exact ⟨_, rfl, by rw [HC.out, ← HE.out]; exact HO.out, HB.out⟩
end Go.Proofs.YtfimoobgbodbmaaGreatDoor
