/- CutFewer: greater chunks are no more, more pairs no fewer; of an odd attempt there are no more than of an even one. -/
import Derived.Test.YthjoomcannfnjaaCAwake
namespace Go.Proofs.Ythjoomcannfnjaa
open Go.RowKit
set_option linter.unusedVariables false

set_option maxRecDepth 100000 in
set_option maxHeartbeats 4000000 in
theorem cutFewer_plain (w : World) (n size more att : Int) :
    Calls Try.prog 6 #[.int .i64 n, .int .i64 size, .int .i64 more, .int .i64 att] w fun e w' => e = .returned (.bool true) ∧ Below w.heap.size w w' := by
  go_enter Try.func6, Try.ntmps6
  go_wp2_with fail
  refine (low_calls n 200 (by decide) (by decide) _).mono ?_
  rintro e w1 ⟨rfl, rfl⟩
  obtain ⟨a1, a2⟩ := low_bd n 200 (by decide)
  generalize low n 200 = a at a1 a2 ⊢
  go_wp2_with fail
  refine (low_calls size 20 (by decide) (by decide) _).mono ?_
  rintro e w1 ⟨rfl, rfl⟩
  obtain ⟨b1, b2⟩ := low_bd size 20 (by decide)
  generalize low size 20 = b at b1 b2 ⊢
  go_wp2_with fail
  refine (low_calls more 20 (by decide) (by decide) _).mono ?_
  rintro e w1 ⟨rfl, rfl⟩
  obtain ⟨m1, m2⟩ := low_bd more 20 (by decide)
  generalize low more 20 = m at m1 m2 ⊢
  go_wp2_with fail
  refine (low_calls att 100 (by decide) (by decide) _).mono ?_
  rintro e w1 ⟨rfl, rfl⟩
  obtain ⟨t1, t2⟩ := low_bd att 100 (by decide)
  generalize low att 100 = t at t1 t2 ⊢
  rename World => w
  obtain ⟨s, hs⟩ : ∃ s, 1 + b = s := ⟨_, rfl⟩
  obtain ⟨r, hr⟩ : ∃ r, 2 * t = r := ⟨_, rfl⟩
  go_wp2_with fail
  refine (cut_Chunks_any a s (by omega) (by omega) (by omega) (by omega) _).mono ?_
  rintro e w1 ⟨rfl, rfl⟩
  have f0 := chunksI_bd a s a1
  have f1 := chunksI_more (n := a) (s := s) (m := m) (by omega) m1
  have f2 := chunksI_grows (n := a) (s := s) (m := m) (by omega) m1
  have f3 := chunksI_mul (n := a) (s := s) (by omega)
  have f4 : 0 < chunksI a s → (chunksI a s - 1) * s < a := fun h => (seq_lt (n := a) (s := s) (q := chunksI a s - 1) (by omega) (by omega)).2.2
  have f5 := chunksI_more (n := a) (s := s) (m := 1) (by omega) (by decide)
  have g0 : sizeI s r = s := sizeI_even (by omega)
  have g1 : sizeI s (r + 1) = s + 1 := sizeI_odd (by omega)
  obtain ⟨k, hk⟩ : ∃ k, chunksI a s = k := ⟨_, rfl⟩
  have HK := hid hk
  rw [hk] at f0 f1 f2 f3 f4 f5
  rw [hk]
  clear hk
  obtain ⟨sm, hsm⟩ : ∃ x, s + m = x := ⟨_, rfl⟩
  obtain ⟨am, ham⟩ : ∃ x, a + m = x := ⟨_, rfl⟩
  obtain ⟨ks, hks⟩ : ∃ x, k * s = x := ⟨_, rfl⟩
  obtain ⟨kp, hkp⟩ : ∃ x, k - 1 = x := ⟨_, rfl⟩
  obtain ⟨kq, hkq⟩ : ∃ x, kp * s = x := ⟨_, rfl⟩
  obtain ⟨s1, hs1⟩ : ∃ x, s + 1 = x := ⟨_, rfl⟩
  obtain ⟨r1, hr1⟩ : ∃ x, r + 1 = x := ⟨_, rfl⟩
  rw [hks] at f3
  rw [hkp, hkq] at f4
  rw [hsm] at f1
  rw [ham] at f2
  rw [hs1] at f5
  rw [hr1, hs1] at g1
  have hks2 : ks ≤ 200 * s := by rw [← hks]; exact Int.mul_le_mul_of_nonneg_right (by omega) (by omega)
  have hkq2 : kq ≤ 200 * s := by rw [← hkq]; exact Int.mul_le_mul_of_nonneg_right (by omega) (by omega)
  have hkq3 : (-1) * s ≤ kq := by rw [← hkq]; exact Int.mul_le_mul_of_nonneg_right (by omega) (by omega)
  go_wp2_with fail
  refine (cut_Chunks_any a sm (by omega) (by omega) (by omega) (by omega) _).mono ?_
  rintro e w1 ⟨rfl, rfl⟩
  generalize chunksI a sm = k2 at f1 ⊢
  have d1 : decide (k < k2) = false := by simp; omega
  go_wp2_with fail
  refine (cut_Chunks_any am s (by omega) (by omega) (by omega) (by omega) _).mono ?_
  rintro e w1 ⟨rfl, rfl⟩
  generalize chunksI am s = k3 at f2 ⊢
  have d2 : decide (k3 < k) = false := by simp; omega
  have d3 : decide (ks < a) = false := by simp; omega
  rename World => w
  by_cases hk0 : 0 < k
  · have d4 : decide (0 < k) = true := by simp; omega
    have f6 := f4 hk0
    have d5 : decide (a ≤ kq) = false := by simp; omega
    clear f4
    go_wp2_with fail
    refine (cut_Size_any s r (by omega) (by omega) _).mono ?_
    rintro e w1 ⟨rfl, rfl⟩
    rw [g0]
    go_wp2_with fail
    refine (cut_Size_any s r1 (by omega) (by omega) _).mono ?_
    rintro e w1 ⟨rfl, rfl⟩
    rw [g1]
    have e1 : (s == s) = true := by simp
    have e2 : (s1 == s1) = true := by simp
    go_wp2_with fail
    refine (cut_Chunks_any a s1 (by omega) (by omega) (by omega) (by omega) _).mono ?_
    rintro e w1 ⟨rfl, rfl⟩
    generalize chunksI a s1 = k5 at f5 ⊢
    have d6 : decide (k5 ≤ k) = true := by simp; omega
    go_wp2_with fail
    refine (cut_Chunks_any a s (by omega) (by omega) (by omega) (by omega) _).mono ?_
    rintro e w1 ⟨rfl, rfl⟩
    rw [HK.out]
    go_wp2_with fail
    refine (awake_calls _).mono ?_
    rintro e w9 ⟨rfl, hb9⟩
    go_wp2
    go_ret
    exact ⟨rfl, hb9⟩
  · have d4 : decide (0 < k) = false := by simp; omega
    clear f4
    go_wp2_with fail
    refine (cut_Size_any s r (by omega) (by omega) _).mono ?_
    rintro e w1 ⟨rfl, rfl⟩
    rw [g0]
    go_wp2_with fail
    refine (cut_Size_any s r1 (by omega) (by omega) _).mono ?_
    rintro e w1 ⟨rfl, rfl⟩
    rw [g1]
    have e1 : (s == s) = true := by simp
    have e2 : (s1 == s1) = true := by simp
    go_wp2_with fail
    refine (cut_Chunks_any a s1 (by omega) (by omega) (by omega) (by omega) _).mono ?_
    rintro e w1 ⟨rfl, rfl⟩
    generalize chunksI a s1 = k5 at f5 ⊢
    have d6 : decide (k5 ≤ k) = true := by simp; omega
    go_wp2_with fail
    refine (cut_Chunks_any a s (by omega) (by omega) (by omega) (by omega) _).mono ?_
    rintro e w1 ⟨rfl, rfl⟩
    rw [HK.out]
    go_wp2_with fail
    refine (awake_calls _).mono ?_
    rintro e w9 ⟨rfl, hb9⟩
    go_wp2
    go_ret
    exact ⟨rfl, hb9⟩
theorem cutFewer_walk (w : World) (n : Int) (wn : (Lit.int .i64 n).wf = true) (size : Int) (ws : (Lit.int .i64 size).wf = true) (more : Int) (wm : (Lit.int .i64 more).wf = true) (att : Int) (wa : (Lit.int .i64 att).wf = true) :
    Calls Try.prog 6 #[.int .i64 n, .int .i64 size, .int .i64 more, .int .i64 att] w fun e w' => e = .returned (.bool true) ∧ Below w.heap.size w w' := cutFewer_plain w n size more att
end Go.Proofs.Ythjoomcannfnjaa
