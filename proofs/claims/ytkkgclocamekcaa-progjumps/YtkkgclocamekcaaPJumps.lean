/- ProgJumps' walk: one jump, to any place. -/
import Derived.Test.YtkkgclocamekcaaPJumpM
namespace Go.Proofs.Ytkkgclocamekcaa
open Go.RowKit Go.Lib
set_option linter.unusedVariables false

set_option maxHeartbeats 2000000 in
theorem progJumps_walk (w : World) (x : Int) (wx : (Lit.int .i64 x).wf = true) (t : Int) (wt : (Lit.int .i64 t).wf = true) (f : Bool) :
    Calls Try.prog 5 #[.int .i64 x, .int .i64 t, .bool f] w fun e w' => e = .returned (.bool true) ∧ Below w.heap.size w w' := by
  obtain ⟨i0, hi, hz0, hz1, hz2⟩ := info_parts Try.infoIns
  have hlb := low_bd x 40 (by omega)
  obtain ⟨n, hn⟩ : ∃ n : Nat, 1 + low x 40 = (n : Int) := ⟨(1 + low x 40).toNat, by omega⟩
  have hn1 : 1 ≤ n := by omega
  have hn40 : n ≤ 40 := by omega
  obtain ⟨m, hm⟩ : ∃ m : Nat, n / 2 = m := ⟨_, rfl⟩
  have hmn : m < n := by omega
  have hq : Int.tdiv (n : Int) 2 = (m : Int) := by rw [Int.tdiv_eq_ediv_of_nonneg (by omega)]; omega
  have hbb : ∀ b : Bool, (b == b) = true := by simp
  go_enter Try.func5, Try.ntmps5
  go_wp2_with fail
  refine (low_any x 40 w (by omega) (by omega)).mono ?_
  rintro e w0 ⟨rfl, rfl⟩
  obtain ⟨w1, hrun, ho1, hg1⟩ := run_make_full (P := Try.prog) w w.heap.size 22 33 i0 _ 3 Try.underlying22 hi hz0 hz1 .i64 .i64 n (by rw [hz2]; omega) (by unfold maxLen; omega) (Nat.le_refl _)
  have ho1' : w1.ownsRow w.heap.size 33 3 (.slice (some ⟨w.heap.size, 0, none⟩) n n) n (icl (List.replicate n zInst)) := by rw [← made_icl]; exact ho1
  have k1 : Below w.heap.size w w1 := (Below.refl _ w).grown hg1 (Nat.le_refl _) (by intro q hq; cases hq)
  clear ho1 hg1
  obtain ⟨c0, hc0⟩ := own_cell3 ho1' (j := m * 3) (by omega)
  obtain ⟨c1, hc1⟩ := own_cell3 ho1' (j := m * 3 + 1) (by omega)
  obtain ⟨c2, hc2⟩ := own_cell3 ho1' (j := m * 3 + 2) (by omega)
  have hf0 := ho1'.frozenAt (m * 3)
  have hf1 := ho1'.frozenAt (m * 3 + 1)
  have hf2 := ho1'.frozenAt (m * 3 + 2)
  have hstore : ∀ o : Int, Co (((w1.setCell ⟨w.heap.size, m * 3, none⟩ (.int .i64 o)).setCell ⟨w.heap.size, m * 3 + 1, none⟩ (.int .i64 t)).setCell ⟨w.heap.size, m * 3 + 2, none⟩ (.string ⟨#[]⟩)) (.slice (some ⟨w.heap.size, 0, none⟩) n n) (one n m (o, t, ⟨#[]⟩)) ∧ Below w.heap.size w (((w1.setCell ⟨w.heap.size, m * 3, none⟩ (.int .i64 o)).setCell ⟨w.heap.size, m * 3 + 1, none⟩ (.int .i64 t)).setCell ⟨w.heap.size, m * 3 + 2, none⟩ (.string ⟨#[]⟩)) := by
    intro o
    have s1 := ho1'.stored (m * 3) (.int .i64 o)
    have s2 := s1.1.stored (m * 3 + 1) (.int .i64 t)
    have s3 := s2.1.stored (m * 3 + 2) (.string ⟨#[]⟩)
    have b1 := k1.grown s1.2 k1.size (by intro q hq; cases hq; exact Nat.le_refl _)
    have b2 := b1.grown s2.2 b1.size (by intro q hq; cases hq; exact Nat.le_refl _)
    refine ⟨?_, b2.grown s3.2 b2.size (by intro q hq; cases hq; exact Nat.le_refl _)⟩
    have h := s3.1
    rw [← icl_set _ m (o, t, ⟨#[]⟩)] at h
    exact Co.own h
  have HS := hid hstore
  have HZ := hid hz0
  clear hstore ho1' hz0 hlb
  cases f
  · have ho : (19 : Int) = 19 ∨ (19 : Int) = 20 := by omega
    have h7 := HS.out 19
    have HC := hid h7.1
    have HB := hid h7.2
    clear h7 HS
    by_cases hto : 0 ≤ t ∧ t ≤ n
    · have ht1 : decide (t < 0) = false := by simp; omega
      have ht2 : decide ((n : Int) < t) = false := by simp; omega
      have hgood : good (19, t, ⟨#[]⟩) n = true := by rw [good_to ho]; simp; omega
      have HF := hid (fine_one hmn hn40 hgood)
      have HT := hid (targets_one hmn hn40 hgood (jumps_to ho))
      clear hgood
      go_wp2_with fail
      generalize hW : (((w1.setCell ⟨w.heap.size, m * 3, none⟩ (.int .i64 19)).setCell ⟨w.heap.size, m * 3 + 1, none⟩ (.int .i64 t)).setCell ⟨w.heap.size, m * 3 + 2, none⟩ (.string ⟨#[]⟩)) = W at HC HB ⊢
      clear hW hrun hc0 hc1 hc2 hf0 hf1 hf2
      refine (may_any _ _ W HC.out).mono ?_
      rintro e w2 ⟨rfl, hb2⟩
      rw [HF.out, show decide ((-1 : Int) < 0) = true from rfl]
      have k2 := hb2
      clear hb2
      go_wp2_with fail
      refine (targets_any _ _ w2 (HC.out.below k2)).mono ?_
      rintro e w3 ⟨v3, rfl, ho3, hb3⟩
      have k3 := below_next k2 hb3 k2.size
      rw [HT.out] at ho3
      have HO3 := hid (Is.owned ho3)
      clear hb3 ho3 k2
      go_wp2_with fail
      refine (sameInts_any v3 _ [t] [t] _ (HO3.out.below ((Below.refl _ w3).alloc (Nat.le_refl _) _)) (Is.made [t] w3 (by simp))).mono ?_
      rintro e w4 ⟨rfl, q4, rfl⟩
      rw [show decide (([t] : List Int) = [t]) = true from decide_eq_true rfl]
      have k4 := below_next (k3.alloc k3.size (Obj.cells #[Value.int .i64 t] 3)) (drew_below _ q4) (by have := k3.size; simp; omega)
      change Below W.heap.size W ((w3.alloc (Obj.cells #[Value.int .i64 t] 3)).drewN q4) at k4
      clear k3 HO3
      have hal : ((ict [t]).toArray : Array Value) = #[Value.int .i64 t] := rfl
      try rw [hal]
      generalize (w3.alloc (Obj.cells #[Value.int .i64 t] 3)).drewN q4 = w5 at k4 ⊢
      obtain ⟨w6, hrun, ho6, hg6⟩ := run_make_full (P := Try.prog) w5 w5.heap.size 22 33 i0 _ 3 Try.underlying22 hi HZ.out hz1 .i64 .i64 (41 + n) (by rw [hz2]; omega) (by unfold maxLen; omega) (Nat.le_refl _)
      have HO6 := hid (show Co w6 (.slice (some ⟨w5.heap.size, 0, none⟩) (41 + n) (41 + n)) (List.replicate (41 + n) zInst) from Co.own (n := 41 + n) (by rw [← made_icl]; exact ho6))
      have k6 := below_next k4 ((Below.refl _ w5).grown hg6 (Nat.le_refl _) (by intro q hq; cases hq)) k4.size
      clear ho6 hg6 k4
      have h41 : (41 : Int) + (n : Int) = ((41 + n : Nat) : Int) := by omega
      rw [show ((41 + n : Nat) : Int) = 41 + (n : Int) by omega] at hrun
      clear h41
      go_wp2_with fail
      refine (bad_any _ _ w6 HO6.out).mono ?_
      rintro e w7 ⟨rfl, hb7⟩
      rw [bad_many (41 + n) (by omega)]
      have k7 := below_next k6 hb7 k6.size
      clear hb7 k6
      go_wp2_with fail
      refine (awake_calls _).mono ?_
      rintro e w8 ⟨rfl, hb8⟩
      have k8 := below_next k7 hb8 k7.size
      go_wp2
      go_ret
      exact ⟨rfl, below_next HB.out k8 HB.out.size⟩
    · have hgood : good (19, t, ⟨#[]⟩) n = false := by rw [good_to ho]; simp; omega
      have HF := hid (bad_one hmn hn40 hgood)
      have HT := hid (targets_bad hmn hn40 hgood)
      clear hgood
      by_cases ht : t < 0
      · have ht1 : decide (t < 0) = true := by simp; omega
        go_wp2_with fail
        generalize hW : (((w1.setCell ⟨w.heap.size, m * 3, none⟩ (.int .i64 19)).setCell ⟨w.heap.size, m * 3 + 1, none⟩ (.int .i64 t)).setCell ⟨w.heap.size, m * 3 + 2, none⟩ (.string ⟨#[]⟩)) = W at HC HB ⊢
        clear hW hrun hc0 hc1 hc2 hf0 hf1 hf2
        refine (bad_any _ _ W HC.out).mono ?_
        rintro e w2 ⟨rfl, hb2⟩
        rw [HF.out]
        have hmm : ((m : Int) == (m : Int)) = true := by simp
        have k2 := hb2
        clear hb2
        go_wp2_with fail
        refine (targets_any _ _ w2 (HC.out.below k2)).mono ?_
        rintro e w3 ⟨v3, rfl, ho3, hb3⟩
        have k3 := below_next k2 hb3 k2.size
        rw [HT.out] at ho3
        obtain ⟨ao, cap, hv3, _⟩ := Is.owned ho3
        subst hv3
        clear hb3 ho3 k2
        go_wp2_with fail
        refine (awake_calls _).mono ?_
        rintro e w8 ⟨rfl, hb8⟩
        have k8 := below_next k3 hb8 k3.size
        go_wp2
        go_ret
        exact ⟨rfl, below_next HB.out k8 HB.out.size⟩
      · have ht1 : decide (t < 0) = false := by simp; omega
        have ht2 : decide ((n : Int) < t) = true := by simp; omega
        go_wp2_with fail
        generalize hW : (((w1.setCell ⟨w.heap.size, m * 3, none⟩ (.int .i64 19)).setCell ⟨w.heap.size, m * 3 + 1, none⟩ (.int .i64 t)).setCell ⟨w.heap.size, m * 3 + 2, none⟩ (.string ⟨#[]⟩)) = W at HC HB ⊢
        clear hW hrun hc0 hc1 hc2 hf0 hf1 hf2
        refine (bad_any _ _ W HC.out).mono ?_
        rintro e w2 ⟨rfl, hb2⟩
        rw [HF.out]
        have hmm : ((m : Int) == (m : Int)) = true := by simp
        have k2 := hb2
        clear hb2
        go_wp2_with fail
        refine (targets_any _ _ w2 (HC.out.below k2)).mono ?_
        rintro e w3 ⟨v3, rfl, ho3, hb3⟩
        have k3 := below_next k2 hb3 k2.size
        rw [HT.out] at ho3
        obtain ⟨ao, cap, hv3, _⟩ := Is.owned ho3
        subst hv3
        clear hb3 ho3 k2
        go_wp2_with fail
        refine (awake_calls _).mono ?_
        rintro e w8 ⟨rfl, hb8⟩
        have k8 := below_next k3 hb8 k3.size
        go_wp2
        go_ret
        exact ⟨rfl, below_next HB.out k8 HB.out.size⟩
  · have ho : (20 : Int) = 19 ∨ (20 : Int) = 20 := by omega
    have h7 := HS.out 20
    have HC := hid h7.1
    have HB := hid h7.2
    clear h7 HS
    by_cases hto : 0 ≤ t ∧ t ≤ n
    · have ht1 : decide (t < 0) = false := by simp; omega
      have ht2 : decide ((n : Int) < t) = false := by simp; omega
      have hgood : good (20, t, ⟨#[]⟩) n = true := by rw [good_to ho]; simp; omega
      have HF := hid (fine_one hmn hn40 hgood)
      have HT := hid (targets_one hmn hn40 hgood (jumps_to ho))
      clear hgood
      go_wp2_with fail
      generalize hW : (((w1.setCell ⟨w.heap.size, m * 3, none⟩ (.int .i64 20)).setCell ⟨w.heap.size, m * 3 + 1, none⟩ (.int .i64 t)).setCell ⟨w.heap.size, m * 3 + 2, none⟩ (.string ⟨#[]⟩)) = W at HC HB ⊢
      clear hW hrun hc0 hc1 hc2 hf0 hf1 hf2
      refine (may_any _ _ W HC.out).mono ?_
      rintro e w2 ⟨rfl, hb2⟩
      rw [HF.out, show decide ((-1 : Int) < 0) = true from rfl]
      have k2 := hb2
      clear hb2
      go_wp2_with fail
      refine (targets_any _ _ w2 (HC.out.below k2)).mono ?_
      rintro e w3 ⟨v3, rfl, ho3, hb3⟩
      have k3 := below_next k2 hb3 k2.size
      rw [HT.out] at ho3
      have HO3 := hid (Is.owned ho3)
      clear hb3 ho3 k2
      go_wp2_with fail
      refine (sameInts_any v3 _ [t] [t] _ (HO3.out.below ((Below.refl _ w3).alloc (Nat.le_refl _) _)) (Is.made [t] w3 (by simp))).mono ?_
      rintro e w4 ⟨rfl, q4, rfl⟩
      rw [show decide (([t] : List Int) = [t]) = true from decide_eq_true rfl]
      have k4 := below_next (k3.alloc k3.size (Obj.cells #[Value.int .i64 t] 3)) (drew_below _ q4) (by have := k3.size; simp; omega)
      change Below W.heap.size W ((w3.alloc (Obj.cells #[Value.int .i64 t] 3)).drewN q4) at k4
      clear k3 HO3
      have hal : ((ict [t]).toArray : Array Value) = #[Value.int .i64 t] := rfl
      try rw [hal]
      generalize (w3.alloc (Obj.cells #[Value.int .i64 t] 3)).drewN q4 = w5 at k4 ⊢
      obtain ⟨w6, hrun, ho6, hg6⟩ := run_make_full (P := Try.prog) w5 w5.heap.size 22 33 i0 _ 3 Try.underlying22 hi HZ.out hz1 .i64 .i64 (41 + n) (by rw [hz2]; omega) (by unfold maxLen; omega) (Nat.le_refl _)
      have HO6 := hid (show Co w6 (.slice (some ⟨w5.heap.size, 0, none⟩) (41 + n) (41 + n)) (List.replicate (41 + n) zInst) from Co.own (n := 41 + n) (by rw [← made_icl]; exact ho6))
      have k6 := below_next k4 ((Below.refl _ w5).grown hg6 (Nat.le_refl _) (by intro q hq; cases hq)) k4.size
      clear ho6 hg6 k4
      have h41 : (41 : Int) + (n : Int) = ((41 + n : Nat) : Int) := by omega
      rw [show ((41 + n : Nat) : Int) = 41 + (n : Int) by omega] at hrun
      clear h41
      go_wp2_with fail
      refine (bad_any _ _ w6 HO6.out).mono ?_
      rintro e w7 ⟨rfl, hb7⟩
      rw [bad_many (41 + n) (by omega)]
      have k7 := below_next k6 hb7 k6.size
      clear hb7 k6
      go_wp2_with fail
      refine (awake_calls _).mono ?_
      rintro e w8 ⟨rfl, hb8⟩
      have k8 := below_next k7 hb8 k7.size
      go_wp2
      go_ret
      exact ⟨rfl, below_next HB.out k8 HB.out.size⟩
    · have hgood : good (20, t, ⟨#[]⟩) n = false := by rw [good_to ho]; simp; omega
      have HF := hid (bad_one hmn hn40 hgood)
      have HT := hid (targets_bad hmn hn40 hgood)
      clear hgood
      by_cases ht : t < 0
      · have ht1 : decide (t < 0) = true := by simp; omega
        go_wp2_with fail
        generalize hW : (((w1.setCell ⟨w.heap.size, m * 3, none⟩ (.int .i64 20)).setCell ⟨w.heap.size, m * 3 + 1, none⟩ (.int .i64 t)).setCell ⟨w.heap.size, m * 3 + 2, none⟩ (.string ⟨#[]⟩)) = W at HC HB ⊢
        clear hW hrun hc0 hc1 hc2 hf0 hf1 hf2
        refine (bad_any _ _ W HC.out).mono ?_
        rintro e w2 ⟨rfl, hb2⟩
        rw [HF.out]
        have hmm : ((m : Int) == (m : Int)) = true := by simp
        have k2 := hb2
        clear hb2
        go_wp2_with fail
        refine (targets_any _ _ w2 (HC.out.below k2)).mono ?_
        rintro e w3 ⟨v3, rfl, ho3, hb3⟩
        have k3 := below_next k2 hb3 k2.size
        rw [HT.out] at ho3
        obtain ⟨ao, cap, hv3, _⟩ := Is.owned ho3
        subst hv3
        clear hb3 ho3 k2
        go_wp2_with fail
        refine (awake_calls _).mono ?_
        rintro e w8 ⟨rfl, hb8⟩
        have k8 := below_next k3 hb8 k3.size
        go_wp2
        go_ret
        exact ⟨rfl, below_next HB.out k8 HB.out.size⟩
      · have ht1 : decide (t < 0) = false := by simp; omega
        have ht2 : decide ((n : Int) < t) = true := by simp; omega
        go_wp2_with fail
        generalize hW : (((w1.setCell ⟨w.heap.size, m * 3, none⟩ (.int .i64 20)).setCell ⟨w.heap.size, m * 3 + 1, none⟩ (.int .i64 t)).setCell ⟨w.heap.size, m * 3 + 2, none⟩ (.string ⟨#[]⟩)) = W at HC HB ⊢
        clear hW hrun hc0 hc1 hc2 hf0 hf1 hf2
        refine (bad_any _ _ W HC.out).mono ?_
        rintro e w2 ⟨rfl, hb2⟩
        rw [HF.out]
        have hmm : ((m : Int) == (m : Int)) = true := by simp
        have k2 := hb2
        clear hb2
        go_wp2_with fail
        refine (targets_any _ _ w2 (HC.out.below k2)).mono ?_
        rintro e w3 ⟨v3, rfl, ho3, hb3⟩
        have k3 := below_next k2 hb3 k2.size
        rw [HT.out] at ho3
        obtain ⟨ao, cap, hv3, _⟩ := Is.owned ho3
        subst hv3
        clear hb3 ho3 k2
        go_wp2_with fail
        refine (awake_calls _).mono ?_
        rintro e w8 ⟨rfl, hb8⟩
        have k8 := below_next k3 hb8 k3.size
        go_wp2
        go_ret
        exact ⟨rfl, below_next HB.out k8 HB.out.size⟩
end Go.Proofs.Ytkkgclocamekcaa
