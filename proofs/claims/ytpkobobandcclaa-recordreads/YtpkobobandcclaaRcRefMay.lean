/- Which records may be: the document's own May. -/
import Derived.Test.YtpkobobandcclaaRcMay
namespace Go.Proofs.Ytpkobobandcclaa
open Go.RowKit
set_option linter.unusedVariables false

theorem refIn_calls (n lo hi : Int) (w : World) : Calls Try.prog 32 #[.int .i64 n, .int .i64 lo, .int .i64 hi] w fun e w' => e = .returned (.bool (inI n lo hi)) ∧ w = w' := by
  by_cases h : lo ≤ n
  · have hd : decide (lo ≤ n) = true := by simpa using h
    have HR := hid (show inI n lo hi = decide (n ≤ hi) by simp [inI, hd])
    go_enter Try.func32, Try.ntmps32
    go_wp2
    go_ret
    exact ⟨by rw [HR.out]; rfl, rfl⟩
  · have hd : decide (lo ≤ n) = false := by simpa using h
    have HR := hid (show inI n lo hi = false by simp [inI, hd])
    go_enter Try.func32, Try.ntmps32
    go_wp2
    go_ret
    exact ⟨by rw [HR.out]; rfl, rfl⟩
theorem refIn_quiet (n lo hi : Int) (g : Bool) (hg : inI n lo hi = g) (w : World) (t : Nat) : ∀ q, Calls Try.prog 32 #[.int .i64 n, .int .i64 lo, .int .i64 hi] (w.drewN (t + q)) fun e w' => e = .returned (.bool g) ∧ ∃ m, w' = w.drewN (t + m) :=
  fun q => (refIn_calls n lo hi (w.drewN (t + q))).mono fun e w' ⟨h1, h2⟩ => ⟨by rw [h1, hg], q, h2.symm⟩
theorem ref_won {r : RecV} (h : r.kind = 1) : mayR r = (inI r.split 0 5 && ((r.part == 0) && (inI r.attempt 1 3 && ((r.reason == 0) && (decide ((r.set.length : Int) ≤ 4) && (((r.prs.length : Int) == 0) && r.set.all (fun x => inI x 0 40))))))) := by
  unfold mayR setW
  rw [if_pos h, Bool.eq_iff_iff]
  simp only [Bool.and_eq_true, decide_eq_true_eq, beq_iff_eq, Int.natCast_eq_zero]
  constructor
  · rintro ⟨⟨⟨⟨⟨a, b⟩, c⟩, d⟩, e1, e2⟩, f⟩
    exact ⟨a, b, c, d, by omega, f, e2⟩
  · rintro ⟨a, b, c, d, e1, f, e2⟩
    exact ⟨⟨⟨⟨⟨a, b⟩, c⟩, d⟩, by omega, e2⟩, f⟩
theorem ref_none {r : RecV} (h : r.kind = 2 ∨ r.kind = 6) : mayR r = ((r.split == 0) && ((r.part == 0) && ((r.attempt == 0) && ((r.reason == 0) && (((r.set.length : Int) == 0) && ((r.prs.length : Int) == 0)))))) := by
  unfold mayR
  rw [if_neg (by omega), if_pos h, Bool.eq_iff_iff]
  simp only [Bool.and_eq_true, decide_eq_true_eq, beq_iff_eq, Int.natCast_eq_zero, and_assoc]
theorem ref_over0 {r : RecV} (h : r.kind = 3) (h0 : r.attempt = 0) : mayR r = (inI r.split 0 5 && ((r.part == 0) && (inI r.reason 1 6 && (((r.set.length : Int) == 0) && ((r.prs.length : Int) == 0))))) := by
  unfold mayR
  rw [if_neg (by omega), if_neg (by omega), if_pos h, Bool.eq_iff_iff]
  simp only [Bool.and_eq_true, Bool.or_eq_true, decide_eq_true_eq, beq_iff_eq, inI_iff]
  omega
theorem ref_over1 {r : RecV} (h : r.kind = 3) (h0 : r.attempt = 1) : mayR r = (inI r.part 0 3 && ((r.split == 0) && (inI r.reason 1 6 && (((r.set.length : Int) == 0) && ((r.prs.length : Int) == 0))))) := by
  unfold mayR
  rw [if_neg (by omega), if_neg (by omega), if_pos h, Bool.eq_iff_iff]
  simp only [Bool.and_eq_true, Bool.or_eq_true, decide_eq_true_eq, beq_iff_eq, inI_iff]
  omega
theorem ref_merged {r : RecV} (h : r.kind = 4) : mayR r = (inI r.part 0 3 && (inI r.split 0 5 && (inI r.attempt 1 3 && ((r.reason == 0) && (((r.set.length : Int) == 0) && (decide ((r.prs.length : Int) ≤ 40) && mayP r.prs)))))) := by
  unfold mayR prsR
  rw [if_neg (by omega), if_neg (by omega), if_neg (by omega), if_pos h, mayP_okJ, Bool.eq_iff_iff]
  simp only [Bool.and_eq_true, decide_eq_true_eq, beq_iff_eq, Int.natCast_eq_zero, and_assoc]
  constructor
  · rintro ⟨a, b, c, d, e1, e2, f⟩
    exact ⟨a, b, c, d, e1, by omega, f⟩
  · rintro ⟨a, b, c, d, e1, e2, f⟩
    exact ⟨a, b, c, d, e1, by omega, f⟩
theorem ref_snap {r : RecV} (h : r.kind = 5) : mayR r = (inI r.part 0 3 && ((r.split == 0) && ((r.attempt == 0) && ((r.reason == 0) && (((r.prs.length : Int) == 0) && setS r.set))))) := by
  unfold mayR
  rw [if_neg (by omega), if_neg (by omega), if_neg (by omega), if_neg (by omega), if_pos h, Bool.eq_iff_iff]
  simp only [Bool.and_eq_true, decide_eq_true_eq, beq_iff_eq, Int.natCast_eq_zero, and_assoc]
  constructor
  · rintro ⟨a, b, c, d, e, f⟩
    exact ⟨a, b, c, d, f, e⟩
  · rintro ⟨a, b, c, d, f, e⟩
    exact ⟨a, b, c, d, e, f⟩
set_option maxRecDepth 100000 in
set_option maxHeartbeats 16000000 in
theorem refRWon_any (r : RecV) (so : Option Addr) (sc : Nat) (po : Option Addr) (pc : Nat) (w : World) (hr : RecIs w so sc po pc r) (hk : r.kind = 1) :
    Calls Try.prog 13 #[.agg #[.int .i64 r.kind, .int .i64 r.part, .int .i64 r.split, .int .i64 r.attempt, .int .i64 r.reason, .slice so r.set.length sc, .slice po r.prs.length pc]] w fun e w' => e = .returned (.bool (mayR r)) ∧ Below w.heap.size w w' := by
  have HK := hid hk
  have HB := hid (alloc_one w (.cells #[.int .i64 r.kind, .int .i64 r.part, .int .i64 r.split, .int .i64 r.attempt, .int .i64 r.reason, .slice so r.set.length sc, .slice po r.prs.length pc] 33))
  have HI := hid (hr.below HB.out)
  have hsl := hr.set.len
  have hql := prs_len hr.prs
  obtain ⟨zs, hzs⟩ : ∃ z, (r.split == 0) = z := ⟨_, rfl⟩
  have Hzs := hid hzs
  obtain ⟨zp, hzp⟩ : ∃ z, (r.part == 0) = z := ⟨_, rfl⟩
  have Hzp := hid hzp
  obtain ⟨za, hza⟩ : ∃ z, (r.attempt == 0) = z := ⟨_, rfl⟩
  have Hza := hid hza
  obtain ⟨zr, hzr⟩ : ∃ z, (r.reason == 0) = z := ⟨_, rfl⟩
  have Hzr := hid hzr
  obtain ⟨zt, hzt⟩ : ∃ z, ((r.set.length : Int) == 0) = z := ⟨_, rfl⟩
  have Hzt := hid hzt
  obtain ⟨zq, hzq⟩ : ∃ z, ((r.prs.length : Int) == 0) = z := ⟨_, rfl⟩
  have Hzq := hid hzq
  obtain ⟨z4, hz4⟩ : ∃ z, decide ((r.set.length : Int) ≤ 4) = z := ⟨_, rfl⟩
  have Hz4 := hid hz4
  have k1 : (r.kind == 1) = true := by rw [hk]; rfl
  have k2 : (r.kind == 2) = false := by rw [hk]; rfl
  have k6 : (r.kind == 6) = false := by rw [hk]; rfl
  have k3 : (r.kind == 3) = false := by rw [hk]; rfl
  have k4 : (r.kind == 4) = false := by rw [hk]; rfl
  have k5 : (r.kind == 5) = false := by rw [hk]; rfl
  clear hr hk
  go_enter Try.func13, Try.ntmps13
  go_wp2
  go_quiet (fail)
  go_wp2
  go_quiet (fail)
  go_wp2
  go_loopw [9] (fun i wr => ∃ k : Nat, k ≤ r.set.length ∧ (r.set.take k).all (fun x => inI x 0 40) = true ∧ i = .int .i64 k ∧ ∃ t, wr = (w.alloc (.cells #[.int .i64 r.kind, .int .i64 r.part, .int .i64 r.split, .int .i64 r.attempt, .int .i64 r.reason, .slice so r.set.length sc, .slice po r.prs.length pc] 33)).drewN t) (fun i _ => r.set.length - (intOf i).toNat)
  case atStart => exact ⟨0, by omega, rfl, rfl, _, rfl⟩
  case round =>
    obtain ⟨k, hk, hm, rfl, t, rfl⟩ := hrel
    have HM := hid hm
    clear hm
    by_cases hlt : k < r.set.length
    · obtain ⟨b, off, x, hx, rfl, hb, c1⟩ := HI.out.set.cell hlt
      have HX := hid hx
      clear hx
      have hd4 : decide ((k : Int) < (r.set.length : Int)) = true := by simp; omega
      go_wp2_with fail
      refine (refIn_calls x 0 40 _).mono ?_
      rintro e w1 ⟨rfl, rfl⟩
      obtain ⟨g1, hg1⟩ : ∃ g, inI x 0 40 = g := ⟨_, rfl⟩
      have HG1 := hid hg1
      rw [hg1]
      clear hg1
      cases g1
      · have HR := hid (show mayR r = false by rw [ref_won HK.out, all_not HX.out HG1.out]; simp)
        go_wp2
        go_ret
        exact ⟨by rw [HR.out]; rfl, below_then HB.out (drewN_below _ _) HB.out.size⟩
      · have HS := hid (all_step HM.out HX.out HG1.out)
        go_wp2
        go_roundw
        case rel => exact ⟨k + 1, by omega, HS.out, by go_num, _, rfl⟩
        case measure => simp [intOf]; omega
    · obtain rfl : k = r.set.length := by omega
      have hd4 : decide ((r.set.length : Int) < (r.set.length : Int)) = false := by simp
      have HS := hid (show r.set.all (fun x => inI x 0 40) = true by have := HM.out; rw [List.take_length] at this; exact this)
      go_wp2_with fail
      refine (refIn_calls r.split 0 5 _).mono ?_
      rintro e w1 ⟨rfl, rfl⟩
      obtain ⟨gsplit, hgsplit⟩ : ∃ g, inI r.split 0 5 = g := ⟨_, rfl⟩
      have Hsplit := hid hgsplit
      rw [hgsplit]
      clear hgsplit
      cases gsplit
      · have HR := hid (show mayR r = false by rw [ref_won HK.out, Hsplit.out]; simp)
        go_wp2
        go_ret
        exact ⟨by rw [HR.out]; rfl, below_then HB.out (drewN_below _ _) HB.out.size⟩
      cases zp
      · have HR := hid (show mayR r = false by rw [ref_won HK.out, Hzp.out]; simp)
        go_wp2
        go_ret
        exact ⟨by rw [HR.out]; rfl, below_then HB.out (drewN_below _ _) HB.out.size⟩
      go_wp2_with fail
      refine (refIn_calls r.attempt 1 3 _).mono ?_
      rintro e w1 ⟨rfl, rfl⟩
      obtain ⟨gattempt, hgattempt⟩ : ∃ g, inI r.attempt 1 3 = g := ⟨_, rfl⟩
      have Hattempt := hid hgattempt
      rw [hgattempt]
      clear hgattempt
      cases gattempt
      · have HR := hid (show mayR r = false by rw [ref_won HK.out, Hattempt.out]; simp)
        go_wp2
        go_ret
        exact ⟨by rw [HR.out]; rfl, below_then HB.out (drewN_below _ _) HB.out.size⟩
      cases zr
      · have HR := hid (show mayR r = false by rw [ref_won HK.out, Hzr.out]; simp)
        go_wp2
        go_ret
        exact ⟨by rw [HR.out]; rfl, below_then HB.out (drewN_below _ _) HB.out.size⟩
      cases z4
      · have HR := hid (show mayR r = false by rw [ref_won HK.out, Hz4.out]; simp)
        go_wp2
        go_ret
        exact ⟨by rw [HR.out]; rfl, below_then HB.out (drewN_below _ _) HB.out.size⟩
      cases zq
      · have HR := hid (show mayR r = false by rw [ref_won HK.out, Hzq.out]; simp)
        go_wp2
        go_ret
        exact ⟨by rw [HR.out]; rfl, below_then HB.out (drewN_below _ _) HB.out.size⟩
      have HR := hid (show mayR r = true by rw [ref_won HK.out, Hsplit.out, Hzp.out, Hattempt.out, Hzr.out, Hz4.out, Hzq.out, HS.out]; rfl)
      go_wp2
      go_ret
      exact ⟨by rw [HR.out]; rfl, below_then HB.out (drewN_below _ _) HB.out.size⟩
set_option maxRecDepth 100000 in
set_option maxHeartbeats 16000000 in
theorem refRCommit_any (r : RecV) (so : Option Addr) (sc : Nat) (po : Option Addr) (pc : Nat) (w : World) (hr : RecIs w so sc po pc r) (hk : r.kind = 2) :
    Calls Try.prog 13 #[.agg #[.int .i64 r.kind, .int .i64 r.part, .int .i64 r.split, .int .i64 r.attempt, .int .i64 r.reason, .slice so r.set.length sc, .slice po r.prs.length pc]] w fun e w' => e = .returned (.bool (mayR r)) ∧ Below w.heap.size w w' := by
  have HK := hid hk
  have HB := hid (alloc_one w (.cells #[.int .i64 r.kind, .int .i64 r.part, .int .i64 r.split, .int .i64 r.attempt, .int .i64 r.reason, .slice so r.set.length sc, .slice po r.prs.length pc] 33))
  have HI := hid (hr.below HB.out)
  have hsl := hr.set.len
  have hql := prs_len hr.prs
  obtain ⟨zs, hzs⟩ : ∃ z, (r.split == 0) = z := ⟨_, rfl⟩
  have Hzs := hid hzs
  obtain ⟨zp, hzp⟩ : ∃ z, (r.part == 0) = z := ⟨_, rfl⟩
  have Hzp := hid hzp
  obtain ⟨za, hza⟩ : ∃ z, (r.attempt == 0) = z := ⟨_, rfl⟩
  have Hza := hid hza
  obtain ⟨zr, hzr⟩ : ∃ z, (r.reason == 0) = z := ⟨_, rfl⟩
  have Hzr := hid hzr
  obtain ⟨zt, hzt⟩ : ∃ z, ((r.set.length : Int) == 0) = z := ⟨_, rfl⟩
  have Hzt := hid hzt
  obtain ⟨zq, hzq⟩ : ∃ z, ((r.prs.length : Int) == 0) = z := ⟨_, rfl⟩
  have Hzq := hid hzq
  have k1 : (r.kind == 1) = false := by rw [hk]; rfl
  have k2 : (r.kind == 2) = true := by rw [hk]; rfl
  have k6 : (r.kind == 6) = false := by rw [hk]; rfl
  have k3 : (r.kind == 3) = false := by rw [hk]; rfl
  have k4 : (r.kind == 4) = false := by rw [hk]; rfl
  have k5 : (r.kind == 5) = false := by rw [hk]; rfl
  clear hr hk
  have HE := hid (ref_none (r := r) (.inl HK.out))
  go_enter Try.func13, Try.ntmps13
  go_wp2
  go_quiet (fail)
  go_wp2
  go_quiet (fail)
  cases zs
  · have HR := hid (show mayR r = false by rw [HE.out, Hzs.out]; simp)
    go_wp2
    go_ret
    exact ⟨by rw [HR.out]; rfl, below_then HB.out (drewN_below _ _) HB.out.size⟩
  cases zp
  · have HR := hid (show mayR r = false by rw [HE.out, Hzp.out]; simp)
    go_wp2
    go_ret
    exact ⟨by rw [HR.out]; rfl, below_then HB.out (drewN_below _ _) HB.out.size⟩
  cases za
  · have HR := hid (show mayR r = false by rw [HE.out, Hza.out]; simp)
    go_wp2
    go_ret
    exact ⟨by rw [HR.out]; rfl, below_then HB.out (drewN_below _ _) HB.out.size⟩
  cases zr
  · have HR := hid (show mayR r = false by rw [HE.out, Hzr.out]; simp)
    go_wp2
    go_ret
    exact ⟨by rw [HR.out]; rfl, below_then HB.out (drewN_below _ _) HB.out.size⟩
  cases zt
  · have HR := hid (show mayR r = false by rw [HE.out, Hzt.out]; simp)
    go_wp2
    go_ret
    exact ⟨by rw [HR.out]; rfl, below_then HB.out (drewN_below _ _) HB.out.size⟩
  cases zq
  · have HR := hid (show mayR r = false by rw [HE.out, Hzq.out]; simp)
    go_wp2
    go_ret
    exact ⟨by rw [HR.out]; rfl, below_then HB.out (drewN_below _ _) HB.out.size⟩
  have HR := hid (show mayR r = true by rw [HE.out, Hzs.out, Hzp.out, Hza.out, Hzr.out, Hzt.out, Hzq.out]; rfl)
  go_wp2
  go_ret
  exact ⟨by rw [HR.out]; rfl, below_then HB.out (drewN_below _ _) HB.out.size⟩
set_option maxRecDepth 100000 in
set_option maxHeartbeats 16000000 in
theorem refRLife_any (r : RecV) (so : Option Addr) (sc : Nat) (po : Option Addr) (pc : Nat) (w : World) (hr : RecIs w so sc po pc r) (hk : r.kind = 6) :
    Calls Try.prog 13 #[.agg #[.int .i64 r.kind, .int .i64 r.part, .int .i64 r.split, .int .i64 r.attempt, .int .i64 r.reason, .slice so r.set.length sc, .slice po r.prs.length pc]] w fun e w' => e = .returned (.bool (mayR r)) ∧ Below w.heap.size w w' := by
  have HK := hid hk
  have HB := hid (alloc_one w (.cells #[.int .i64 r.kind, .int .i64 r.part, .int .i64 r.split, .int .i64 r.attempt, .int .i64 r.reason, .slice so r.set.length sc, .slice po r.prs.length pc] 33))
  have HI := hid (hr.below HB.out)
  have hsl := hr.set.len
  have hql := prs_len hr.prs
  obtain ⟨zs, hzs⟩ : ∃ z, (r.split == 0) = z := ⟨_, rfl⟩
  have Hzs := hid hzs
  obtain ⟨zp, hzp⟩ : ∃ z, (r.part == 0) = z := ⟨_, rfl⟩
  have Hzp := hid hzp
  obtain ⟨za, hza⟩ : ∃ z, (r.attempt == 0) = z := ⟨_, rfl⟩
  have Hza := hid hza
  obtain ⟨zr, hzr⟩ : ∃ z, (r.reason == 0) = z := ⟨_, rfl⟩
  have Hzr := hid hzr
  obtain ⟨zt, hzt⟩ : ∃ z, ((r.set.length : Int) == 0) = z := ⟨_, rfl⟩
  have Hzt := hid hzt
  obtain ⟨zq, hzq⟩ : ∃ z, ((r.prs.length : Int) == 0) = z := ⟨_, rfl⟩
  have Hzq := hid hzq
  have k1 : (r.kind == 1) = false := by rw [hk]; rfl
  have k2 : (r.kind == 2) = false := by rw [hk]; rfl
  have k6 : (r.kind == 6) = true := by rw [hk]; rfl
  have k3 : (r.kind == 3) = false := by rw [hk]; rfl
  have k4 : (r.kind == 4) = false := by rw [hk]; rfl
  have k5 : (r.kind == 5) = false := by rw [hk]; rfl
  clear hr hk
  have HE := hid (ref_none (r := r) (.inr HK.out))
  go_enter Try.func13, Try.ntmps13
  go_wp2
  go_quiet (fail)
  go_wp2
  go_quiet (fail)
  cases zs
  · have HR := hid (show mayR r = false by rw [HE.out, Hzs.out]; simp)
    go_wp2
    go_ret
    exact ⟨by rw [HR.out]; rfl, below_then HB.out (drewN_below _ _) HB.out.size⟩
  cases zp
  · have HR := hid (show mayR r = false by rw [HE.out, Hzp.out]; simp)
    go_wp2
    go_ret
    exact ⟨by rw [HR.out]; rfl, below_then HB.out (drewN_below _ _) HB.out.size⟩
  cases za
  · have HR := hid (show mayR r = false by rw [HE.out, Hza.out]; simp)
    go_wp2
    go_ret
    exact ⟨by rw [HR.out]; rfl, below_then HB.out (drewN_below _ _) HB.out.size⟩
  cases zr
  · have HR := hid (show mayR r = false by rw [HE.out, Hzr.out]; simp)
    go_wp2
    go_ret
    exact ⟨by rw [HR.out]; rfl, below_then HB.out (drewN_below _ _) HB.out.size⟩
  cases zt
  · have HR := hid (show mayR r = false by rw [HE.out, Hzt.out]; simp)
    go_wp2
    go_ret
    exact ⟨by rw [HR.out]; rfl, below_then HB.out (drewN_below _ _) HB.out.size⟩
  cases zq
  · have HR := hid (show mayR r = false by rw [HE.out, Hzq.out]; simp)
    go_wp2
    go_ret
    exact ⟨by rw [HR.out]; rfl, below_then HB.out (drewN_below _ _) HB.out.size⟩
  have HR := hid (show mayR r = true by rw [HE.out, Hzs.out, Hzp.out, Hza.out, Hzr.out, Hzt.out, Hzq.out]; rfl)
  go_wp2
  go_ret
  exact ⟨by rw [HR.out]; rfl, below_then HB.out (drewN_below _ _) HB.out.size⟩
set_option maxRecDepth 100000 in
set_option maxHeartbeats 16000000 in
theorem refROver_att0_any (r : RecV) (so : Option Addr) (sc : Nat) (po : Option Addr) (pc : Nat) (w : World) (hr : RecIs w so sc po pc r) (hk : r.kind = 3) (h0 : r.attempt = 0) :
    Calls Try.prog 13 #[.agg #[.int .i64 r.kind, .int .i64 r.part, .int .i64 r.split, .int .i64 r.attempt, .int .i64 r.reason, .slice so r.set.length sc, .slice po r.prs.length pc]] w fun e w' => e = .returned (.bool (mayR r)) ∧ Below w.heap.size w w' := by
  have HK := hid hk
  have HB := hid (alloc_one w (.cells #[.int .i64 r.kind, .int .i64 r.part, .int .i64 r.split, .int .i64 r.attempt, .int .i64 r.reason, .slice so r.set.length sc, .slice po r.prs.length pc] 33))
  have HI := hid (hr.below HB.out)
  have hsl := hr.set.len
  have hql := prs_len hr.prs
  obtain ⟨zs, hzs⟩ : ∃ z, (r.split == 0) = z := ⟨_, rfl⟩
  have Hzs := hid hzs
  obtain ⟨zp, hzp⟩ : ∃ z, (r.part == 0) = z := ⟨_, rfl⟩
  have Hzp := hid hzp
  obtain ⟨zr, hzr⟩ : ∃ z, (r.reason == 0) = z := ⟨_, rfl⟩
  have Hzr := hid hzr
  obtain ⟨zt, hzt⟩ : ∃ z, ((r.set.length : Int) == 0) = z := ⟨_, rfl⟩
  have Hzt := hid hzt
  obtain ⟨zq, hzq⟩ : ∃ z, ((r.prs.length : Int) == 0) = z := ⟨_, rfl⟩
  have Hzq := hid hzq
  have k1 : (r.kind == 1) = false := by rw [hk]; rfl
  have k2 : (r.kind == 2) = false := by rw [hk]; rfl
  have k6 : (r.kind == 6) = false := by rw [hk]; rfl
  have k3 : (r.kind == 3) = true := by rw [hk]; rfl
  have k4 : (r.kind == 4) = false := by rw [hk]; rfl
  have k5 : (r.kind == 5) = false := by rw [hk]; rfl
  have HE := hid (ref_over0 hk h0)
  have za : (r.attempt == 0) = true := by rw [h0]; rfl
  have z1 : (r.attempt == 1) = false := by rw [h0]; rfl
  clear hr hk h0
  go_enter Try.func13, Try.ntmps13
  go_wp2
  go_quiet (fail)
  go_wp2
  go_quiet (fail)
  go_wp2_with fail
  refine (refIn_calls r.split 0 5 _).mono ?_
  rintro e w1 ⟨rfl, rfl⟩
  obtain ⟨gsplit, hgsplit⟩ : ∃ g, inI r.split 0 5 = g := ⟨_, rfl⟩
  have Hsplit := hid hgsplit
  rw [hgsplit]
  clear hgsplit
  cases gsplit
  · have HR := hid (show mayR r = false by rw [HE.out, Hsplit.out]; simp)
    go_wp2
    go_ret
    exact ⟨by rw [HR.out]; rfl, below_then HB.out (drewN_below _ _) HB.out.size⟩
  cases zp
  · have HR := hid (show mayR r = false by rw [HE.out, Hzp.out]; simp)
    go_wp2
    go_ret
    exact ⟨by rw [HR.out]; rfl, below_then HB.out (drewN_below _ _) HB.out.size⟩
  go_wp2_with fail
  refine (refIn_calls r.reason 1 6 _).mono ?_
  rintro e w1 ⟨rfl, rfl⟩
  obtain ⟨greason, hgreason⟩ : ∃ g, inI r.reason 1 6 = g := ⟨_, rfl⟩
  have Hreason := hid hgreason
  rw [hgreason]
  clear hgreason
  cases greason
  · have HR := hid (show mayR r = false by rw [HE.out, Hreason.out]; simp)
    go_wp2
    go_ret
    exact ⟨by rw [HR.out]; rfl, below_then HB.out (drewN_below _ _) HB.out.size⟩
  cases zt
  · have HR := hid (show mayR r = false by rw [HE.out, Hzt.out]; simp)
    go_wp2
    go_ret
    exact ⟨by rw [HR.out]; rfl, below_then HB.out (drewN_below _ _) HB.out.size⟩
  cases zq
  · have HR := hid (show mayR r = false by rw [HE.out, Hzq.out]; simp)
    go_wp2
    go_ret
    exact ⟨by rw [HR.out]; rfl, below_then HB.out (drewN_below _ _) HB.out.size⟩
  have HR := hid (show mayR r = true by rw [HE.out, Hsplit.out, Hzp.out, Hreason.out, Hzt.out, Hzq.out]; rfl)
  go_wp2
  go_ret
  exact ⟨by rw [HR.out]; rfl, below_then HB.out (drewN_below _ _) HB.out.size⟩
set_option maxRecDepth 100000 in
set_option maxHeartbeats 16000000 in
theorem refROver_att1_any (r : RecV) (so : Option Addr) (sc : Nat) (po : Option Addr) (pc : Nat) (w : World) (hr : RecIs w so sc po pc r) (hk : r.kind = 3) (h0 : r.attempt = 1) :
    Calls Try.prog 13 #[.agg #[.int .i64 r.kind, .int .i64 r.part, .int .i64 r.split, .int .i64 r.attempt, .int .i64 r.reason, .slice so r.set.length sc, .slice po r.prs.length pc]] w fun e w' => e = .returned (.bool (mayR r)) ∧ Below w.heap.size w w' := by
  have HK := hid hk
  have HB := hid (alloc_one w (.cells #[.int .i64 r.kind, .int .i64 r.part, .int .i64 r.split, .int .i64 r.attempt, .int .i64 r.reason, .slice so r.set.length sc, .slice po r.prs.length pc] 33))
  have HI := hid (hr.below HB.out)
  have hsl := hr.set.len
  have hql := prs_len hr.prs
  obtain ⟨zs, hzs⟩ : ∃ z, (r.split == 0) = z := ⟨_, rfl⟩
  have Hzs := hid hzs
  obtain ⟨zp, hzp⟩ : ∃ z, (r.part == 0) = z := ⟨_, rfl⟩
  have Hzp := hid hzp
  obtain ⟨zr, hzr⟩ : ∃ z, (r.reason == 0) = z := ⟨_, rfl⟩
  have Hzr := hid hzr
  obtain ⟨zt, hzt⟩ : ∃ z, ((r.set.length : Int) == 0) = z := ⟨_, rfl⟩
  have Hzt := hid hzt
  obtain ⟨zq, hzq⟩ : ∃ z, ((r.prs.length : Int) == 0) = z := ⟨_, rfl⟩
  have Hzq := hid hzq
  have k1 : (r.kind == 1) = false := by rw [hk]; rfl
  have k2 : (r.kind == 2) = false := by rw [hk]; rfl
  have k6 : (r.kind == 6) = false := by rw [hk]; rfl
  have k3 : (r.kind == 3) = true := by rw [hk]; rfl
  have k4 : (r.kind == 4) = false := by rw [hk]; rfl
  have k5 : (r.kind == 5) = false := by rw [hk]; rfl
  have HE := hid (ref_over1 hk h0)
  have za : (r.attempt == 0) = false := by rw [h0]; rfl
  have z1 : (r.attempt == 1) = true := by rw [h0]; rfl
  clear hr hk h0
  go_enter Try.func13, Try.ntmps13
  go_wp2
  go_quiet (fail)
  go_wp2
  go_quiet (fail)
  go_wp2_with fail
  refine (refIn_calls r.part 0 3 _).mono ?_
  rintro e w1 ⟨rfl, rfl⟩
  obtain ⟨gpart, hgpart⟩ : ∃ g, inI r.part 0 3 = g := ⟨_, rfl⟩
  have Hpart := hid hgpart
  rw [hgpart]
  clear hgpart
  cases gpart
  · have HR := hid (show mayR r = false by rw [HE.out, Hpart.out]; simp)
    go_wp2
    go_ret
    exact ⟨by rw [HR.out]; rfl, below_then HB.out (drewN_below _ _) HB.out.size⟩
  cases zs
  · have HR := hid (show mayR r = false by rw [HE.out, Hzs.out]; simp)
    go_wp2
    go_ret
    exact ⟨by rw [HR.out]; rfl, below_then HB.out (drewN_below _ _) HB.out.size⟩
  go_wp2_with fail
  refine (refIn_calls r.reason 1 6 _).mono ?_
  rintro e w1 ⟨rfl, rfl⟩
  obtain ⟨greason, hgreason⟩ : ∃ g, inI r.reason 1 6 = g := ⟨_, rfl⟩
  have Hreason := hid hgreason
  rw [hgreason]
  clear hgreason
  cases greason
  · have HR := hid (show mayR r = false by rw [HE.out, Hreason.out]; simp)
    go_wp2
    go_ret
    exact ⟨by rw [HR.out]; rfl, below_then HB.out (drewN_below _ _) HB.out.size⟩
  cases zt
  · have HR := hid (show mayR r = false by rw [HE.out, Hzt.out]; simp)
    go_wp2
    go_ret
    exact ⟨by rw [HR.out]; rfl, below_then HB.out (drewN_below _ _) HB.out.size⟩
  cases zq
  · have HR := hid (show mayR r = false by rw [HE.out, Hzq.out]; simp)
    go_wp2
    go_ret
    exact ⟨by rw [HR.out]; rfl, below_then HB.out (drewN_below _ _) HB.out.size⟩
  have HR := hid (show mayR r = true by rw [HE.out, Hpart.out, Hzs.out, Hreason.out, Hzt.out, Hzq.out]; rfl)
  go_wp2
  go_ret
  exact ⟨by rw [HR.out]; rfl, below_then HB.out (drewN_below _ _) HB.out.size⟩
set_option maxRecDepth 100000 in
set_option maxHeartbeats 16000000 in
theorem refROver_att2_any (r : RecV) (so : Option Addr) (sc : Nat) (po : Option Addr) (pc : Nat) (w : World) (hr : RecIs w so sc po pc r) (hk : r.kind = 3) (h0 : r.attempt ≠ 0) (h1 : r.attempt ≠ 1) :
    Calls Try.prog 13 #[.agg #[.int .i64 r.kind, .int .i64 r.part, .int .i64 r.split, .int .i64 r.attempt, .int .i64 r.reason, .slice so r.set.length sc, .slice po r.prs.length pc]] w fun e w' => e = .returned (.bool (mayR r)) ∧ Below w.heap.size w w' := by
  have HK := hid hk
  have HB := hid (alloc_one w (.cells #[.int .i64 r.kind, .int .i64 r.part, .int .i64 r.split, .int .i64 r.attempt, .int .i64 r.reason, .slice so r.set.length sc, .slice po r.prs.length pc] 33))
  have HI := hid (hr.below HB.out)
  have hsl := hr.set.len
  have hql := prs_len hr.prs
  obtain ⟨zs, hzs⟩ : ∃ z, (r.split == 0) = z := ⟨_, rfl⟩
  have Hzs := hid hzs
  obtain ⟨zp, hzp⟩ : ∃ z, (r.part == 0) = z := ⟨_, rfl⟩
  have Hzp := hid hzp
  obtain ⟨zr, hzr⟩ : ∃ z, (r.reason == 0) = z := ⟨_, rfl⟩
  have Hzr := hid hzr
  obtain ⟨zt, hzt⟩ : ∃ z, ((r.set.length : Int) == 0) = z := ⟨_, rfl⟩
  have Hzt := hid hzt
  obtain ⟨zq, hzq⟩ : ∃ z, ((r.prs.length : Int) == 0) = z := ⟨_, rfl⟩
  have Hzq := hid hzq
  have k1 : (r.kind == 1) = false := by rw [hk]; rfl
  have k2 : (r.kind == 2) = false := by rw [hk]; rfl
  have k6 : (r.kind == 6) = false := by rw [hk]; rfl
  have k3 : (r.kind == 3) = true := by rw [hk]; rfl
  have k4 : (r.kind == 4) = false := by rw [hk]; rfl
  have k5 : (r.kind == 5) = false := by rw [hk]; rfl
  have HR := hid (mayR_over2 hk h0 h1)
  have za : (r.attempt == 0) = false := by simpa using h0
  have z1 : (r.attempt == 1) = false := by simpa using h1
  clear hr hk h0 h1
  go_enter Try.func13, Try.ntmps13
  go_wp2
  go_quiet (fail)
  go_wp2
  go_quiet (fail)
  go_wp2
  go_ret
  exact ⟨by rw [HR.out]; rfl, below_then HB.out (drewN_below _ _) HB.out.size⟩
set_option maxRecDepth 100000 in
set_option maxHeartbeats 16000000 in
theorem refRMerged_any (r : RecV) (so : Option Addr) (sc : Nat) (po : Option Addr) (pc : Nat) (w : World) (hr : RecIs w so sc po pc r) (hk : r.kind = 4) :
    Calls Try.prog 13 #[.agg #[.int .i64 r.kind, .int .i64 r.part, .int .i64 r.split, .int .i64 r.attempt, .int .i64 r.reason, .slice so r.set.length sc, .slice po r.prs.length pc]] w fun e w' => e = .returned (.bool (mayR r)) ∧ Below w.heap.size w w' := by
  have HK := hid hk
  have HB := hid (alloc_one w (.cells #[.int .i64 r.kind, .int .i64 r.part, .int .i64 r.split, .int .i64 r.attempt, .int .i64 r.reason, .slice so r.set.length sc, .slice po r.prs.length pc] 33))
  have HI := hid (hr.below HB.out)
  have hsl := hr.set.len
  have hql := prs_len hr.prs
  obtain ⟨zs, hzs⟩ : ∃ z, (r.split == 0) = z := ⟨_, rfl⟩
  have Hzs := hid hzs
  obtain ⟨zp, hzp⟩ : ∃ z, (r.part == 0) = z := ⟨_, rfl⟩
  have Hzp := hid hzp
  obtain ⟨za, hza⟩ : ∃ z, (r.attempt == 0) = z := ⟨_, rfl⟩
  have Hza := hid hza
  obtain ⟨zr, hzr⟩ : ∃ z, (r.reason == 0) = z := ⟨_, rfl⟩
  have Hzr := hid hzr
  obtain ⟨zt, hzt⟩ : ∃ z, ((r.set.length : Int) == 0) = z := ⟨_, rfl⟩
  have Hzt := hid hzt
  obtain ⟨zq, hzq⟩ : ∃ z, ((r.prs.length : Int) == 0) = z := ⟨_, rfl⟩
  have Hzq := hid hzq
  obtain ⟨z40, hz40⟩ : ∃ z, decide ((r.prs.length : Int) ≤ 40) = z := ⟨_, rfl⟩
  have Hz40 := hid hz40
  have k1 : (r.kind == 1) = false := by rw [hk]; rfl
  have k2 : (r.kind == 2) = false := by rw [hk]; rfl
  have k6 : (r.kind == 6) = false := by rw [hk]; rfl
  have k3 : (r.kind == 3) = false := by rw [hk]; rfl
  have k4 : (r.kind == 4) = true := by rw [hk]; rfl
  have k5 : (r.kind == 5) = false := by rw [hk]; rfl
  clear hr hk
  go_enter Try.func13, Try.ntmps13
  go_wp2
  go_quiet (fail)
  go_wp2
  go_quiet (fail)
  go_wp2_with fail
  refine (refIn_calls r.part 0 3 _).mono ?_
  rintro e w1 ⟨rfl, rfl⟩
  obtain ⟨gpart, hgpart⟩ : ∃ g, inI r.part 0 3 = g := ⟨_, rfl⟩
  have Hpart := hid hgpart
  rw [hgpart]
  clear hgpart
  cases gpart
  · have HR := hid (show mayR r = false by rw [ref_merged HK.out, Hpart.out]; simp)
    go_wp2
    go_ret
    exact ⟨by rw [HR.out]; rfl, below_then HB.out (drewN_below _ _) HB.out.size⟩
  go_wp2_with fail
  refine (refIn_calls r.split 0 5 _).mono ?_
  rintro e w1 ⟨rfl, rfl⟩
  obtain ⟨gsplit, hgsplit⟩ : ∃ g, inI r.split 0 5 = g := ⟨_, rfl⟩
  have Hsplit := hid hgsplit
  rw [hgsplit]
  clear hgsplit
  cases gsplit
  · have HR := hid (show mayR r = false by rw [ref_merged HK.out, Hsplit.out]; simp)
    go_wp2
    go_ret
    exact ⟨by rw [HR.out]; rfl, below_then HB.out (drewN_below _ _) HB.out.size⟩
  go_wp2_with fail
  refine (refIn_calls r.attempt 1 3 _).mono ?_
  rintro e w1 ⟨rfl, rfl⟩
  obtain ⟨gattempt, hgattempt⟩ : ∃ g, inI r.attempt 1 3 = g := ⟨_, rfl⟩
  have Hattempt := hid hgattempt
  rw [hgattempt]
  clear hgattempt
  cases gattempt
  · have HR := hid (show mayR r = false by rw [ref_merged HK.out, Hattempt.out]; simp)
    go_wp2
    go_ret
    exact ⟨by rw [HR.out]; rfl, below_then HB.out (drewN_below _ _) HB.out.size⟩
  cases zr
  · have HR := hid (show mayR r = false by rw [ref_merged HK.out, Hzr.out]; simp)
    go_wp2
    go_ret
    exact ⟨by rw [HR.out]; rfl, below_then HB.out (drewN_below _ _) HB.out.size⟩
  cases zt
  · have HR := hid (show mayR r = false by rw [ref_merged HK.out, Hzt.out]; simp)
    go_wp2
    go_ret
    exact ⟨by rw [HR.out]; rfl, below_then HB.out (drewN_below _ _) HB.out.size⟩
  cases z40
  · have HR := hid (show mayR r = false by rw [ref_merged HK.out, Hz40.out]; simp)
    go_wp2
    go_ret
    exact ⟨by rw [HR.out]; rfl, below_then HB.out (drewN_below _ _) HB.out.size⟩
  go_wp2_with fail
  refine (refMay_any _ r.prs _ (HI.out.prs.below (drewN_below _ _))).mono ?_
  rintro e w1 ⟨rfl, rfl⟩
  have HR := hid (show mayR r = mayP r.prs by rw [ref_merged HK.out, Hpart.out, Hsplit.out, Hattempt.out, Hzr.out, Hzt.out, Hz40.out]; rfl)
  obtain ⟨g9, hg9⟩ : ∃ g, mayP r.prs = g := ⟨_, rfl⟩
  have H9 := hid hg9
  rw [hg9]
  clear hg9
  go_wp2
  go_ret
  exact ⟨by rw [HR.out, H9.out]; rfl, below_then HB.out (drewN_below _ _) HB.out.size⟩
set_option maxRecDepth 100000 in
set_option maxHeartbeats 16000000 in
theorem refROther_any (r : RecV) (so : Option Addr) (sc : Nat) (po : Option Addr) (pc : Nat) (w : World) (hr : RecIs w so sc po pc r) (hk : r.kind < 1 ∨ 6 < r.kind) :
    Calls Try.prog 13 #[.agg #[.int .i64 r.kind, .int .i64 r.part, .int .i64 r.split, .int .i64 r.attempt, .int .i64 r.reason, .slice so r.set.length sc, .slice po r.prs.length pc]] w fun e w' => e = .returned (.bool (mayR r)) ∧ Below w.heap.size w w' := by
  have HK := hid hk
  have HB := hid (alloc_one w (.cells #[.int .i64 r.kind, .int .i64 r.part, .int .i64 r.split, .int .i64 r.attempt, .int .i64 r.reason, .slice so r.set.length sc, .slice po r.prs.length pc] 33))
  have HI := hid (hr.below HB.out)
  have hsl := hr.set.len
  have hql := prs_len hr.prs
  obtain ⟨zs, hzs⟩ : ∃ z, (r.split == 0) = z := ⟨_, rfl⟩
  have Hzs := hid hzs
  obtain ⟨zp, hzp⟩ : ∃ z, (r.part == 0) = z := ⟨_, rfl⟩
  have Hzp := hid hzp
  obtain ⟨za, hza⟩ : ∃ z, (r.attempt == 0) = z := ⟨_, rfl⟩
  have Hza := hid hza
  obtain ⟨zr, hzr⟩ : ∃ z, (r.reason == 0) = z := ⟨_, rfl⟩
  have Hzr := hid hzr
  obtain ⟨zt, hzt⟩ : ∃ z, ((r.set.length : Int) == 0) = z := ⟨_, rfl⟩
  have Hzt := hid hzt
  obtain ⟨zq, hzq⟩ : ∃ z, ((r.prs.length : Int) == 0) = z := ⟨_, rfl⟩
  have Hzq := hid hzq
  have HR := hid (mayR_other (r := r) hk)
  have k1 : (r.kind == 1) = false := by simp; omega
  have k2 : (r.kind == 2) = false := by simp; omega
  have k6 : (r.kind == 6) = false := by simp; omega
  have k3 : (r.kind == 3) = false := by simp; omega
  have k4 : (r.kind == 4) = false := by simp; omega
  have k5 : (r.kind == 5) = false := by simp; omega
  clear hr hk
  go_enter Try.func13, Try.ntmps13
  go_wp2
  go_quiet (fail)
  go_wp2
  go_quiet (fail)
  go_wp2
  go_ret
  exact ⟨by rw [HR.out]; rfl, below_then HB.out (drewN_below _ _) HB.out.size⟩
end Go.Proofs.Ytpkobobandcclaa
