/- Home and Turn, of the program and of the reference. -/
import Derived.Test.YtjmlanmdlpooaaaJJob
import Derived.Test.YtjmlanmdlpooaaaLowC
namespace Go.Proofs.Ytjmlanmdlpooaaa
open Go.RowKit
set_option linter.unusedVariables false

/-- Who keeps a part. -/
def homeI (p k part : Int) : Int := if 0 ≤ part ∧ part < p then 1 + part % k else 0
theorem mayC_bounds {c : CfgV} (h : mayC c = true) : 1 ≤ c.workers ∧ c.workers ≤ 4 ∧ 1 ≤ c.job.parts ∧ c.job.parts ≤ 4 := by
  unfold mayC mayJ at h
  simp only [Bool.and_eq_true, inI_iff] at h
  obtain ⟨⟨⟨hj, hw⟩, _⟩, _⟩ := h
  have hp := hj.1.1.1.1.1.1.1.1.1.1.1.2
  exact ⟨hw.1, hw.2, hp.1, hp.2⟩
theorem low_eq1 (n k : Int) (h1 : 1 ≤ k) (h2 : k ≤ 4) : wrap64 (1 + wrap64 ((IntKind.u64.wrap n).tmod k)) = 1 + low n k := by
  rw [low_eq n k h1 (by omega)]
  have := low_bd n k h1
  exact IntWalk.wrap64_in _ ⟨by omega, by omega⟩
theorem mod_eq1 (n k : Int) (h1 : 1 ≤ k) (h2 : k ≤ 4) (h0 : 0 ≤ n) : wrap64 (1 + n % k) = 1 + n % k := by
  have h3 := Int.emod_nonneg n (show k ≠ 0 by omega)
  have h4 := Int.emod_lt_of_pos n (show 0 < k by omega)
  exact IntWalk.wrap64_in _ ⟨by omega, by omega⟩
set_option maxHeartbeats 4000000 in
theorem turn_any (c : CfgV) (so mo co ro ko : Option Addr) (sc mc cc rc kc : Nat) (n : Int) (w : World) (h : JobIs w so mo co ro ko sc mc cc rc kc c.job) (hm : mayC c = true) :
    Calls Try.prog 13 #[.agg #[.slice so c.job.splits.length sc, .int .i64 c.job.parts, .slice mo c.job.mp.length mc, .slice co c.job.cb.length cc, .slice ro c.job.rd.length rc, .int .i64 c.job.chunk, .int .i64 c.job.window, .int .i64 c.job.fuel, .slice ko c.job.marks.length kc, .int .i64 c.workers, .int .i64 c.tries, .int .i64 c.timeout], .int .i64 n] w fun e w' => e = .returned (.int .i64 (1 + low n c.workers)) ∧ Below w.heap.size w w' := by
  have HJ := hid (h.below (alloc_one w (.cells #[.slice so c.job.splits.length sc, .int .i64 c.job.parts, .slice mo c.job.mp.length mc, .slice co c.job.cb.length cc, .slice ro c.job.rd.length rc, .int .i64 c.job.chunk, .int .i64 c.job.window, .int .i64 c.job.fuel, .slice ko c.job.marks.length kc, .int .i64 c.workers, .int .i64 c.tries, .int .i64 c.timeout] 28)))
  have HA := hid (At.new w #[.slice so c.job.splits.length sc, .int .i64 c.job.parts, .slice mo c.job.mp.length mc, .slice co c.job.cb.length cc, .slice ro c.job.rd.length rc, .int .i64 c.job.chunk, .int .i64 c.job.window, .int .i64 c.job.fuel, .slice ko c.job.marks.length kc, .int .i64 c.workers, .int .i64 c.tries, .int .i64 c.timeout] 28)
  have HB := hid (alloc_one w (.cells #[.slice so c.job.splits.length sc, .int .i64 c.job.parts, .slice mo c.job.mp.length mc, .slice co c.job.cb.length cc, .slice ro c.job.rd.length rc, .int .i64 c.job.chunk, .int .i64 c.job.window, .int .i64 c.job.fuel, .slice ko c.job.marks.length kc, .int .i64 c.workers, .int .i64 c.tries, .int .i64 c.timeout] 28))
  have HM := hid hm
  clear h hm
  go_enter Try.func13, Try.ntmps13
  go_wp2_with fail
  refine (mayConfig_any c so mo co ro ko sc mc cc rc kc _ HJ.out).mono ?_
  rintro e w1 ⟨rfl, hb1⟩
  have c9 := (HA.out.below hb1 (by simp)) 9 _ rfl
  have HB := hid (below_then HB.out hb1 HB.out.size)
  clear hb1 HA HJ
  rw [HM.out]
  obtain ⟨b1, b2, -, -⟩ := mayC_bounds HM.out
  obtain ⟨k, hk⟩ : ∃ k, c.workers = k := ⟨_, rfl⟩
  have HK := hid hk
  rw [hk] at c9 b1 b2 ⊢
  clear hk
  go_wp2
  go_ret
  exact ⟨by rw [HK.out, ← low_eq1 n k b1 b2]; rfl, HB.out⟩
set_option maxHeartbeats 4000000 in
theorem refTurn_any (c : CfgV) (so mo co ro ko : Option Addr) (sc mc cc rc kc : Nat) (n : Int) (w : World) (hm : mayC c = true) :
    Calls Try.prog 16 #[.agg #[.slice so c.job.splits.length sc, .int .i64 c.job.parts, .slice mo c.job.mp.length mc, .slice co c.job.cb.length cc, .slice ro c.job.rd.length rc, .int .i64 c.job.chunk, .int .i64 c.job.window, .int .i64 c.job.fuel, .slice ko c.job.marks.length kc, .int .i64 c.workers, .int .i64 c.tries, .int .i64 c.timeout], .int .i64 n] w fun e w' => e = .returned (.int .i64 (1 + low n c.workers)) ∧ Below w.heap.size w w' := by
  have HB := hid (alloc_one w (.cells #[.slice so c.job.splits.length sc, .int .i64 c.job.parts, .slice mo c.job.mp.length mc, .slice co c.job.cb.length cc, .slice ro c.job.rd.length rc, .int .i64 c.job.chunk, .int .i64 c.job.window, .int .i64 c.job.fuel, .slice ko c.job.marks.length kc, .int .i64 c.workers, .int .i64 c.tries, .int .i64 c.timeout] 28))
  obtain ⟨b1, b2, -, -⟩ := mayC_bounds hm
  clear hm
  obtain ⟨k, hk⟩ : ∃ k, c.workers = k := ⟨_, rfl⟩
  rw [hk] at b1 b2 HB ⊢
  clear hk
  go_enter Try.func16, Try.ntmps16
  go_wp2
  go_ret
  exact ⟨by rw [← low_eq1 n k b1 b2]; rfl, HB.out⟩
set_option maxHeartbeats 4000000 in
theorem home_any (c : CfgV) (so mo co ro ko : Option Addr) (sc mc cc rc kc : Nat) (n : Int) (w : World) (h : JobIs w so mo co ro ko sc mc cc rc kc c.job) (hm : mayC c = true) :
    Calls Try.prog 14 #[.agg #[.slice so c.job.splits.length sc, .int .i64 c.job.parts, .slice mo c.job.mp.length mc, .slice co c.job.cb.length cc, .slice ro c.job.rd.length rc, .int .i64 c.job.chunk, .int .i64 c.job.window, .int .i64 c.job.fuel, .slice ko c.job.marks.length kc, .int .i64 c.workers, .int .i64 c.tries, .int .i64 c.timeout], .int .i64 n] w fun e w' => e = .returned (.int .i64 (homeI c.job.parts c.workers n)) ∧ Below w.heap.size w w' := by
  have HJ := hid (h.below (alloc_one w (.cells #[.slice so c.job.splits.length sc, .int .i64 c.job.parts, .slice mo c.job.mp.length mc, .slice co c.job.cb.length cc, .slice ro c.job.rd.length rc, .int .i64 c.job.chunk, .int .i64 c.job.window, .int .i64 c.job.fuel, .slice ko c.job.marks.length kc, .int .i64 c.workers, .int .i64 c.tries, .int .i64 c.timeout] 28)))
  have HA := hid (At.new w #[.slice so c.job.splits.length sc, .int .i64 c.job.parts, .slice mo c.job.mp.length mc, .slice co c.job.cb.length cc, .slice ro c.job.rd.length rc, .int .i64 c.job.chunk, .int .i64 c.job.window, .int .i64 c.job.fuel, .slice ko c.job.marks.length kc, .int .i64 c.workers, .int .i64 c.tries, .int .i64 c.timeout] 28)
  have HB := hid (alloc_one w (.cells #[.slice so c.job.splits.length sc, .int .i64 c.job.parts, .slice mo c.job.mp.length mc, .slice co c.job.cb.length cc, .slice ro c.job.rd.length rc, .int .i64 c.job.chunk, .int .i64 c.job.window, .int .i64 c.job.fuel, .slice ko c.job.marks.length kc, .int .i64 c.workers, .int .i64 c.tries, .int .i64 c.timeout] 28))
  have HM := hid hm
  clear h hm
  go_enter Try.func14, Try.ntmps14
  go_wp2_with fail
  refine (mayConfig_any c so mo co ro ko sc mc cc rc kc _ HJ.out).mono ?_
  rintro e w1 ⟨rfl, hb1⟩
  have c1 := (HA.out.below hb1 (by simp)) 1 _ rfl
  have c9 := (HA.out.below hb1 (by simp)) 9 _ rfl
  have HB := hid (below_then HB.out hb1 HB.out.size)
  clear hb1 HA HJ
  rw [HM.out]
  obtain ⟨b1, b2, b3, b4⟩ := mayC_bounds HM.out
  obtain ⟨k, hk⟩ : ∃ k, c.workers = k := ⟨_, rfl⟩
  obtain ⟨p, hp⟩ : ∃ p, c.job.parts = p := ⟨_, rfl⟩
  have HK := hid hk
  have HP := hid hp
  rw [hk] at c9 b1 b2 ⊢
  rw [hp] at c1 b3 b4 ⊢
  clear hk hp
  go_wp2_with fail
  refine (within_calls n 0 _ _).mono ?_
  rintro e wx ⟨rfl, rfl⟩
  by_cases hn : 0 ≤ n ∧ n < p
  · have HR := hid (show homeI p k n = 1 + n % k by unfold homeI; rw [if_pos hn])
    rw [show inI n 0 (p - 1) = true from inI_iff.2 ⟨hn.1, by omega⟩]
    obtain ⟨n0, n1⟩ := hn
    go_wp2
    go_ret
    exact ⟨by rw [HK.out, HP.out, HR.out]; exact congrArg (fun x => Ending.returned (Value.int .i64 x)) (mod_eq1 n k b1 b2 n0), HB.out⟩
  · have HR := hid (show homeI p k n = 0 by unfold homeI; rw [if_neg hn])
    rw [show inI n 0 (p - 1) = false by cases e : inI n 0 (p - 1) with | false => rfl | true => exact absurd ⟨(inI_iff.1 e).1, by have := (inI_iff.1 e).2; omega⟩ hn]
    clear hn
    go_wp2
    go_ret
    exact ⟨by rw [HK.out, HP.out, HR.out]; rfl, HB.out⟩
set_option maxHeartbeats 4000000 in
theorem refHome_any (c : CfgV) (so mo co ro ko : Option Addr) (sc mc cc rc kc : Nat) (n : Int) (w : World) (hm : mayC c = true) :
    Calls Try.prog 15 #[.agg #[.slice so c.job.splits.length sc, .int .i64 c.job.parts, .slice mo c.job.mp.length mc, .slice co c.job.cb.length cc, .slice ro c.job.rd.length rc, .int .i64 c.job.chunk, .int .i64 c.job.window, .int .i64 c.job.fuel, .slice ko c.job.marks.length kc, .int .i64 c.workers, .int .i64 c.tries, .int .i64 c.timeout], .int .i64 n] w fun e w' => e = .returned (.int .i64 (homeI c.job.parts c.workers n)) ∧ Below w.heap.size w w' := by
  have HB := hid (alloc_one w (.cells #[.slice so c.job.splits.length sc, .int .i64 c.job.parts, .slice mo c.job.mp.length mc, .slice co c.job.cb.length cc, .slice ro c.job.rd.length rc, .int .i64 c.job.chunk, .int .i64 c.job.window, .int .i64 c.job.fuel, .slice ko c.job.marks.length kc, .int .i64 c.workers, .int .i64 c.tries, .int .i64 c.timeout] 28))
  obtain ⟨b1, b2, b3, b4⟩ := mayC_bounds hm
  clear hm
  obtain ⟨k, hk⟩ : ∃ k, c.workers = k := ⟨_, rfl⟩
  obtain ⟨p, hp⟩ : ∃ p, c.job.parts = p := ⟨_, rfl⟩
  rw [hk] at b1 b2 HB ⊢
  rw [hp] at b3 b4 HB ⊢
  clear hk hp
  by_cases h0 : 0 ≤ n
  · have d0 : decide (n < 0) = false := by simp; omega
    by_cases h1 : n < p
    · have d1 : decide (p ≤ n) = false := by simp; omega
      have HR := hid (show homeI p k n = 1 + n % k by unfold homeI; rw [if_pos ⟨h0, h1⟩])
      go_enter Try.func15, Try.ntmps15
      go_wp2
      go_ret
      exact ⟨by rw [HR.out]; exact congrArg (fun x => Ending.returned (Value.int .i64 x)) (mod_eq1 n k b1 b2 h0), HB.out⟩
    · have d1 : decide (p ≤ n) = true := by simp; omega
      have HR := hid (show homeI p k n = 0 by unfold homeI; rw [if_neg (by omega)])
      go_enter Try.func15, Try.ntmps15
      go_wp2
      go_ret
      exact ⟨by rw [HR.out]; rfl, HB.out⟩
  · have d0 : decide (n < 0) = true := by simp; omega
    have HR := hid (show homeI p k n = 0 by unfold homeI; rw [if_neg (by omega)])
    go_enter Try.func15, Try.ntmps15
    go_wp2
    go_ret
    exact ⟨by rw [HR.out]; rfl, HB.out⟩
end Go.Proofs.Ytjmlanmdlpooaaa
