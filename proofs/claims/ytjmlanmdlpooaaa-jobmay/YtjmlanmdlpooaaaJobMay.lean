/- JobMay: the program's answers on which jobs and configurations may be are the reference's. -/
import Derived.Test.YtjmlanmdlpooaaaJArg
namespace Go.Proofs.Ytjmlanmdlpooaaa
open Go.RowKit
set_option linter.unusedVariables false

set_option maxHeartbeats 12000000 in
theorem jobMay_main (c : CfgV) (so mo co ro ko : Option Addr) (sc mc cc rc kc : Nat) (w : World) (h : JobIs w so mo co ro ko sc mc cc rc kc c.job) :
    Calls Try.prog 3 #[.agg #[.slice so c.job.splits.length sc, .int .i64 c.job.parts, .slice mo c.job.mp.length mc, .slice co c.job.cb.length cc, .slice ro c.job.rd.length rc, .int .i64 c.job.chunk, .int .i64 c.job.window, .int .i64 c.job.fuel, .slice ko c.job.marks.length kc, .int .i64 c.workers, .int .i64 c.tries, .int .i64 c.timeout]] w fun e w' => e = .returned (.bool true) ∧ Below w.heap.size w w' := by
  have F0 := Hj.new w c h
  clear h
  obtain ⟨gj, HG⟩ : ∃ g, Hid (mayJ c.job = g) := ⟨_, hid rfl⟩
  obtain ⟨gc, HC⟩ : ∃ g, Hid (mayC c = g) := ⟨_, hid rfl⟩
  have HF := hid F0
  clear F0
  go_enter Try.func3, Try.ntmps3
  go_wp2_with fail
  refine (greatJob_any c.job so mo co ro ko sc mc cc rc kc _ HF.out.job).mono ?_
  rintro e w1 ⟨⟨g, rfl⟩, hb1⟩
  replace HF := hid (HF.out.on hb1)
  clear hb1
  cases g
  · generalize w.heap.size = A at HF ⊢
    go_wp2_with fail
    have Fd := HF.out.on (w2 := w1.drew) (by go_grown)
    go_region_held3 (fun w' => w'.cell? ⟨A, 0, none⟩ = some (.slice so c.job.splits.length sc) ∧ w'.cell? ⟨A, 1, none⟩ = some (.int .i64 c.job.parts) ∧ w'.cell? ⟨A, 2, none⟩ = some (.slice mo c.job.mp.length mc) ∧ w'.cell? ⟨A, 3, none⟩ = some (.slice co c.job.cb.length cc) ∧ w'.cell? ⟨A, 4, none⟩ = some (.slice ro c.job.rd.length rc) ∧ w'.cell? ⟨A, 5, none⟩ = some (.int .i64 c.job.chunk) ∧ w'.cell? ⟨A, 6, none⟩ = some (.int .i64 c.job.window) ∧ w'.cell? ⟨A, 7, none⟩ = some (.int .i64 c.job.fuel) ∧ w'.cell? ⟨A, 8, none⟩ = some (.slice ko c.job.marks.length kc) ∧ w'.cell? ⟨A, 9, none⟩ = some (.int .i64 c.workers) ∧ w'.cell? ⟨A, 10, none⟩ = some (.int .i64 c.tries) ∧ w'.cell? ⟨A, 11, none⟩ = some (.int .i64 c.timeout)) (exact Hj.eqs (by assumption))
      (first | (go_at_call 8; refine (jobMay_any c.job so mo co ro ko sc mc cc rc kc _ (Hj.job (by assumption))).mono ?_; rintro e w5 ⟨rfl, hb5⟩; have F5 := Hj.on (by assumption) hb5; rw [show mayJ c.job = gj from HG])
             | (go_at_call 9; refine (refMayJ_any c.job so mo co ro ko sc mc cc rc kc _ (Hj.job (by assumption))).mono ?_; rintro e w6 ⟨rfl, hb6⟩; have F6 := Hj.on (by assumption) hb6; rw [show mayJ c.job = gj from HG])
             | (go_at_call 10; refine (mayConfig_any c so mo co ro ko sc mc cc rc kc _ (Hj.job (by assumption))).mono ?_; rintro e w7 ⟨rfl, hb7⟩; have F7 := Hj.on (by assumption) hb7; rw [show mayC c = gc from HC])
             | (go_at_call 11; refine (refMayConfig_any c so mo co ro ko sc mc cc rc kc _ (Hj.job (by assumption))).mono ?_; rintro e w8 ⟨rfl, hb8⟩; have F8 := Hj.on (by assumption) hb8; rw [show mayC c = gc from HC])
             | (go_at_call 7; refine (awake_calls _).mono ?_; rintro e w9 ⟨rfl, hb9⟩; have F9 := Hj.on (by assumption) hb9))
    all_goals
      go_wp2
      go_ret
      exact ⟨rfl, F9.below⟩
  · go_wp2_with fail
    refine (awake_calls _).mono ?_
    rintro e w2 ⟨rfl, hb2⟩
    replace HF := hid (HF.out.on hb2)
    clear hb2
    go_wp2
    go_ret
    exact ⟨rfl, HF.out.below⟩
theorem jobMay_walk (w : World) (cs : Array Value) (a) (hs : cs.size = 12) (h : rCfg w cs.toList a) :
    Calls Try.prog 3 #[.agg cs] w fun e w' => e = .returned (.bool true) ∧ Below w.heap.size w w' := by
  obtain ⟨c, so, mo, co, ro, ko, sc, mc, cc, rc, kc, rfl, hj⟩ := cfg_arg hs h
  exact jobMay_main c so mo co ro ko sc mc cc rc kc w hj
end Go.Proofs.Ytjmlanmdlpooaaa
