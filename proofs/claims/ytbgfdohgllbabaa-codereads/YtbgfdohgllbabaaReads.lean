/- The walk of CodeReads. -/
import Derived.Test.YtbgfdohgllbabaaRefRead
namespace Go.Proofs.Ytbgfdohgllbabaa
open Go.RowKit
set_option linter.unusedVariables false

set_option maxHeartbeats 400000 in
theorem codeReads_walk (w : World) (v : Value) (l : List Int) (hv : Bs w v l) (hB : Byt l) (i : Int) (wi : (Lit.int .i64 i).wf = true) :
    Calls Try.prog 4 #[v, .int .i64 i] w fun e w' => e = .returned (.bool true) ∧ Below w.heap.size w w' := by
  have hv0 := hv
  obtain ⟨ao, cap, rfl, h1, h2, h3, h4⟩ := hv
  unfold maxLen at h2
  have HV : Hid (Bs w (.slice ao l.length cap) l) := hv0
  clear hv0 h3 h4 wi
  by_cases h300 : 300 < l.length
  · go_enter Try.func4, Try.ntmps4
    go_wp2_with (go_at_call 8; refine (awake_any _).mono ?_; rintro e w3 ⟨rfl, hb3⟩)
    go_ret
    exact ⟨rfl, hb3⟩
  · go_enter Try.func4, Try.ntmps4
    go_wp2_with fail
    refine (readnum_any _ l i w HV.out hB).mono ?_
    rintro e w1 ⟨rfl, rfl⟩
    go_wp2_with fail
    refine (rreadnum_any _ l i w HV.out hB).mono ?_
    rintro e w1 ⟨rfl, rfl⟩
    generalize rdNum l i = q
    go_wp2_with fail
    refine (readtext_all _ l i w HV.out hB).mono ?_
    rintro e w1 ⟨rfl, rfl⟩
    go_wp2_with fail
    refine (rreadtext_all _ l i w HV.out hB).mono ?_
    rintro e w1 ⟨rfl, rfl⟩
    generalize rdText l i = r
    obtain ⟨q1, q2, q3⟩ := q
    obtain ⟨r1, r2, r3⟩ := r
    go_wp2_with (go_at_call 8; refine (awake_any _).mono ?_; rintro e w3 ⟨rfl, hb3⟩)
    go_ret
    exact ⟨rfl, hb3⟩
end Go.Proofs.Ytbgfdohgllbabaa
