/- good of the reference: whether an instruction may be. -/
import Derived.Test.YtjmlanmdlpooaaaPJudge
namespace Go.Proofs.Ytjmlanmdlpooaaa
open Go.RowKit
set_option linter.unusedVariables false

set_option maxHeartbeats 2000000 in
set_option maxRecDepth 100000 in
theorem good_calls (x : Inst) (n : Int) (w : World) :
    Calls Try.prog 30 #[insV x, .int .i64 n] w fun e w' => e = .returned (.bool (good x n)) ∧ Below w.heap.size w w' := by
  obtain ⟨o, a, s⟩ := x
  have hb : ∀ o1, Below w.heap.size w (w.alloc o1) := fun o1 => (Below.refl _ w).alloc (Nat.le_refl _) o1
  refine inst_cases o a n s ?c1 ?c2 ?c3 ?c4 ?c5 ?c6 ?c6' ?c7 ?c8 ?c9 ?c9' ?c10 ?c11 ?c12 ?c13
  case c1 =>
    intro h
    subst h
    have hg := hid (show good (1, a, s) n = s.toList.isEmpty by simp [good, *])
    go_enter Try.func30, Try.ntmps30
    go_wp2
    go_ret
    exact ⟨by rw [show good (1, a, s) n = _ from hg]; rfl, hb _⟩
  case c2 =>
    intro h ha
    subst h ha
    have hg := hid (show good (2, 0, s) n = decide ((s.size : Int) ≤ 64) by simp [good, *])
    go_enter Try.func30, Try.ntmps30
    go_wp2
    go_ret
    exact ⟨by rw [show good (2, 0, s) n = _ from hg]; rfl, hb _⟩
  case c3 =>
    intro h ha
    subst h
    have hg := hid (show good (2, a, s) n = false by simp [good, *])
    go_enter Try.func30, Try.ntmps30
    go_wp2
    go_ret
    exact ⟨by rw [show good (2, a, s) n = _ from hg]; rfl, hb _⟩
  case c4 =>
    intro h hs ha
    rcases h with rfl | rfl
    · by_cases hn : a ≤ n
      · have hg := hid (show good (19, a, s) n = true by simp [good, *])
        go_enter Try.func30, Try.ntmps30
        go_wp2
        go_ret
        exact ⟨by rw [show good (19, a, s) n = _ from hg]; rfl, hb _⟩
      · have hg := hid (show good (19, a, s) n = false by simp [good, *])
        go_enter Try.func30, Try.ntmps30
        go_wp2
        go_ret
        exact ⟨by rw [show good (19, a, s) n = _ from hg]; rfl, hb _⟩
    · by_cases hn : a ≤ n
      · have hg := hid (show good (20, a, s) n = true by simp [good, *])
        go_enter Try.func30, Try.ntmps30
        go_wp2
        go_ret
        exact ⟨by rw [show good (20, a, s) n = _ from hg]; rfl, hb _⟩
      · have hg := hid (show good (20, a, s) n = false by simp [good, *])
        go_enter Try.func30, Try.ntmps30
        go_wp2
        go_ret
        exact ⟨by rw [show good (20, a, s) n = _ from hg]; rfl, hb _⟩
  case c5 =>
    intro h hs ha
    rcases h with rfl | rfl
    · have hg := hid (show good (19, a, s) n = false by simp [good, *])
      go_enter Try.func30, Try.ntmps30
      go_wp2
      go_ret
      exact ⟨by rw [show good (19, a, s) n = _ from hg]; rfl, hb _⟩
    · have hg := hid (show good (20, a, s) n = false by simp [good, *])
      go_enter Try.func30, Try.ntmps30
      go_wp2
      go_ret
      exact ⟨by rw [show good (20, a, s) n = _ from hg]; rfl, hb _⟩
  case c6 =>
    intro h hs ha
    rcases h with rfl | rfl
    · by_cases hn : a ≤ n
      · have hg := hid (show good (19, a, s) n = false by simp [good, *])
        go_enter Try.func30, Try.ntmps30
        go_wp2
        go_ret
        exact ⟨by rw [show good (19, a, s) n = _ from hg]; rfl, hb _⟩
      · have hg := hid (show good (19, a, s) n = false by simp [good, *])
        go_enter Try.func30, Try.ntmps30
        go_wp2
        go_ret
        exact ⟨by rw [show good (19, a, s) n = _ from hg]; rfl, hb _⟩
    · by_cases hn : a ≤ n
      · have hg := hid (show good (20, a, s) n = false by simp [good, *])
        go_enter Try.func30, Try.ntmps30
        go_wp2
        go_ret
        exact ⟨by rw [show good (20, a, s) n = _ from hg]; rfl, hb _⟩
      · have hg := hid (show good (20, a, s) n = false by simp [good, *])
        go_enter Try.func30, Try.ntmps30
        go_wp2
        go_ret
        exact ⟨by rw [show good (20, a, s) n = _ from hg]; rfl, hb _⟩
  case c6' =>
    intro h hs ha
    rcases h with rfl | rfl
    · have hg := hid (show good (19, a, s) n = false by simp [good, *])
      go_enter Try.func30, Try.ntmps30
      go_wp2
      go_ret
      exact ⟨by rw [show good (19, a, s) n = _ from hg]; rfl, hb _⟩
    · have hg := hid (show good (20, a, s) n = false by simp [good, *])
      go_enter Try.func30, Try.ntmps30
      go_wp2
      go_ret
      exact ⟨by rw [show good (20, a, s) n = _ from hg]; rfl, hb _⟩
  case c7 =>
    intro h hs ha
    rcases h with rfl | rfl
    · by_cases hn : a ≤ 7
      · have hg := hid (show good (21, a, s) n = true by simp [good, *])
        go_enter Try.func30, Try.ntmps30
        go_wp2
        go_ret
        exact ⟨by rw [show good (21, a, s) n = _ from hg]; rfl, hb _⟩
      · have hg := hid (show good (21, a, s) n = false by simp [good, *])
        go_enter Try.func30, Try.ntmps30
        go_wp2
        go_ret
        exact ⟨by rw [show good (21, a, s) n = _ from hg]; rfl, hb _⟩
    · by_cases hn : a ≤ 7
      · have hg := hid (show good (22, a, s) n = true by simp [good, *])
        go_enter Try.func30, Try.ntmps30
        go_wp2
        go_ret
        exact ⟨by rw [show good (22, a, s) n = _ from hg]; rfl, hb _⟩
      · have hg := hid (show good (22, a, s) n = false by simp [good, *])
        go_enter Try.func30, Try.ntmps30
        go_wp2
        go_ret
        exact ⟨by rw [show good (22, a, s) n = _ from hg]; rfl, hb _⟩
  case c8 =>
    intro h hs ha
    rcases h with rfl | rfl
    · have hg := hid (show good (21, a, s) n = false by simp [good, *])
      go_enter Try.func30, Try.ntmps30
      go_wp2
      go_ret
      exact ⟨by rw [show good (21, a, s) n = _ from hg]; rfl, hb _⟩
    · have hg := hid (show good (22, a, s) n = false by simp [good, *])
      go_enter Try.func30, Try.ntmps30
      go_wp2
      go_ret
      exact ⟨by rw [show good (22, a, s) n = _ from hg]; rfl, hb _⟩
  case c9 =>
    intro h hs ha
    rcases h with rfl | rfl
    · by_cases hn : a ≤ 7
      · have hg := hid (show good (21, a, s) n = false by simp [good, *])
        go_enter Try.func30, Try.ntmps30
        go_wp2
        go_ret
        exact ⟨by rw [show good (21, a, s) n = _ from hg]; rfl, hb _⟩
      · have hg := hid (show good (21, a, s) n = false by simp [good, *])
        go_enter Try.func30, Try.ntmps30
        go_wp2
        go_ret
        exact ⟨by rw [show good (21, a, s) n = _ from hg]; rfl, hb _⟩
    · by_cases hn : a ≤ 7
      · have hg := hid (show good (22, a, s) n = false by simp [good, *])
        go_enter Try.func30, Try.ntmps30
        go_wp2
        go_ret
        exact ⟨by rw [show good (22, a, s) n = _ from hg]; rfl, hb _⟩
      · have hg := hid (show good (22, a, s) n = false by simp [good, *])
        go_enter Try.func30, Try.ntmps30
        go_wp2
        go_ret
        exact ⟨by rw [show good (22, a, s) n = _ from hg]; rfl, hb _⟩
  case c9' =>
    intro h hs ha
    rcases h with rfl | rfl
    · have hg := hid (show good (21, a, s) n = false by simp [good, *])
      go_enter Try.func30, Try.ntmps30
      go_wp2
      go_ret
      exact ⟨by rw [show good (21, a, s) n = _ from hg]; rfl, hb _⟩
    · have hg := hid (show good (22, a, s) n = false by simp [good, *])
      go_enter Try.func30, Try.ntmps30
      go_wp2
      go_ret
      exact ⟨by rw [show good (22, a, s) n = _ from hg]; rfl, hb _⟩
  case c10 =>
    intro h1 h2 h3 h4 h5 h6 h7 h8 hs
    by_cases hn : a = 0
    · subst hn
      have hg := hid (show good (o, 0, s) n = true by simp [good, *])
      have f1 : (o == 1) = false := by simp; omega
      have f2 : (o == 2) = false := by simp; omega
      have f19 : (o == 19) = false := by simp; omega
      have f20 : (o == 20) = false := by simp; omega
      have f21 : (o == 21) = false := by simp; omega
      have f22 : (o == 22) = false := by simp; omega
      have e1 : decide (o < 0) = false := by simp; omega
      have e2 : decide (23 < o) = false := by simp; omega
      go_enter Try.func30, Try.ntmps30
      go_wp2
      go_ret
      exact ⟨by rw [show good (o, 0, s) n = _ from hg]; rfl, hb _⟩
    · have hg := hid (show good (o, a, s) n = false by simp [good, *])
      have f1 : (o == 1) = false := by simp; omega
      have f2 : (o == 2) = false := by simp; omega
      have f19 : (o == 19) = false := by simp; omega
      have f20 : (o == 20) = false := by simp; omega
      have f21 : (o == 21) = false := by simp; omega
      have f22 : (o == 22) = false := by simp; omega
      have e1 : decide (o < 0) = false := by simp; omega
      have e2 : decide (23 < o) = false := by simp; omega
      go_enter Try.func30, Try.ntmps30
      go_wp2
      go_ret
      exact ⟨by rw [show good (o, a, s) n = _ from hg]; rfl, hb _⟩
  case c11 =>
    intro h1 h2 h3 h4 h5 h6 h7 h8 hs
    by_cases hn : a = 0
    · subst hn
      have hg := hid (show good (o, 0, s) n = false by simp [good, *])
      have f1 : (o == 1) = false := by simp; omega
      have f2 : (o == 2) = false := by simp; omega
      have f19 : (o == 19) = false := by simp; omega
      have f20 : (o == 20) = false := by simp; omega
      have f21 : (o == 21) = false := by simp; omega
      have f22 : (o == 22) = false := by simp; omega
      have e1 : decide (o < 0) = false := by simp; omega
      have e2 : decide (23 < o) = false := by simp; omega
      go_enter Try.func30, Try.ntmps30
      go_wp2
      go_ret
      exact ⟨by rw [show good (o, 0, s) n = _ from hg]; rfl, hb _⟩
    · have hg := hid (show good (o, a, s) n = false by simp [good, *])
      have f1 : (o == 1) = false := by simp; omega
      have f2 : (o == 2) = false := by simp; omega
      have f19 : (o == 19) = false := by simp; omega
      have f20 : (o == 20) = false := by simp; omega
      have f21 : (o == 21) = false := by simp; omega
      have f22 : (o == 22) = false := by simp; omega
      have e1 : decide (o < 0) = false := by simp; omega
      have e2 : decide (23 < o) = false := by simp; omega
      go_enter Try.func30, Try.ntmps30
      go_wp2
      go_ret
      exact ⟨by rw [show good (o, a, s) n = _ from hg]; rfl, hb _⟩
  case c12 =>
    intro h1 h2 h3 h4 h5 h6 h7
    have hg := hid (show good (o, a, s) n = false by simp [good, *])
    have f1 : (o == 1) = false := by simp; omega
    have f2 : (o == 2) = false := by simp; omega
    have f19 : (o == 19) = false := by simp; omega
    have f20 : (o == 20) = false := by simp; omega
    have f21 : (o == 21) = false := by simp; omega
    have f22 : (o == 22) = false := by simp; omega
    have e1 : decide (o < 0) = true := by simp; omega
    go_enter Try.func30, Try.ntmps30
    go_wp2
    go_ret
    exact ⟨by rw [show good (o, a, s) n = _ from hg]; rfl, hb _⟩
  case c13 =>
    intro h1 h2 h3 h4 h5 h6 h7 h8
    have hg := hid (show good (o, a, s) n = false by simp [good, *])
    have f1 : (o == 1) = false := by simp; omega
    have f2 : (o == 2) = false := by simp; omega
    have f19 : (o == 19) = false := by simp; omega
    have f20 : (o == 20) = false := by simp; omega
    have f21 : (o == 21) = false := by simp; omega
    have f22 : (o == 22) = false := by simp; omega
    have e1 : decide (o < 0) = false := by simp; omega
    have e2 : decide (23 < o) = true := by simp; omega
    go_enter Try.func30, Try.ntmps30
    go_wp2
    go_ret
    exact ⟨by rw [show good (o, a, s) n = _ from hg]; rfl, hb _⟩
end Go.Proofs.Ytjmlanmdlpooaaa
