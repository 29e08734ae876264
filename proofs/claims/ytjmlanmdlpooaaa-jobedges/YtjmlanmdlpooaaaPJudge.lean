/- judge of the program: whether an instruction may be. -/
import Derived.Test.YtjmlanmdlpooaaaProg
import Derived.Test.YtjmlanmdlpooaaaPMath
import Derived.Test.YtjmlanmdlpooaaaSav
namespace Go.Proofs.Ytjmlanmdlpooaaa
open Go.RowKit
set_option linter.unusedVariables false

/-- An instruction as a value. -/
abbrev insV (x : Inst) : Value := .agg #[.int .i64 x.1, .int .i64 x.2.1, .string x.2.2]

/-- Every test decided, a goal each. -/
theorem inst_cases (o a n : Int) (s : ByteArray) {C : Prop}
    (c1 : o = 1 → C)
    (c2 : o = 2 → a = 0 → C)
    (c3 : o = 2 → ¬ a = 0 → C)
    (c4 : (o = 19 ∨ o = 20) → s.toList.isEmpty = true → 0 ≤ a → C)
    (c5 : (o = 19 ∨ o = 20) → s.toList.isEmpty = true → ¬ 0 ≤ a → C)
    (c6 : (o = 19 ∨ o = 20) → s.toList.isEmpty = false → 0 ≤ a → C)
    (c6' : (o = 19 ∨ o = 20) → s.toList.isEmpty = false → ¬ 0 ≤ a → C)
    (c7 : (o = 21 ∨ o = 22) → s.toList.isEmpty = true → 0 ≤ a → C)
    (c8 : (o = 21 ∨ o = 22) → s.toList.isEmpty = true → ¬ 0 ≤ a → C)
    (c9 : (o = 21 ∨ o = 22) → s.toList.isEmpty = false → 0 ≤ a → C)
    (c9' : (o = 21 ∨ o = 22) → s.toList.isEmpty = false → ¬ 0 ≤ a → C)
    (c10 : ¬ o = 1 → ¬ o = 2 → ¬ o = 19 → ¬ o = 20 → ¬ o = 21 → ¬ o = 22 → 0 ≤ o → o ≤ 23 → s.toList.isEmpty = true → C)
    (c11 : ¬ o = 1 → ¬ o = 2 → ¬ o = 19 → ¬ o = 20 → ¬ o = 21 → ¬ o = 22 → 0 ≤ o → o ≤ 23 → s.toList.isEmpty = false → C)
    (c12 : ¬ o = 1 → ¬ o = 2 → ¬ o = 19 → ¬ o = 20 → ¬ o = 21 → ¬ o = 22 → ¬ 0 ≤ o → C)
    (c13 : ¬ o = 1 → ¬ o = 2 → ¬ o = 19 → ¬ o = 20 → ¬ o = 21 → ¬ o = 22 → 0 ≤ o → ¬ o ≤ 23 → C) : C := by
  by_cases h1 : o = 1
  · exact c1 h1
  by_cases h2 : o = 2
  · by_cases ha : a = 0
    · exact c2 h2 ha
    · exact c3 h2 ha
  by_cases h3 : o = 19 ∨ o = 20
  · by_cases ha : 0 ≤ a
    · cases hs : s.toList.isEmpty
      · exact c6 h3 hs ha
      · exact c4 h3 hs ha
    · cases hs : s.toList.isEmpty
      · exact c6' h3 hs ha
      · exact c5 h3 hs ha
  by_cases h4 : o = 21 ∨ o = 22
  · by_cases ha : 0 ≤ a
    · cases hs : s.toList.isEmpty
      · exact c9 h4 hs ha
      · exact c7 h4 hs ha
    · cases hs : s.toList.isEmpty
      · exact c9' h4 hs ha
      · exact c8 h4 hs ha
  by_cases h5 : 0 ≤ o
  · by_cases h6 : o ≤ 23
    · cases hs : s.toList.isEmpty
      · exact c11 h1 h2 (by omega) (by omega) (by omega) (by omega) h5 h6 hs
      · exact c10 h1 h2 (by omega) (by omega) (by omega) (by omega) h5 h6 hs
    · exact c13 h1 h2 (by omega) (by omega) (by omega) (by omega) h5 h6
  · exact c12 h1 h2 (by omega) (by omega) (by omega) (by omega) h5

set_option maxHeartbeats 2000000 in
set_option maxRecDepth 100000 in
theorem judge_calls (x : Inst) (n : Int) (w : World) :
    Calls Try.prog 33 #[insV x, .int .i64 n] w fun e w' => e = .returned (.tuple #[.bool (good x n), .bool (jumps x)]) ∧ Below w.heap.size w w' := by
  obtain ⟨o, a, s⟩ := x
  have hb : ∀ o1, Below w.heap.size w (w.alloc o1) := fun o1 => (Below.refl _ w).alloc (Nat.le_refl _) o1
  refine inst_cases o a n s ?c1 ?c2 ?c3 ?c4 ?c5 ?c6 ?c6' ?c7 ?c8 ?c9 ?c9' ?c10 ?c11 ?c12 ?c13
  case c1 =>
    intro h
    subst h
    have hg := hid (show good (1, a, s) n = s.toList.isEmpty by simp [good, *])
    have hj := hid (show jumps (1, a, s) = false by simp [jumps, *])
    go_enter Try.func33, Try.ntmps33
    go_wp2
    go_ret2
    exact ⟨by rw [show good (1, a, s) n = _ from hg, show jumps (1, a, s) = _ from hj]; rfl, hb _⟩
  case c2 =>
    intro h ha
    subst h ha
    have hg := hid (show good (2, 0, s) n = decide ((s.size : Int) ≤ 64) by simp [good, *])
    have hj := hid (show jumps (2, 0, s) = false by simp [jumps, *])
    go_enter Try.func33, Try.ntmps33
    go_wp2
    go_ret2
    exact ⟨by rw [show good (2, 0, s) n = _ from hg, show jumps (2, 0, s) = _ from hj]; rfl, hb _⟩
  case c3 =>
    intro h ha
    subst h
    have hg := hid (show good (2, a, s) n = false by simp [good, *])
    have hj := hid (show jumps (2, a, s) = false by simp [jumps, *])
    go_enter Try.func33, Try.ntmps33
    go_wp2
    go_ret2
    exact ⟨by rw [show good (2, a, s) n = _ from hg, show jumps (2, a, s) = _ from hj]; rfl, hb _⟩
  case c4 =>
    intro h hs ha
    rcases h with rfl | rfl
    · have hg := hid (show good (19, a, s) n = decide (a ≤ n) by simp [good, *])
      have hj := hid (show jumps (19, a, s) = true by simp [jumps, *])
      go_enter Try.func33, Try.ntmps33
      go_wp2
      go_ret2
      exact ⟨by rw [show good (19, a, s) n = _ from hg, show jumps (19, a, s) = _ from hj]; rfl, hb _⟩
    · have hg := hid (show good (20, a, s) n = decide (a ≤ n) by simp [good, *])
      have hj := hid (show jumps (20, a, s) = true by simp [jumps, *])
      go_enter Try.func33, Try.ntmps33
      go_wp2
      go_ret2
      exact ⟨by rw [show good (20, a, s) n = _ from hg, show jumps (20, a, s) = _ from hj]; rfl, hb _⟩
  case c5 =>
    intro h hs ha
    rcases h with rfl | rfl
    · have hg := hid (show good (19, a, s) n = false by simp [good, *])
      have hj := hid (show jumps (19, a, s) = true by simp [jumps, *])
      go_enter Try.func33, Try.ntmps33
      go_wp2
      go_ret2
      exact ⟨by rw [show good (19, a, s) n = _ from hg, show jumps (19, a, s) = _ from hj]; rfl, hb _⟩
    · have hg := hid (show good (20, a, s) n = false by simp [good, *])
      have hj := hid (show jumps (20, a, s) = true by simp [jumps, *])
      go_enter Try.func33, Try.ntmps33
      go_wp2
      go_ret2
      exact ⟨by rw [show good (20, a, s) n = _ from hg, show jumps (20, a, s) = _ from hj]; rfl, hb _⟩
  case c6 =>
    intro h hs ha
    rcases h with rfl | rfl
    · have hg := hid (show good (19, a, s) n = false by simp [good, *])
      have hj := hid (show jumps (19, a, s) = true by simp [jumps, *])
      go_enter Try.func33, Try.ntmps33
      go_wp2
      go_ret2
      exact ⟨by rw [show good (19, a, s) n = _ from hg, show jumps (19, a, s) = _ from hj]; rfl, hb _⟩
    · have hg := hid (show good (20, a, s) n = false by simp [good, *])
      have hj := hid (show jumps (20, a, s) = true by simp [jumps, *])
      go_enter Try.func33, Try.ntmps33
      go_wp2
      go_ret2
      exact ⟨by rw [show good (20, a, s) n = _ from hg, show jumps (20, a, s) = _ from hj]; rfl, hb _⟩
  case c6' =>
    intro h hs ha
    rcases h with rfl | rfl
    · have hg := hid (show good (19, a, s) n = false by simp [good, *])
      have hj := hid (show jumps (19, a, s) = true by simp [jumps, *])
      go_enter Try.func33, Try.ntmps33
      go_wp2
      go_ret2
      exact ⟨by rw [show good (19, a, s) n = _ from hg, show jumps (19, a, s) = _ from hj]; rfl, hb _⟩
    · have hg := hid (show good (20, a, s) n = false by simp [good, *])
      have hj := hid (show jumps (20, a, s) = true by simp [jumps, *])
      go_enter Try.func33, Try.ntmps33
      go_wp2
      go_ret2
      exact ⟨by rw [show good (20, a, s) n = _ from hg, show jumps (20, a, s) = _ from hj]; rfl, hb _⟩
  case c7 =>
    intro h hs ha
    rcases h with rfl | rfl
    · have hg := hid (show good (21, a, s) n = decide (a ≤ 7) by simp [good, *])
      have hj := hid (show jumps (21, a, s) = false by simp [jumps, *])
      have h8 : decide (a < 8) = decide (a ≤ 7) := by rw [decide_eq_decide]; omega
      go_enter Try.func33, Try.ntmps33
      go_wp2
      go_ret2
      exact ⟨by rw [show good (21, a, s) n = _ from hg, show jumps (21, a, s) = _ from hj]; rfl, hb _⟩
    · have hg := hid (show good (22, a, s) n = decide (a ≤ 7) by simp [good, *])
      have hj := hid (show jumps (22, a, s) = false by simp [jumps, *])
      have h8 : decide (a < 8) = decide (a ≤ 7) := by rw [decide_eq_decide]; omega
      go_enter Try.func33, Try.ntmps33
      go_wp2
      go_ret2
      exact ⟨by rw [show good (22, a, s) n = _ from hg, show jumps (22, a, s) = _ from hj]; rfl, hb _⟩
  case c8 =>
    intro h hs ha
    rcases h with rfl | rfl
    · have hg := hid (show good (21, a, s) n = false by simp [good, *])
      have hj := hid (show jumps (21, a, s) = false by simp [jumps, *])
      go_enter Try.func33, Try.ntmps33
      go_wp2
      go_ret2
      exact ⟨by rw [show good (21, a, s) n = _ from hg, show jumps (21, a, s) = _ from hj]; rfl, hb _⟩
    · have hg := hid (show good (22, a, s) n = false by simp [good, *])
      have hj := hid (show jumps (22, a, s) = false by simp [jumps, *])
      go_enter Try.func33, Try.ntmps33
      go_wp2
      go_ret2
      exact ⟨by rw [show good (22, a, s) n = _ from hg, show jumps (22, a, s) = _ from hj]; rfl, hb _⟩
  case c9 =>
    intro h hs ha
    rcases h with rfl | rfl
    · have hg := hid (show good (21, a, s) n = false by simp [good, *])
      have hj := hid (show jumps (21, a, s) = false by simp [jumps, *])
      go_enter Try.func33, Try.ntmps33
      go_wp2
      go_ret2
      exact ⟨by rw [show good (21, a, s) n = _ from hg, show jumps (21, a, s) = _ from hj]; rfl, hb _⟩
    · have hg := hid (show good (22, a, s) n = false by simp [good, *])
      have hj := hid (show jumps (22, a, s) = false by simp [jumps, *])
      go_enter Try.func33, Try.ntmps33
      go_wp2
      go_ret2
      exact ⟨by rw [show good (22, a, s) n = _ from hg, show jumps (22, a, s) = _ from hj]; rfl, hb _⟩
  case c9' =>
    intro h hs ha
    rcases h with rfl | rfl
    · have hg := hid (show good (21, a, s) n = false by simp [good, *])
      have hj := hid (show jumps (21, a, s) = false by simp [jumps, *])
      go_enter Try.func33, Try.ntmps33
      go_wp2
      go_ret2
      exact ⟨by rw [show good (21, a, s) n = _ from hg, show jumps (21, a, s) = _ from hj]; rfl, hb _⟩
    · have hg := hid (show good (22, a, s) n = false by simp [good, *])
      have hj := hid (show jumps (22, a, s) = false by simp [jumps, *])
      go_enter Try.func33, Try.ntmps33
      go_wp2
      go_ret2
      exact ⟨by rw [show good (22, a, s) n = _ from hg, show jumps (22, a, s) = _ from hj]; rfl, hb _⟩
  case c10 =>
    intro h1 h2 h3 h4 h5 h6 h7 h8 hs
    have hg := hid (show good (o, a, s) n = decide (a = 0) by simp [good, *])
    have hj := hid (show jumps (o, a, s) = false by simp [jumps, *])
    go_enter Try.func33, Try.ntmps33
    go_wp2
    go_ret2
    exact ⟨by rw [show good (o, a, s) n = _ from hg, show jumps (o, a, s) = _ from hj]; rfl, hb _⟩
  case c11 =>
    intro h1 h2 h3 h4 h5 h6 h7 h8 hs
    have hg := hid (show good (o, a, s) n = false by simp [good, *])
    have hj := hid (show jumps (o, a, s) = false by simp [jumps, *])
    go_enter Try.func33, Try.ntmps33
    go_wp2
    go_ret2
    exact ⟨by rw [show good (o, a, s) n = _ from hg, show jumps (o, a, s) = _ from hj]; rfl, hb _⟩
  case c12 =>
    intro h1 h2 h3 h4 h5 h6 h7
    have hg := hid (show good (o, a, s) n = false by simp [good, *])
    have hj := hid (show jumps (o, a, s) = false by simp [jumps, *])
    go_enter Try.func33, Try.ntmps33
    go_wp2
    go_ret2
    exact ⟨by rw [show good (o, a, s) n = _ from hg, show jumps (o, a, s) = _ from hj]; rfl, hb _⟩
  case c13 =>
    intro h1 h2 h3 h4 h5 h6 h7 h8
    have hg := hid (show good (o, a, s) n = false by simp [good, *])
    have hj := hid (show jumps (o, a, s) = false by simp [jumps, *])
    go_enter Try.func33, Try.ntmps33
    go_wp2
    go_ret2
    exact ⟨by rw [show good (o, a, s) n = _ from hg, show jumps (o, a, s) = _ from hj]; rfl, hb _⟩
end Go.Proofs.Ytjmlanmdlpooaaa
