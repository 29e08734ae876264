/- Laid together: PJudge PGood PCode PBad PMade. -/
import Derived.Test.YtfimoobgbodbmaaGreatDoorProg
import Derived.Test.YtfimoobgbodbmaaGreatDoorGPlain
import Derived.Test.YtfimoobgbodbmaaGreatDoorGSeq
import Derived.Laws.AppendOwn
/-! judge of the program: whether an instruction may be. -/
namespace Go.Proofs.YtfimoobgbodbmaaGreatDoor
open Go.RowKit
set_option linter.unusedVariables false
set_option maxRecDepth 100000

/-- An instruction as a value. -/
abbrev insV (x : Inst) : Value := .agg #[.int .i64 x.1, .int .i64 x.2.1, .string x.2.2]

/-- Every test decided, a goal each. -/
theorem inst_cases (o a n : Int) (s : ByteArray) {C : Prop}
    (c1 : o = 1 → C)
    (c2 : o = 2 → a = 0 → C)
    (c3 : o = 2 → ¬ a = 0 → C)
    (c4 : (o = 19 ∨ o = 20) → s.toList.isEmpty = true → 0 ≤ a → C)
    (c5 : (o = 19 ∨ o = 20) → s.toList.isEmpty = true → ¬ 0 ≤ a → C)
    (c6 : (o = 19 ∨ o = 20) → s.toList.isEmpty = false → 0 ≤ a → C)
    (c6' : (o = 19 ∨ o = 20) → s.toList.isEmpty = false → ¬ 0 ≤ a → C)
    (c7 : (o = 21 ∨ o = 22) → s.toList.isEmpty = true → 0 ≤ a → C)
    (c8 : (o = 21 ∨ o = 22) → s.toList.isEmpty = true → ¬ 0 ≤ a → C)
    (c9 : (o = 21 ∨ o = 22) → s.toList.isEmpty = false → 0 ≤ a → C)
    (c9' : (o = 21 ∨ o = 22) → s.toList.isEmpty = false → ¬ 0 ≤ a → C)
    (c10 : ¬ o = 1 → ¬ o = 2 → ¬ o = 19 → ¬ o = 20 → ¬ o = 21 → ¬ o = 22 → 0 ≤ o → o ≤ 23 → s.toList.isEmpty = true → C)
    (c11 : ¬ o = 1 → ¬ o = 2 → ¬ o = 19 → ¬ o = 20 → ¬ o = 21 → ¬ o = 22 → 0 ≤ o → o ≤ 23 → s.toList.isEmpty = false → C)
    (c12 : ¬ o = 1 → ¬ o = 2 → ¬ o = 19 → ¬ o = 20 → ¬ o = 21 → ¬ o = 22 → ¬ 0 ≤ o → C)
    (c13 : ¬ o = 1 → ¬ o = 2 → ¬ o = 19 → ¬ o = 20 → ¬ o = 21 → ¬ o = 22 → 0 ≤ o → ¬ o ≤ 23 → C) : C := by
  by_cases h1 : o = 1
  · exact c1 h1
  by_cases h2 : o = 2
  · by_cases ha : a = 0
    · exact c2 h2 ha
    · exact c3 h2 ha
  by_cases h3 : o = 19 ∨ o = 20
  · by_cases ha : 0 ≤ a
    · cases hs : s.toList.isEmpty
      · exact c6 h3 hs ha
      · exact c4 h3 hs ha
    · cases hs : s.toList.isEmpty
      · exact c6' h3 hs ha
      · exact c5 h3 hs ha
  by_cases h4 : o = 21 ∨ o = 22
  · by_cases ha : 0 ≤ a
    · cases hs : s.toList.isEmpty
      · exact c9 h4 hs ha
      · exact c7 h4 hs ha
    · cases hs : s.toList.isEmpty
      · exact c9' h4 hs ha
      · exact c8 h4 hs ha
  by_cases h5 : 0 ≤ o
  · by_cases h6 : o ≤ 23
    · cases hs : s.toList.isEmpty
      · exact c11 h1 h2 (by omega) (by omega) (by omega) (by omega) h5 h6 hs
      · exact c10 h1 h2 (by omega) (by omega) (by omega) (by omega) h5 h6 hs
    · exact c13 h1 h2 (by omega) (by omega) (by omega) (by omega) h5 h6
  · exact c12 h1 h2 (by omega) (by omega) (by omega) (by omega) h5

set_option maxHeartbeats 2000000 in
set_option maxRecDepth 100000 in
theorem judge_calls (x : Inst) (n : Int) (w : World) :
    Calls Tryz.prog 118 #[insV x, .int .i64 n] w fun e w' => e = .returned (.tuple #[.bool (good x n), .bool (jumps x)]) ∧ Below w.heap.size w w' := by
  obtain ⟨o, a, s⟩ := x
  have hb : ∀ o1, Below w.heap.size w (w.alloc o1) := fun o1 => (Below.refl _ w).alloc (Nat.le_refl _) o1
  refine inst_cases o a n s ?c1 ?c2 ?c3 ?c4 ?c5 ?c6 ?c6' ?c7 ?c8 ?c9 ?c9' ?c10 ?c11 ?c12 ?c13
  case c1 =>
    intro h
    subst h
    have hg := hid (show good (1, a, s) n = s.toList.isEmpty by simp [good, *])
    have hj := hid (show jumps (1, a, s) = false by simp [jumps, *])
    go_enter Tryz.func118, Tryz.ntmps118
    go_wp2
    go_ret2
    exact ⟨by rw [show good (1, a, s) n = _ from hg, show jumps (1, a, s) = _ from hj]; rfl, hb _⟩
  case c2 =>
    intro h ha
    subst h ha
    have hg := hid (show good (2, 0, s) n = decide ((s.size : Int) ≤ 64) by simp [good, *])
    have hj := hid (show jumps (2, 0, s) = false by simp [jumps, *])
    go_enter Tryz.func118, Tryz.ntmps118
    go_wp2
    go_ret2
    exact ⟨by rw [show good (2, 0, s) n = _ from hg, show jumps (2, 0, s) = _ from hj]; rfl, hb _⟩
  case c3 =>
    intro h ha
    subst h
    have hg := hid (show good (2, a, s) n = false by simp [good, *])
    have hj := hid (show jumps (2, a, s) = false by simp [jumps, *])
    go_enter Tryz.func118, Tryz.ntmps118
    go_wp2
    go_ret2
    exact ⟨by rw [show good (2, a, s) n = _ from hg, show jumps (2, a, s) = _ from hj]; rfl, hb _⟩
  case c4 =>
    intro h hs ha
    rcases h with rfl | rfl
    · have hg := hid (show good (19, a, s) n = decide (a ≤ n) by simp [good, *])
      have hj := hid (show jumps (19, a, s) = true by simp [jumps, *])
      go_enter Tryz.func118, Tryz.ntmps118
      go_wp2
      go_ret2
      exact ⟨by rw [show good (19, a, s) n = _ from hg, show jumps (19, a, s) = _ from hj]; rfl, hb _⟩
    · have hg := hid (show good (20, a, s) n = decide (a ≤ n) by simp [good, *])
      have hj := hid (show jumps (20, a, s) = true by simp [jumps, *])
      go_enter Tryz.func118, Tryz.ntmps118
      go_wp2
      go_ret2
      exact ⟨by rw [show good (20, a, s) n = _ from hg, show jumps (20, a, s) = _ from hj]; rfl, hb _⟩
  case c5 =>
    intro h hs ha
    rcases h with rfl | rfl
    · have hg := hid (show good (19, a, s) n = false by simp [good, *])
      have hj := hid (show jumps (19, a, s) = true by simp [jumps, *])
      go_enter Tryz.func118, Tryz.ntmps118
      go_wp2
      go_ret2
      exact ⟨by rw [show good (19, a, s) n = _ from hg, show jumps (19, a, s) = _ from hj]; rfl, hb _⟩
    · have hg := hid (show good (20, a, s) n = false by simp [good, *])
      have hj := hid (show jumps (20, a, s) = true by simp [jumps, *])
      go_enter Tryz.func118, Tryz.ntmps118
      go_wp2
      go_ret2
      exact ⟨by rw [show good (20, a, s) n = _ from hg, show jumps (20, a, s) = _ from hj]; rfl, hb _⟩
  case c6 =>
    intro h hs ha
    rcases h with rfl | rfl
    · have hg := hid (show good (19, a, s) n = false by simp [good, *])
      have hj := hid (show jumps (19, a, s) = true by simp [jumps, *])
      go_enter Tryz.func118, Tryz.ntmps118
      go_wp2
      go_ret2
      exact ⟨by rw [show good (19, a, s) n = _ from hg, show jumps (19, a, s) = _ from hj]; rfl, hb _⟩
    · have hg := hid (show good (20, a, s) n = false by simp [good, *])
      have hj := hid (show jumps (20, a, s) = true by simp [jumps, *])
      go_enter Tryz.func118, Tryz.ntmps118
      go_wp2
      go_ret2
      exact ⟨by rw [show good (20, a, s) n = _ from hg, show jumps (20, a, s) = _ from hj]; rfl, hb _⟩
  case c6' =>
    intro h hs ha
    rcases h with rfl | rfl
    · have hg := hid (show good (19, a, s) n = false by simp [good, *])
      have hj := hid (show jumps (19, a, s) = true by simp [jumps, *])
      go_enter Tryz.func118, Tryz.ntmps118
      go_wp2
      go_ret2
      exact ⟨by rw [show good (19, a, s) n = _ from hg, show jumps (19, a, s) = _ from hj]; rfl, hb _⟩
    · have hg := hid (show good (20, a, s) n = false by simp [good, *])
      have hj := hid (show jumps (20, a, s) = true by simp [jumps, *])
      go_enter Tryz.func118, Tryz.ntmps118
      go_wp2
      go_ret2
      exact ⟨by rw [show good (20, a, s) n = _ from hg, show jumps (20, a, s) = _ from hj]; rfl, hb _⟩
  case c7 =>
    intro h hs ha
    rcases h with rfl | rfl
    · have hg := hid (show good (21, a, s) n = decide (a ≤ 7) by simp [good, *])
      have hj := hid (show jumps (21, a, s) = false by simp [jumps, *])
      have h8 : decide (a < 8) = decide (a ≤ 7) := by rw [decide_eq_decide]; omega
      go_enter Tryz.func118, Tryz.ntmps118
      go_wp2
      go_ret2
      exact ⟨by rw [show good (21, a, s) n = _ from hg, show jumps (21, a, s) = _ from hj]; rfl, hb _⟩
    · have hg := hid (show good (22, a, s) n = decide (a ≤ 7) by simp [good, *])
      have hj := hid (show jumps (22, a, s) = false by simp [jumps, *])
      have h8 : decide (a < 8) = decide (a ≤ 7) := by rw [decide_eq_decide]; omega
      go_enter Tryz.func118, Tryz.ntmps118
      go_wp2
      go_ret2
      exact ⟨by rw [show good (22, a, s) n = _ from hg, show jumps (22, a, s) = _ from hj]; rfl, hb _⟩
  case c8 =>
    intro h hs ha
    rcases h with rfl | rfl
    · have hg := hid (show good (21, a, s) n = false by simp [good, *])
      have hj := hid (show jumps (21, a, s) = false by simp [jumps, *])
      go_enter Tryz.func118, Tryz.ntmps118
      go_wp2
      go_ret2
      exact ⟨by rw [show good (21, a, s) n = _ from hg, show jumps (21, a, s) = _ from hj]; rfl, hb _⟩
    · have hg := hid (show good (22, a, s) n = false by simp [good, *])
      have hj := hid (show jumps (22, a, s) = false by simp [jumps, *])
      go_enter Tryz.func118, Tryz.ntmps118
      go_wp2
      go_ret2
      exact ⟨by rw [show good (22, a, s) n = _ from hg, show jumps (22, a, s) = _ from hj]; rfl, hb _⟩
  case c9 =>
    intro h hs ha
    rcases h with rfl | rfl
    · have hg := hid (show good (21, a, s) n = false by simp [good, *])
      have hj := hid (show jumps (21, a, s) = false by simp [jumps, *])
      go_enter Tryz.func118, Tryz.ntmps118
      go_wp2
      go_ret2
      exact ⟨by rw [show good (21, a, s) n = _ from hg, show jumps (21, a, s) = _ from hj]; rfl, hb _⟩
    · have hg := hid (show good (22, a, s) n = false by simp [good, *])
      have hj := hid (show jumps (22, a, s) = false by simp [jumps, *])
      go_enter Tryz.func118, Tryz.ntmps118
      go_wp2
      go_ret2
      exact ⟨by rw [show good (22, a, s) n = _ from hg, show jumps (22, a, s) = _ from hj]; rfl, hb _⟩
  case c9' =>
    intro h hs ha
    rcases h with rfl | rfl
    · have hg := hid (show good (21, a, s) n = false by simp [good, *])
      have hj := hid (show jumps (21, a, s) = false by simp [jumps, *])
      go_enter Tryz.func118, Tryz.ntmps118
      go_wp2
      go_ret2
      exact ⟨by rw [show good (21, a, s) n = _ from hg, show jumps (21, a, s) = _ from hj]; rfl, hb _⟩
    · have hg := hid (show good (22, a, s) n = false by simp [good, *])
      have hj := hid (show jumps (22, a, s) = false by simp [jumps, *])
      go_enter Tryz.func118, Tryz.ntmps118
      go_wp2
      go_ret2
      exact ⟨by rw [show good (22, a, s) n = _ from hg, show jumps (22, a, s) = _ from hj]; rfl, hb _⟩
  case c10 =>
    intro h1 h2 h3 h4 h5 h6 h7 h8 hs
    have hg := hid (show good (o, a, s) n = decide (a = 0) by simp [good, *])
    have hj := hid (show jumps (o, a, s) = false by simp [jumps, *])
    go_enter Tryz.func118, Tryz.ntmps118
    go_wp2
    go_ret2
    exact ⟨by rw [show good (o, a, s) n = _ from hg, show jumps (o, a, s) = _ from hj]; rfl, hb _⟩
  case c11 =>
    intro h1 h2 h3 h4 h5 h6 h7 h8 hs
    have hg := hid (show good (o, a, s) n = false by simp [good, *])
    have hj := hid (show jumps (o, a, s) = false by simp [jumps, *])
    go_enter Tryz.func118, Tryz.ntmps118
    go_wp2
    go_ret2
    exact ⟨by rw [show good (o, a, s) n = _ from hg, show jumps (o, a, s) = _ from hj]; rfl, hb _⟩
  case c12 =>
    intro h1 h2 h3 h4 h5 h6 h7
    have hg := hid (show good (o, a, s) n = false by simp [good, *])
    have hj := hid (show jumps (o, a, s) = false by simp [jumps, *])
    go_enter Tryz.func118, Tryz.ntmps118
    go_wp2
    go_ret2
    exact ⟨by rw [show good (o, a, s) n = _ from hg, show jumps (o, a, s) = _ from hj]; rfl, hb _⟩
  case c13 =>
    intro h1 h2 h3 h4 h5 h6 h7 h8
    have hg := hid (show good (o, a, s) n = false by simp [good, *])
    have hj := hid (show jumps (o, a, s) = false by simp [jumps, *])
    go_enter Tryz.func118, Tryz.ntmps118
    go_wp2
    go_ret2
    exact ⟨by rw [show good (o, a, s) n = _ from hg, show jumps (o, a, s) = _ from hj]; rfl, hb _⟩
end Go.Proofs.YtfimoobgbodbmaaGreatDoor
/-! good of the reference: whether an instruction may be. -/
namespace Go.Proofs.YtfimoobgbodbmaaGreatDoor
open Go.RowKit
set_option linter.unusedVariables false
set_option maxRecDepth 100000

set_option maxHeartbeats 2000000 in
set_option maxRecDepth 100000 in
theorem good_calls (x : Inst) (n : Int) (w : World) :
    Calls Tryz.prog 106 #[insV x, .int .i64 n] w fun e w' => e = .returned (.bool (good x n)) ∧ Below w.heap.size w w' := by
  obtain ⟨o, a, s⟩ := x
  have hb : ∀ o1, Below w.heap.size w (w.alloc o1) := fun o1 => (Below.refl _ w).alloc (Nat.le_refl _) o1
  refine inst_cases o a n s ?c1 ?c2 ?c3 ?c4 ?c5 ?c6 ?c6' ?c7 ?c8 ?c9 ?c9' ?c10 ?c11 ?c12 ?c13
  case c1 =>
    intro h
    subst h
    have hg := hid (show good (1, a, s) n = s.toList.isEmpty by simp [good, *])
    go_enter Tryz.func106, Tryz.ntmps106
    go_wp2
    go_ret
    exact ⟨by rw [show good (1, a, s) n = _ from hg]; rfl, hb _⟩
  case c2 =>
    intro h ha
    subst h ha
    have hg := hid (show good (2, 0, s) n = decide ((s.size : Int) ≤ 64) by simp [good, *])
    go_enter Tryz.func106, Tryz.ntmps106
    go_wp2
    go_ret
    exact ⟨by rw [show good (2, 0, s) n = _ from hg]; rfl, hb _⟩
  case c3 =>
    intro h ha
    subst h
    have hg := hid (show good (2, a, s) n = false by simp [good, *])
    go_enter Tryz.func106, Tryz.ntmps106
    go_wp2
    go_ret
    exact ⟨by rw [show good (2, a, s) n = _ from hg]; rfl, hb _⟩
  case c4 =>
    intro h hs ha
    rcases h with rfl | rfl
    · by_cases hn : a ≤ n
      · have hg := hid (show good (19, a, s) n = true by simp [good, *])
        go_enter Tryz.func106, Tryz.ntmps106
        go_wp2
        go_ret
        exact ⟨by rw [show good (19, a, s) n = _ from hg]; rfl, hb _⟩
      · have hg := hid (show good (19, a, s) n = false by simp [good, *])
        go_enter Tryz.func106, Tryz.ntmps106
        go_wp2
        go_ret
        exact ⟨by rw [show good (19, a, s) n = _ from hg]; rfl, hb _⟩
    · by_cases hn : a ≤ n
      · have hg := hid (show good (20, a, s) n = true by simp [good, *])
        go_enter Tryz.func106, Tryz.ntmps106
        go_wp2
        go_ret
        exact ⟨by rw [show good (20, a, s) n = _ from hg]; rfl, hb _⟩
      · have hg := hid (show good (20, a, s) n = false by simp [good, *])
        go_enter Tryz.func106, Tryz.ntmps106
        go_wp2
        go_ret
        exact ⟨by rw [show good (20, a, s) n = _ from hg]; rfl, hb _⟩
  case c5 =>
    intro h hs ha
    rcases h with rfl | rfl
    · have hg := hid (show good (19, a, s) n = false by simp [good, *])
      go_enter Tryz.func106, Tryz.ntmps106
      go_wp2
      go_ret
      exact ⟨by rw [show good (19, a, s) n = _ from hg]; rfl, hb _⟩
    · have hg := hid (show good (20, a, s) n = false by simp [good, *])
      go_enter Tryz.func106, Tryz.ntmps106
      go_wp2
      go_ret
      exact ⟨by rw [show good (20, a, s) n = _ from hg]; rfl, hb _⟩
  case c6 =>
    intro h hs ha
    rcases h with rfl | rfl
    · by_cases hn : a ≤ n
      · have hg := hid (show good (19, a, s) n = false by simp [good, *])
        go_enter Tryz.func106, Tryz.ntmps106
        go_wp2
        go_ret
        exact ⟨by rw [show good (19, a, s) n = _ from hg]; rfl, hb _⟩
      · have hg := hid (show good (19, a, s) n = false by simp [good, *])
        go_enter Tryz.func106, Tryz.ntmps106
        go_wp2
        go_ret
        exact ⟨by rw [show good (19, a, s) n = _ from hg]; rfl, hb _⟩
    · by_cases hn : a ≤ n
      · have hg := hid (show good (20, a, s) n = false by simp [good, *])
        go_enter Tryz.func106, Tryz.ntmps106
        go_wp2
        go_ret
        exact ⟨by rw [show good (20, a, s) n = _ from hg]; rfl, hb _⟩
      · have hg := hid (show good (20, a, s) n = false by simp [good, *])
        go_enter Tryz.func106, Tryz.ntmps106
        go_wp2
        go_ret
        exact ⟨by rw [show good (20, a, s) n = _ from hg]; rfl, hb _⟩
  case c6' =>
    intro h hs ha
    rcases h with rfl | rfl
    · have hg := hid (show good (19, a, s) n = false by simp [good, *])
      go_enter Tryz.func106, Tryz.ntmps106
      go_wp2
      go_ret
      exact ⟨by rw [show good (19, a, s) n = _ from hg]; rfl, hb _⟩
    · have hg := hid (show good (20, a, s) n = false by simp [good, *])
      go_enter Tryz.func106, Tryz.ntmps106
      go_wp2
      go_ret
      exact ⟨by rw [show good (20, a, s) n = _ from hg]; rfl, hb _⟩
  case c7 =>
    intro h hs ha
    rcases h with rfl | rfl
    · by_cases hn : a ≤ 7
      · have hg := hid (show good (21, a, s) n = true by simp [good, *])
        go_enter Tryz.func106, Tryz.ntmps106
        go_wp2
        go_ret
        exact ⟨by rw [show good (21, a, s) n = _ from hg]; rfl, hb _⟩
      · have hg := hid (show good (21, a, s) n = false by simp [good, *])
        go_enter Tryz.func106, Tryz.ntmps106
        go_wp2
        go_ret
        exact ⟨by rw [show good (21, a, s) n = _ from hg]; rfl, hb _⟩
    · by_cases hn : a ≤ 7
      · have hg := hid (show good (22, a, s) n = true by simp [good, *])
        go_enter Tryz.func106, Tryz.ntmps106
        go_wp2
        go_ret
        exact ⟨by rw [show good (22, a, s) n = _ from hg]; rfl, hb _⟩
      · have hg := hid (show good (22, a, s) n = false by simp [good, *])
        go_enter Tryz.func106, Tryz.ntmps106
        go_wp2
        go_ret
        exact ⟨by rw [show good (22, a, s) n = _ from hg]; rfl, hb _⟩
  case c8 =>
    intro h hs ha
    rcases h with rfl | rfl
    · have hg := hid (show good (21, a, s) n = false by simp [good, *])
      go_enter Tryz.func106, Tryz.ntmps106
      go_wp2
      go_ret
      exact ⟨by rw [show good (21, a, s) n = _ from hg]; rfl, hb _⟩
    · have hg := hid (show good (22, a, s) n = false by simp [good, *])
      go_enter Tryz.func106, Tryz.ntmps106
      go_wp2
      go_ret
      exact ⟨by rw [show good (22, a, s) n = _ from hg]; rfl, hb _⟩
  case c9 =>
    intro h hs ha
    rcases h with rfl | rfl
    · by_cases hn : a ≤ 7
      · have hg := hid (show good (21, a, s) n = false by simp [good, *])
        go_enter Tryz.func106, Tryz.ntmps106
        go_wp2
        go_ret
        exact ⟨by rw [show good (21, a, s) n = _ from hg]; rfl, hb _⟩
      · have hg := hid (show good (21, a, s) n = false by simp [good, *])
        go_enter Tryz.func106, Tryz.ntmps106
        go_wp2
        go_ret
        exact ⟨by rw [show good (21, a, s) n = _ from hg]; rfl, hb _⟩
    · by_cases hn : a ≤ 7
      · have hg := hid (show good (22, a, s) n = false by simp [good, *])
        go_enter Tryz.func106, Tryz.ntmps106
        go_wp2
        go_ret
        exact ⟨by rw [show good (22, a, s) n = _ from hg]; rfl, hb _⟩
      · have hg := hid (show good (22, a, s) n = false by simp [good, *])
        go_enter Tryz.func106, Tryz.ntmps106
        go_wp2
        go_ret
        exact ⟨by rw [show good (22, a, s) n = _ from hg]; rfl, hb _⟩
  case c9' =>
    intro h hs ha
    rcases h with rfl | rfl
    · have hg := hid (show good (21, a, s) n = false by simp [good, *])
      go_enter Tryz.func106, Tryz.ntmps106
      go_wp2
      go_ret
      exact ⟨by rw [show good (21, a, s) n = _ from hg]; rfl, hb _⟩
    · have hg := hid (show good (22, a, s) n = false by simp [good, *])
      go_enter Tryz.func106, Tryz.ntmps106
      go_wp2
      go_ret
      exact ⟨by rw [show good (22, a, s) n = _ from hg]; rfl, hb _⟩
  case c10 =>
    intro h1 h2 h3 h4 h5 h6 h7 h8 hs
    by_cases hn : a = 0
    · subst hn
      have hg := hid (show good (o, 0, s) n = true by simp [good, *])
      have f1 : (o == 1) = false := by simp; omega
      have f2 : (o == 2) = false := by simp; omega
      have f19 : (o == 19) = false := by simp; omega
      have f20 : (o == 20) = false := by simp; omega
      have f21 : (o == 21) = false := by simp; omega
      have f22 : (o == 22) = false := by simp; omega
      have e1 : decide (o < 0) = false := by simp; omega
      have e2 : decide (23 < o) = false := by simp; omega
      go_enter Tryz.func106, Tryz.ntmps106
      go_wp2
      go_ret
      exact ⟨by rw [show good (o, 0, s) n = _ from hg]; rfl, hb _⟩
    · have hg := hid (show good (o, a, s) n = false by simp [good, *])
      have f1 : (o == 1) = false := by simp; omega
      have f2 : (o == 2) = false := by simp; omega
      have f19 : (o == 19) = false := by simp; omega
      have f20 : (o == 20) = false := by simp; omega
      have f21 : (o == 21) = false := by simp; omega
      have f22 : (o == 22) = false := by simp; omega
      have e1 : decide (o < 0) = false := by simp; omega
      have e2 : decide (23 < o) = false := by simp; omega
      go_enter Tryz.func106, Tryz.ntmps106
      go_wp2
      go_ret
      exact ⟨by rw [show good (o, a, s) n = _ from hg]; rfl, hb _⟩
  case c11 =>
    intro h1 h2 h3 h4 h5 h6 h7 h8 hs
    by_cases hn : a = 0
    · subst hn
      have hg := hid (show good (o, 0, s) n = false by simp [good, *])
      have f1 : (o == 1) = false := by simp; omega
      have f2 : (o == 2) = false := by simp; omega
      have f19 : (o == 19) = false := by simp; omega
      have f20 : (o == 20) = false := by simp; omega
      have f21 : (o == 21) = false := by simp; omega
      have f22 : (o == 22) = false := by simp; omega
      have e1 : decide (o < 0) = false := by simp; omega
      have e2 : decide (23 < o) = false := by simp; omega
      go_enter Tryz.func106, Tryz.ntmps106
      go_wp2
      go_ret
      exact ⟨by rw [show good (o, 0, s) n = _ from hg]; rfl, hb _⟩
    · have hg := hid (show good (o, a, s) n = false by simp [good, *])
      have f1 : (o == 1) = false := by simp; omega
      have f2 : (o == 2) = false := by simp; omega
      have f19 : (o == 19) = false := by simp; omega
      have f20 : (o == 20) = false := by simp; omega
      have f21 : (o == 21) = false := by simp; omega
      have f22 : (o == 22) = false := by simp; omega
      have e1 : decide (o < 0) = false := by simp; omega
      have e2 : decide (23 < o) = false := by simp; omega
      go_enter Tryz.func106, Tryz.ntmps106
      go_wp2
      go_ret
      exact ⟨by rw [show good (o, a, s) n = _ from hg]; rfl, hb _⟩
  case c12 =>
    intro h1 h2 h3 h4 h5 h6 h7
    have hg := hid (show good (o, a, s) n = false by simp [good, *])
    have f1 : (o == 1) = false := by simp; omega
    have f2 : (o == 2) = false := by simp; omega
    have f19 : (o == 19) = false := by simp; omega
    have f20 : (o == 20) = false := by simp; omega
    have f21 : (o == 21) = false := by simp; omega
    have f22 : (o == 22) = false := by simp; omega
    have e1 : decide (o < 0) = true := by simp; omega
    go_enter Tryz.func106, Tryz.ntmps106
    go_wp2
    go_ret
    exact ⟨by rw [show good (o, a, s) n = _ from hg]; rfl, hb _⟩
  case c13 =>
    intro h1 h2 h3 h4 h5 h6 h7 h8
    have hg := hid (show good (o, a, s) n = false by simp [good, *])
    have f1 : (o == 1) = false := by simp; omega
    have f2 : (o == 2) = false := by simp; omega
    have f19 : (o == 19) = false := by simp; omega
    have f20 : (o == 20) = false := by simp; omega
    have f21 : (o == 21) = false := by simp; omega
    have f22 : (o == 22) = false := by simp; omega
    have e1 : decide (o < 0) = false := by simp; omega
    have e2 : decide (23 < o) = true := by simp; omega
    go_enter Tryz.func106, Tryz.ntmps106
    go_wp2
    go_ret
    exact ⟨by rw [show good (o, a, s) n = _ from hg]; rfl, hb _⟩
end Go.Proofs.YtfimoobgbodbmaaGreatDoor
/-! Slices of instructions: how they read; GreatCode and Bad over them. -/
namespace Go.Proofs.YtfimoobgbodbmaaGreatDoor
open Go.RowKit
set_option linter.unusedVariables false
set_option maxRecDepth 100000

/-- Three cells hold an instruction. -/
def Lies (w : World) (b off : Nat) (x : Inst) : Prop :=
  w.cell? ⟨b, off, none⟩ = some (.int .i64 x.1) ∧ w.cell? ⟨b, off + 1, none⟩ = some (.int .i64 x.2.1) ∧ w.cell? ⟨b, off + 2, none⟩ = some (.string x.2.2)
theorem Lies.below {w w' : World} {b off : Nat} {x : Inst} (h : Lies w b off x) (hb : Below w.heap.size w w') (hlt : b < w.heap.size) : Lies w' b off x :=
  ⟨(hb.cell (p := ⟨b, off, none⟩) hlt).trans h.1, (hb.cell (p := ⟨b, off + 1, none⟩) hlt).trans h.2.1, (hb.cell (p := ⟨b, off + 2, none⟩) hlt).trans h.2.2⟩

/-- v is a slice of instructions that reads as l in the world w. -/
def Co (w : World) (v : Value) (l : List Inst) : Prop :=
  ∃ ao cap, v = .slice ao l.length cap ∧ l.length ≤ cap ∧ cap ≤ maxLen ∧ (ao = none → l = [] ∧ cap = 0) ∧
    (l ≠ [] → ∃ b off, ao = some ⟨b, off, none⟩ ∧ b < w.heap.size ∧ ∀ j, j < l.length → Lies w b (off + j * 3) (l.getD j zInst))
theorem Co.below {w w' : World} {v : Value} {l : List Inst} (h : Co w v l) (hb : Below w.heap.size w w') : Co w' v l := by
  obtain ⟨ao, cap, rfl, h1, h2, h3, h4⟩ := h
  refine ⟨ao, cap, rfl, h1, h2, h3, fun hl => ?_⟩
  obtain ⟨b, off, rfl, hlt, hc⟩ := h4 hl
  exact ⟨b, off, rfl, Nat.lt_of_lt_of_le hlt hb.size, fun j hj => (hc j hj).below hb hlt⟩

/-- Instructions as cells. -/
def icl (l : List Inst) : List Value := l.flatMap fun x => [.int .i64 x.1, .int .i64 x.2.1, .string x.2.2]
theorem icl_length (l : List Inst) : (icl l).length = l.length * 3 := by
  induction l with
  | nil => rfl
  | cons x l ih =>
    show ((icl l).length + 1 + 1 + 1) = (l.length + 1) * 3
    omega
theorem icl_append (a b : List Inst) : icl (a ++ b) = icl a ++ icl b := by simp [icl]
theorem icl_at : ∀ (l : List Inst) (j : Nat), j < l.length → (icl l)[j * 3]? = some (.int .i64 (l.getD j zInst).1) ∧ (icl l)[j * 3 + 1]? = some (.int .i64 (l.getD j zInst).2.1) ∧ (icl l)[j * 3 + 2]? = some (.string (l.getD j zInst).2.2)
  | [], j, h => by simp at h
  | x :: l, 0, _ => ⟨rfl, rfl, rfl⟩
  | x :: l, j + 1, h => by
    have ih := icl_at l j (by simpa using h)
    have e : icl (x :: l) = [Value.int .i64 x.1, .int .i64 x.2.1, .string x.2.2] ++ icl l := rfl
    have e2 : (x :: l).getD (j + 1) zInst = l.getD j zInst := rfl
    rw [e, e2, List.getElem?_append_right (by simp; omega), List.getElem?_append_right (by simp; omega), List.getElem?_append_right (by simp; omega)]
    have k0 : (j + 1) * 3 - 3 = j * 3 := by omega
    have k1 : (j + 1) * 3 + 1 - 3 = j * 3 + 1 := by omega
    have k2 : (j + 1) * 3 + 2 - 3 = j * 3 + 2 := by omega
    simp only [List.length_cons, List.length_nil]
    rw [k0, k1, k2]
    exact ih
theorem icl_oneCell (l : List Inst) : ∀ u ∈ icl l, u.oneCell' = true := by
  intro u hu
  unfold icl at hu
  obtain ⟨x, _, hx⟩ := List.mem_flatMap.1 hu
  simp at hx
  rcases hx with rfl | rfl | rfl <;> rfl

/-- What the call owns reads as it must. -/
theorem Co.own {w : World} {base n : Nat} {v : Value} {l : List Inst} (h : w.ownsRow base 118 3 v n (icl l)) : Co w v l := by
  have hn : l.length = n := by have := h.1; rw [icl_length] at this; omega
  subst hn
  rcases h.2 with ⟨h', h0⟩ | ⟨g, cap, cur, h', hb, hg, hnc, hm, hs, ht⟩
  · subst h'
    have : l = [] := List.eq_nil_of_length_eq_zero h0
    subst this
    exact ⟨none, 0, rfl, Nat.le_refl _, by unfold maxLen; omega, fun _ => ⟨rfl, rfl⟩, fun h => absurd rfl h⟩
  · subst h'
    refine ⟨some ⟨g, 0, none⟩, cap, rfl, hnc, hm, fun e => (by cases e), fun _ => ⟨g, 0, rfl, (Array.getElem?_eq_some_iff.1 hg).1, fun j hj => ?_⟩⟩
    obtain ⟨a0, a1, a2⟩ := icl_at l j hj
    refine ⟨?_, ?_, ?_⟩
    · rw [Nat.zero_add, h.cellAt _ (by omega)]; exact a0
    · rw [Nat.zero_add, h.cellAt _ (by omega)]; exact a1
    · rw [Nat.zero_add, h.cellAt _ (by omega)]; exact a2
end Go.Proofs.YtfimoobgbodbmaaGreatDoor
/-! GreatCode; Bad of the program and of the reference; May. -/
namespace Go.Proofs.YtfimoobgbodbmaaGreatDoor
open Go.RowKit
set_option linter.unusedVariables false
set_option maxRecDepth 100000

/-- Is it great? If it is not, there are at most 60. -/
def GreatSays (l : List Inst) (e : Ending) : Prop := ∃ g, e = .returned (.bool g) ∧ (g = false → l.length ≤ 60)
set_option maxHeartbeats 1000000 in
theorem great_any (v : Value) (l : List Inst) (w : World) (hv : Co w v l) :
    Calls Tryz.prog 35 #[v] w fun e w' => GreatSays l e ∧ w' = w := by
  obtain ⟨ao, ca, rfl, a1, a2, a3, a4⟩ := hv
  unfold maxLen at a2
  by_cases hbig : 60 < l.length
  · have hd : decide ((l.length : Int) ≤ 60) = false := by simp; omega
    have hd2 : decide ((60 : Int) < (l.length : Int)) = true := by simp; omega
    have hd3 : decide ((0 : Int) < (l.length : Int)) = true := by simp; omega
    clear a3 a4
    go_enter Tryz.func35, Tryz.ntmps35
    go_wp2
    go_loop [3] (fun i => i = .int .i64 0) (fun _ => 0)
    case atStart => rfl
    case round =>
      subst hrel
      go_wp2
      go_ret
      exact ⟨⟨true, rfl, fun h => by cases h⟩, rfl⟩
  · have HB := hid hbig
    have hd : decide ((l.length : Int) ≤ 60) = true := by simp; omega
    have hd2 : decide ((60 : Int) < (l.length : Int)) = false := by simp; omega
    clear hbig a3
    go_enter Tryz.func35, Tryz.ntmps35
    go_wp2
    go_loop [3] (fun i => ∃ k : Nat, k ≤ l.length ∧ i = .int .i64 k) (fun i => l.length - (intOf i).toNat)
    case atStart => exact ⟨0, by omega, rfl⟩
    case round =>
      obtain ⟨k, hk, rfl⟩ := hrel
      by_cases hlt : k < l.length
      · have hl : l ≠ [] := by intro e; rw [e] at hlt; simp at hlt
        obtain ⟨b, off, rfl, hb, hc⟩ := a4 hl
        obtain ⟨c0, c1, c2⟩ := hc k hlt
        clear hc hl a4 c0 c1
        generalize (l.getD k zInst).2.2 = s at c2
        have hd4 : decide ((k : Int) < (l.length : Int)) = true := by simp; omega
        by_cases hs : 100 < s.size
        · have hd5 : decide ((100 : Int) < (s.size : Int)) = true := by simp; omega
          go_wp2
          go_ret
          exact ⟨⟨true, rfl, fun h => by cases h⟩, rfl⟩
        · have hd5 : decide ((100 : Int) < (s.size : Int)) = false := by simp; omega
          go_wp2
          go_round
          case rel => exact ⟨k + 1, by omega, by go_num⟩
          case measure => simp [intOf]; omega
      · have hd4 : decide ((k : Int) < (l.length : Int)) = false := by simp; omega
        clear a4
        go_wp2
        go_ret
        exact ⟨⟨false, rfl, fun _ => by have := HB.out; omega⟩, rfl⟩

/-- A world behind which nothing old has turned, from any that is so. -/
theorem below_next {B : Nat} {w w1 w2 : World} (h : Below B w w1) (k : Below w1.heap.size w1 w2) (hB : B ≤ w1.heap.size) : Below B w w2 :=
  ⟨k.os.trans h.os, k.tape.trans h.tape, k.output.trans h.output, Nat.le_trans h.size k.size, fun i hi => (k.block i (by omega)).trans (h.block i hi)⟩

set_option maxHeartbeats 1000000 in
theorem bad_any (v : Value) (l : List Inst) (w : World) (hv : Co w v l) :
    Calls Tryz.prog 96 #[v] w fun e w' => e = .returned (.int .i64 (bad l)) ∧ Below w.heap.size w w' := by
  obtain ⟨ao, ca, rfl, a1, a2, a3, a4⟩ := hv
  unfold maxLen at a2
  by_cases hl : l = []
  · subst hl
    clear a3 a4
    have hz : bad [] = -1 := bad_none (by simp) (fun i hi => by simp at hi)
    have HZ := hid hz
    clear hz
    go_enter Tryz.func96, Tryz.ntmps96
    go_wp2
    go_loop [13] (fun i => i = .int .i64 0) (fun _ => 0)
    case atStart => rfl
    case round =>
      subst hrel
      go_wp2
      go_ret
      exact ⟨by rw [HZ.out]; rfl, Below.refl _ _⟩
  · obtain ⟨b, off, rfl, hb, hc⟩ := a4 hl
    have HC := hid hc
    clear a3 a4 hc hl
    by_cases h40 : 40 < l.length
    · have hmx : max (40 : Int) 0 = 40 := rfl
      have hq : (40 : Int) < (l.length : Int) := by omega
      have hq2 : ¬ (l.length : Int) ≤ 40 := by omega
      have hd9 : decide ((40 : Int) < (l.length : Int)) = true := by simp; omega
      go_enter Tryz.func96, Tryz.ntmps96
      go_wp2
      go_loopw [13] (fun i wr => ∃ k : Nat, k ≤ 40 ∧ i = .int .i64 k ∧ Fine l l.length k ∧ Below w.heap.size w wr) (fun i _ => 40 - (intOf i).toNat)
      case atStart => exact ⟨0, by omega, rfl, fine_zero _ _, Below.refl _ _⟩
      case round =>
        obtain ⟨k, hk, rfl, hF, hbel⟩ := hrel
        have HF := hid hF
        have hsz := hbel.size
        clear hF
        by_cases hlt : k < 40
        · obtain ⟨c0, c1, c2⟩ := (HC.out k (by omega)).below hbel hb
          obtain ⟨x, hx⟩ : ∃ x, l.getD k zInst = x := ⟨_, rfl⟩
          have HX := hid hx
          rw [hx] at c0 c1 c2
          clear hx
          have hd4 : decide ((k : Int) < (40 : Int)) = true := by simp; omega
          go_wp2_with fail
          refine (judge_calls x _ _).mono ?_
          rintro e w2 ⟨rfl, hb2⟩
          have HB2 := hid (below_next (hbel.alloc (by omega) _) hb2 (by simp; omega))
          clear hb2 c0 c1 c2
          obtain ⟨g, hg⟩ : ∃ g, good x l.length = g := ⟨_, rfl⟩
          rw [hg]
          have HG := hid (show good (l.getD k zInst) l.length = g by rw [HX.out]; exact hg)
          clear hg
          generalize jumps x = j
          cases g
          · have HE := hid (bad_at (by omega) (by omega) HF.out HG.out)
            go_wp2
            go_ret
            exact ⟨by rw [HE.out]; rfl, HB2.out⟩
          · go_wp2
            go_roundw
            case rel => exact ⟨k + 1, by omega, by go_num, HF.out.step HG.out, HB2.out⟩
            case measure => simp [intOf]; omega
        · have hd4 : decide ((k : Int) < (40 : Int)) = false := by simp; omega
          obtain rfl : k = 40 := by omega
          have HE := hid (bad_great h40 HF.out)
          go_wp2
          go_ret
          exact ⟨by rw [HE.out]; rfl, hbel⟩
    · have hq : ¬ (40 : Int) < (l.length : Int) := by omega
      have hq2 : (l.length : Int) ≤ 40 := by omega
      have hd9 : decide ((40 : Int) < (l.length : Int)) = false := by simp; omega
      go_enter Tryz.func96, Tryz.ntmps96
      go_wp2
      go_loopw [13] (fun i wr => ∃ k : Nat, k ≤ l.length ∧ i = .int .i64 k ∧ Fine l l.length k ∧ Below w.heap.size w wr) (fun i _ => l.length - (intOf i).toNat)
      case atStart => exact ⟨0, by omega, rfl, fine_zero _ _, Below.refl _ _⟩
      case round =>
        obtain ⟨k, hk, rfl, hF, hbel⟩ := hrel
        have HF := hid hF
        have hsz := hbel.size
        clear hF
        by_cases hlt : k < l.length
        · obtain ⟨c0, c1, c2⟩ := (HC.out k (by omega)).below hbel hb
          obtain ⟨x, hx⟩ : ∃ x, l.getD k zInst = x := ⟨_, rfl⟩
          have HX := hid hx
          rw [hx] at c0 c1 c2
          clear hx
          have hd4 : decide ((k : Int) < (l.length : Int)) = true := by simp; omega
          go_wp2_with fail
          refine (judge_calls x _ _).mono ?_
          rintro e w2 ⟨rfl, hb2⟩
          have HB2 := hid (below_next (hbel.alloc (by omega) _) hb2 (by simp; omega))
          clear hb2 c0 c1 c2
          obtain ⟨g, hg⟩ : ∃ g, good x l.length = g := ⟨_, rfl⟩
          rw [hg]
          have HG := hid (show good (l.getD k zInst) l.length = g by rw [HX.out]; exact hg)
          clear hg
          generalize jumps x = j
          cases g
          · have HE := hid (bad_at (by omega) (by omega) HF.out HG.out)
            go_wp2
            go_ret
            exact ⟨by rw [HE.out]; rfl, HB2.out⟩
          · go_wp2
            go_roundw
            case rel => exact ⟨k + 1, by omega, by go_num, HF.out.step HG.out, HB2.out⟩
            case measure => simp [intOf]; omega
        · have hd4 : decide ((k : Int) < (l.length : Int)) = false := by simp; omega
          obtain rfl : k = l.length := by omega
          have HE := hid (bad_none (by omega) HF.out)
          go_wp2
          go_ret
          exact ⟨by rw [HE.out]; rfl, hbel⟩

theorem may_any (v : Value) (l : List Inst) (w : World) (hv : Co w v l) :
    Calls Tryz.prog 76 #[v] w fun e w' => e = .returned (.bool (decide (bad l < 0))) ∧ Below w.heap.size w w' := by
  go_enter Tryz.func76, Tryz.ntmps76
  go_wp2_with fail
  refine (bad_any v l w hv).mono ?_
  rintro e w2 ⟨rfl, hb2⟩
  have HB2 := hid hb2
  go_wp2
  go_ret
  exact ⟨rfl, HB2.out⟩

set_option maxHeartbeats 1000000 in
theorem refBad_any (v : Value) (l : List Inst) (w : World) (hv : Co w v l) :
    Calls Tryz.prog 85 #[v] w fun e w' => e = .returned (.int .i64 (bad l)) ∧ Below w.heap.size w w' := by
  obtain ⟨ao, ca, rfl, a1, a2, a3, a4⟩ := hv
  have HC := hid a4
  unfold maxLen at a2
  clear a3 a4
  go_enter Tryz.func85, Tryz.ntmps85
  go_wp2
  go_loopw [3] (fun i wr => ∃ k : Nat, k ≤ l.length ∧ k ≤ 40 ∧ i = .int .i64 k ∧ Fine l l.length k ∧ Below w.heap.size w wr) (fun i _ => l.length - (intOf i).toNat)
  case atStart => exact ⟨0, by omega, by omega, rfl, fine_zero _ _, Below.refl _ _⟩
  case round =>
    obtain ⟨k, hk, hk4, rfl, hF, hbel⟩ := hrel
    have HF := hid hF
    have hsz := hbel.size
    clear hF
    by_cases hlt : k < l.length
    · have hd4 : decide ((k : Int) < (l.length : Int)) = true := by simp; omega
      by_cases h40 : k < 40
      · have hd5 : decide ((k : Int) < 40) = true := by simp; omega
        obtain ⟨b, off, rfl, hb, hc⟩ := HC.out (by intro e; rw [e] at hlt; simp at hlt)
        obtain ⟨c0, c1, c2⟩ := (hc k hlt).below hbel hb
        obtain ⟨x, hx⟩ : ∃ x, l.getD k zInst = x := ⟨_, rfl⟩
        have HX := hid hx
        rw [hx] at c0 c1 c2
        clear hx hc
        go_wp2_with fail
        refine (good_calls x _ _).mono ?_
        rintro e w2 ⟨rfl, hb2⟩
        have HB2 := hid (below_next hbel hb2 (by omega))
        clear hb2 c0 c1 c2
        obtain ⟨g, hg⟩ : ∃ g, good x l.length = g := ⟨_, rfl⟩
        rw [hg]
        have HG := hid (show good (l.getD k zInst) l.length = g by rw [HX.out]; exact hg)
        clear hg
        cases g
        · have HE := hid (bad_at (by omega) (by omega) HF.out HG.out)
          go_wp2
          go_ret
          exact ⟨by rw [HE.out]; rfl, HB2.out⟩
        · go_wp2
          go_roundw
          case rel => exact ⟨k + 1, by omega, by omega, by go_num, HF.out.step HG.out, HB2.out⟩
          case measure => simp [intOf]; omega
      · obtain rfl : k = 40 := by omega
        have hd6 : decide ((40 : Int) < (l.length : Int)) = true := by simp; omega
        have HE := hid (bad_great (by omega) HF.out)
        go_wp2
        go_ret
        exact ⟨by rw [HE.out]; rfl, hbel⟩
    · have hd4 : decide ((k : Int) < (l.length : Int)) = false := by simp; omega
      obtain rfl : k = l.length := by omega
      have hd6 : decide ((40 : Int) < (l.length : Int)) = false := by simp; omega
      have HE := hid (bad_none (by omega) HF.out)
      go_wp2
      go_ret
      exact ⟨by rw [HE.out]; rfl, hbel⟩
end Go.Proofs.YtfimoobgbodbmaaGreatDoor
/-! Programs that were just written down. -/
namespace Go.Proofs.YtfimoobgbodbmaaGreatDoor
open Go.RowKit
set_option linter.unusedVariables false
set_option maxRecDepth 100000
theorem Co.made (l : List Inst) (w : World) (hl : l.length ≤ 100) : Co (w.alloc (.cells (icl l).toArray 118)) (.slice (some ⟨w.heap.size, 0, none⟩) l.length l.length) l := by
  have h : (w.alloc (.cells (icl l).toArray 118)).ownsRow w.heap.size 118 3 (.slice (some ⟨w.heap.size, 0, none⟩) l.length l.length) l.length (icl l) :=
    ⟨icl_length l, .inr ⟨w.heap.size, l.length, (icl l).toArray, rfl, Nat.le_refl _, new_block _ _, Nat.le_refl _, by unfold maxLen; omega, by rw [List.size_toArray, icl_length], by rw [List.toList_toArray]; exact List.take_of_length_le (by rw [icl_length]; omega)⟩⟩
  exact Co.own h
theorem Co.nil (w : World) : Co w (.slice none 0 0) [] := ⟨none, 0, rfl, Nat.le_refl _, by unfold maxLen; omega, fun _ => ⟨rfl, rfl⟩, fun h => absurd rfl h⟩
end Go.Proofs.YtfimoobgbodbmaaGreatDoor
