/- One jump among instructions that do nothing; what make lays. -/
import Derived.Test.YtkkgclocamekcaaPAwake
import Derived.Test.YtkkgclocamekcaaLow
import Derived.OwnWalk
namespace Go.Proofs.Ytkkgclocamekcaa
open Go.RowKit Go.Lib
set_option linter.unusedVariables false

theorem getD_replicate {n j : Nat} (h : j < n) : (List.replicate n zInst).getD j zInst = zInst := by
  simp [List.getD, h]
theorem made_icl (n : Nat) : (madeCells #[Value.int .i64 0, .int .i64 0, .string ⟨#[]⟩] (n * 3)).toList = icl (List.replicate n zInst) := by
  apply List.ext_getElem?
  intro j
  by_cases hj : j < n * 3
  · have hq : j / 3 < n := by omega
    obtain ⟨a0, a1, a2⟩ := icl_at (List.replicate n zInst) (j / 3) (by simpa using hq)
    rw [getD_replicate hq] at a0 a1 a2
    have e : (madeCells #[Value.int .i64 0, .int .i64 0, .string ⟨#[]⟩] (n * 3)).toList[j]? = some (#[Value.int .i64 0, .int .i64 0, .string ⟨#[]⟩][j % 3]!) := by
      simp [madeCells, hj]
    rw [e]
    have : j = j / 3 * 3 ∧ j % 3 = 0 ∨ j = j / 3 * 3 + 1 ∧ j % 3 = 1 ∨ j = j / 3 * 3 + 2 ∧ j % 3 = 2 := by omega
    rcases this with ⟨h1, h2⟩ | ⟨h1, h2⟩ | ⟨h1, h2⟩
    · rw [h2, h1, a0]; rfl
    · rw [h2, h1, a1]; rfl
    · rw [h2, h1, a2]; rfl
  · rw [List.getElem?_eq_none (by simp [size_madeCells]; omega), List.getElem?_eq_none (by rw [icl_length]; simp; omega)]
theorem icl_set : ∀ (l : List Inst) (m : Nat) (x : Inst), icl (l.set m x) = (((icl l).set (m * 3) (.int .i64 x.1)).set (m * 3 + 1) (.int .i64 x.2.1)).set (m * 3 + 2) (.string x.2.2)
  | [], m, x => rfl
  | y :: l, 0, x => rfl
  | y :: l, m + 1, x => by
    have ih := icl_set l m x
    show Value.int .i64 y.1 :: .int .i64 y.2.1 :: .string y.2.2 :: icl (l.set m x) = _
    rw [ih, show (m + 1) * 3 = m * 3 + 1 + 1 + 1 by omega]
    rfl

/-- n instructions that do nothing, but the one at m. -/
def one (n m : Nat) (x : Inst) : List Inst := (List.replicate n zInst).set m x
theorem one_length (n m : Nat) (x : Inst) : (one n m x).length = n := by simp [one]
theorem one_at {n m : Nat} (x : Inst) (h : m < n) : (one n m x).getD m zInst = x := by
  simp [one, List.getD, h]
theorem one_off {n m i : Nat} (x : Inst) (h : i ≠ m) (hi : i < n) : (one n m x).getD i zInst = zInst := by
  simp [one, List.getD, hi, Ne.symm h]
theorem good_z (n : Int) : good zInst n = true := by simp [good, zInst]
theorem places_rep (n : Nat) : places (List.replicate n zInst) = [] := by
  unfold places
  have : (List.replicate n zInst).filter jumps = [] := by
    rw [List.filter_eq_nil_iff]
    intro x hx
    rw [(List.mem_replicate.1 hx).2]
    simp [jumps, zInst]
  rw [this]
  rfl
theorem places_one {n m : Nat} {x : Inst} (h : m < n) (hj : jumps x = true) : places (one n m x) = [x.2.1] := by
  unfold one
  rw [List.set_eq_take_append_cons_drop, if_pos (by simpa using h)]
  rw [List.take_replicate, List.drop_replicate]
  have e : ∀ a b c : List Inst, places (a ++ b ++ c) = places a ++ places b ++ places c := by intro a b c; simp [places]
  have := e (List.replicate (min m n) zInst) [x] (List.replicate (n - (m + 1)) zInst)
  rw [places_rep, places_rep] at this
  simp only [List.append_assoc, List.singleton_append, List.nil_append, List.append_nil] at this
  rw [this]
  simp [places, hj]
theorem bad_one {n m : Nat} {x : Inst} (h : m < n) (hn : n ≤ 40) (hg : good x n = false) : bad (one n m x) = m := by
  refine bad_at (by rw [one_length]; exact h) (by omega) (fun i hi => ?_) ?_
  · rw [one_off x (by omega) (by omega)]
    exact good_z _
  · rw [one_at x h, one_length]
    exact hg
theorem fine_one {n m : Nat} {x : Inst} (h : m < n) (hn : n ≤ 40) (hg : good x n = true) : bad (one n m x) = -1 := by
  refine bad_none (by rw [one_length]; exact hn) (fun i hi => ?_)
  rw [one_length] at hi ⊢
  by_cases e : i = m
  · subst e
    rw [one_at x h]
    exact hg
  · rw [one_off x e hi]
    exact good_z _
theorem targets_one {n m : Nat} {x : Inst} (h : m < n) (hn : n ≤ 40) (hg : good x n = true) (hj : jumps x = true) : targets (one n m x) = [x.2.1] := by
  unfold targets
  rw [if_pos (by rw [fine_one h hn hg]; omega), places_one h hj]
  apply rising_eq
  · exact compact_rising (sorted_merge _)
  · simp
  · intro y
    rw [compact_mem, (List.mergeSort_perm _ _).mem_iff]
theorem targets_bad {n m : Nat} {x : Inst} (h : m < n) (hn : n ≤ 40) (hg : good x n = false) : targets (one n m x) = [] := by
  unfold targets
  rw [if_neg (by rw [bad_one h hn hg]; omega)]
theorem bad_many (n : Nat) (h : 40 < n) : bad (List.replicate n zInst) = 40 := by
  refine bad_great (by simpa using h) (fun i hi => ?_)
  rw [getD_replicate (by omega)]
  exact good_z _
/-- A jump or an if that goes to t. -/
theorem good_to {o t : Int} {n : Nat} (ho : o = 19 ∨ o = 20) : good (o, t, ⟨#[]⟩) n = (decide (0 ≤ t) && decide (t ≤ n)) := by
  unfold good
  rw [if_neg (by simp only; omega), if_neg (by simp only; omega), if_pos ho]
  simp
theorem jumps_to {o t : Int} (ho : o = 19 ∨ o = 20) : jumps (o, t, ⟨#[]⟩) = true := by
  unfold jumps
  rcases ho with rfl | rfl <;> rfl
set_option maxHeartbeats 400000 in
theorem low_any (x n : Int) (w : World) (h1 : 1 ≤ n) (h2 : n ≤ 4611686018427387904) :
    Calls Try.prog 17 #[.int .i64 x, .int .i64 n] w fun e w' => e = .returned (.int .i64 (low x n)) ∧ w = w' := by
  go_enter Try.func17, Try.ntmps17
  go_wp2
  go_ret
  exact ⟨by rw [low_eq x n h1 h2]; rfl, rfl⟩
end Go.Proofs.Ytkkgclocamekcaa
