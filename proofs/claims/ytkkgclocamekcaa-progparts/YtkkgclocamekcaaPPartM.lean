/- Programs without jumps, one behind the other. -/
import Derived.Test.YtkkgclocamekcaaPAwake
import Derived.Test.YtkkgclocamekcaaAppAny
namespace Go.Proofs.Ytkkgclocamekcaa
open Go.RowKit Go.Lib
set_option linter.unusedVariables false

/-- None of the first j goes anywhere. -/
def Still (l : List Inst) (j : Nat) : Prop := ∀ i, i < j → jumps (l.getD i zInst) = false
theorem still_zero (l : List Inst) : Still l 0 := fun i h => by omega
theorem Still.step {l : List Inst} {j : Nat} (h : Still l j) (hg : jumps (l.getD j zInst) = false) : Still l (j + 1) := fun i hi => by
  rcases Nat.lt_or_ge i j with h1 | h1
  · exact h i h1
  · obtain rfl : i = j := by omega
    exact hg
theorem good_still {x : Inst} (h : jumps x = false) (n m : Int) : good x n = good x m := by
  unfold jumps at h
  have h1 : ¬ (x.1 = 19 ∨ x.1 = 20) := by simpa using h
  unfold good
  rw [if_neg h1, if_neg h1]
theorem getD_left {a b : List Inst} {i : Nat} (h : i < a.length) : (a ++ b).getD i zInst = a.getD i zInst := by
  simp [List.getD, List.getElem?_append_left h]
theorem getD_right {a b : List Inst} {i : Nat} (h : a.length ≤ i) : (a ++ b).getD i zInst = b.getD (i - a.length) zInst := by
  simp [List.getD, List.getElem?_append_right h]

variable {a b : List Inst}
theorem still_left (hS : Still (a ++ b) (a ++ b).length) {i : Nat} (hi : i < a.length) : jumps (a.getD i zInst) = false := by
  have := hS i (by rw [List.length_append]; omega)
  rwa [getD_left hi] at this
theorem still_right (hS : Still (a ++ b) (a ++ b).length) {i : Nat} (hi : i < b.length) : jumps (b.getD i zInst) = false := by
  have := hS (a.length + i) (by rw [List.length_append]; omega)
  rwa [getD_right (by omega), Nat.add_sub_cancel_left] at this
theorem may_both (ha : a.length ≤ 20) (hb : b.length ≤ 20) (hS : Still (a ++ b) (a ++ b).length) : decide (bad (a ++ b) < 0) = (decide (bad a < 0) && decide (bad b < 0)) := by
  rw [Bool.eq_iff_iff]
  simp only [Bool.and_eq_true, decide_eq_true_eq]
  rw [may_iff, may_iff, may_iff]
  constructor
  · rintro ⟨_, hF⟩
    refine ⟨⟨by omega, fun i hi => ?_⟩, by omega, fun i hi => ?_⟩
    · have := hF i (by rw [List.length_append]; omega)
      rw [getD_left hi] at this
      rw [good_still (still_left hS hi) _ ((a ++ b).length : Nat)]
      exact this
    · have := hF (a.length + i) (by rw [List.length_append]; omega)
      rw [getD_right (by omega), Nat.add_sub_cancel_left] at this
      rw [good_still (still_right hS hi) _ ((a ++ b).length : Nat)]
      exact this
  · rintro ⟨⟨_, hA⟩, _, hB⟩
    refine ⟨by rw [List.length_append]; omega, fun i hi => ?_⟩
    rw [List.length_append] at hi
    rcases Nat.lt_or_ge i a.length with h | h
    · rw [getD_left h, good_still (still_left hS h) _ (a.length : Nat)]
      exact hA i h
    · rw [getD_right h, good_still (still_right hS (by omega)) _ (b.length : Nat)]
      exact hB _ (by omega)
theorem bad_first (ha : a.length ≤ 20) (hS : Still (a ++ b) (a ++ b).length) (h : ¬ bad a < 0) : bad (a ++ b) = bad a := by
  rcases bad_cases a with ⟨k, h1, h2, h3, h4, h5⟩ | ⟨h1, h2, _⟩ | ⟨h1, _⟩
  · rw [h1]
    refine bad_at (by rw [List.length_append]; omega) h3 (fun i hi => ?_) ?_
    · rw [getD_left (by omega), good_still (still_left hS (by omega)) _ (a.length : Nat)]
      exact h4 i hi
    · rw [getD_left h2, good_still (still_left hS h2) _ (a.length : Nat)]
      exact h5
  · omega
  · omega
theorem bad_between {c : List Inst} {o : Int} (ha : a.length ≤ 20) (hS : Still (a ++ b) (a ++ b).length) (h : bad a < 0) (ho : o < 0 ∨ 23 < o) : bad (a ++ [(o, 0, ⟨#[]⟩)] ++ c) = a.length := by
  obtain ⟨_, hF⟩ := (may_iff a).1 h
  refine bad_at (by simp) (by omega) (fun i hi => ?_) ?_
  · rw [getD_left (by simp; omega), getD_left hi, good_still (still_left hS hi) _ (a.length : Nat)]
    exact hF i hi
  · rw [getD_left (by simp), getD_right (Nat.le_refl _), Nat.sub_self]
    show good (o, 0, ⟨#[]⟩) _ = false
    unfold good
    simp only
    rw [if_neg (by omega), if_neg (by omega), if_neg (by omega), if_neg (by omega)]
    rcases ho with h | h
    · have : decide (0 ≤ o) = false := by simp; omega
      rw [this]; rfl
    · have : decide (o ≤ 23) = false := by simp; omega
      rw [this]; simp
end Go.Proofs.Ytkkgclocamekcaa
