/- Runs of s pairs, each in order. No program in this text. -/
import Derived.Test.YtikghppoiokeeaaSMerge
namespace Go.Proofs.Ytikghppoiokeeaa
set_option linter.unusedVariables false

/-- l, each s pairs of it in order. -/
def runs (s : Nat) (l : List KV) : List KV := if 0 < s ∧ s < l.length then srt (l.take s) ++ runs s (l.drop s) else srt l
termination_by l.length
decreasing_by rw [List.length_drop]; omega
theorem runs_le {s : Nat} {l : List KV} (h : l.length ≤ s) : runs s l = srt l := by
  rw [runs, if_neg (by omega)]
theorem runs_cons {s : Nat} (hs : 0 < s) {x y : List KV} (hx : x.length = s) : runs s (x ++ y) = srt x ++ runs s y := by
  by_cases hy : y.length = 0
  · obtain rfl := List.eq_nil_of_length_eq_zero hy
    rw [List.append_nil, runs_le (by omega), runs_le (by simp)]
    simp [srt]
  · rw [runs, if_pos (by rw [List.length_append]; omega), List.take_left' hx, List.drop_left' hx]
theorem length_runs {s : Nat} (hs : 0 < s) : ∀ (k : Nat) (l : List KV), l.length ≤ k → (runs s l).length = l.length
  | 0, l, h => by rw [runs_le (by omega), length_srt]
  | k + 1, l, h => by
    by_cases hl : l.length ≤ s
    · rw [runs_le hl, length_srt]
    · rw [← List.take_append_drop s l, runs_cons hs (by rw [List.length_take]; omega), List.length_append, length_srt, length_runs hs k _ (by rw [List.length_drop]; omega), List.length_append]
theorem split_at {l : List KV} {s : Nat} (h : s ≤ l.length) : ∃ x y, l = x ++ y ∧ x.length = s := ⟨l.take s, l.drop s, (List.take_append_drop _ _).symm, by rw [List.length_take]; omega⟩
end Go.Proofs.Ytikghppoiokeeaa
