/- Runs of s pairs, each in order. No program in this text. -/
import Derived.Test.YtafbofcenbfkeaaSMerge
namespace Go.Proofs.Ytafbofcenbfkeaa
set_option linter.unusedVariables false

/-- l, each s pairs of it in order; k is how often it is gone on at most. -/
def runsN (s : Nat) : Nat → List KV → List KV
  | 0, l => srt l
  | k + 1, l => if 0 < s ∧ s < l.length then srt (l.take s) ++ runsN s k (l.drop s) else srt l
/-- l, each s pairs of it in order. -/
def runs (s : Nat) (l : List KV) : List KV := runsN s l.length l
theorem runsN_le {s : Nat} {l : List KV} (h : l.length ≤ s) : ∀ k, runsN s k l = srt l
  | 0 => rfl
  | k + 1 => by unfold runsN; rw [if_neg (by omega)]
theorem runsN_eq {s : Nat} : ∀ (k j : Nat) (l : List KV), l.length ≤ k → l.length ≤ j → runsN s k l = runsN s j l
  | 0, j, l, hk, _ => by rw [runsN_le (by omega), runsN_le (by omega)]
  | k + 1, 0, l, _, hj => by rw [runsN_le (by omega), runsN_le (by omega)]
  | k + 1, j + 1, l, hk, hj => by
    unfold runsN
    by_cases h : 0 < s ∧ s < l.length
    · rw [if_pos h, if_pos h, runsN_eq k j (l.drop s) (by rw [List.length_drop]; omega) (by rw [List.length_drop]; omega)]
    · rw [if_neg h, if_neg h]
theorem runs_le {s : Nat} {l : List KV} (h : l.length ≤ s) : runs s l = srt l := runsN_le h _
theorem runs_cons {s : Nat} (hs : 0 < s) {x y : List KV} (hx : x.length = s) : runs s (x ++ y) = srt x ++ runs s y := by
  by_cases hy : y.length = 0
  · obtain rfl := List.eq_nil_of_length_eq_zero hy
    rw [List.append_nil, runs_le (by omega), runs_le (by simp)]
    simp [srt]
  · have hl : (x ++ y).length = (x.length + y.length - 1) + 1 := by rw [List.length_append]; omega
    show runsN s (x ++ y).length (x ++ y) = _
    rw [hl]
    show (if 0 < s ∧ s < (x ++ y).length then _ else _) = _
    rw [if_pos (by rw [List.length_append]; omega), List.take_left' hx, List.drop_left' hx, runsN_eq _ y.length y (by omega) (Nat.le_refl _)]
    rfl
theorem length_runs {s : Nat} (hs : 0 < s) : ∀ (k : Nat) (l : List KV), l.length ≤ k → (runs s l).length = l.length
  | 0, l, h => by rw [runs_le (by omega), length_srt]
  | k + 1, l, h => by
    by_cases hl : l.length ≤ s
    · rw [runs_le hl, length_srt]
    · rw [← List.take_append_drop s l, runs_cons hs (by rw [List.length_take]; omega), List.length_append, length_srt, length_runs hs k _ (by rw [List.length_drop]; omega), List.length_append]
theorem split_at {l : List KV} {s : Nat} (h : s ≤ l.length) : ∃ x y, l = x ++ y ∧ x.length = s := ⟨l.take s, l.drop s, (List.take_append_drop _ _).symm, by rw [List.length_take]; omega⟩
end Go.Proofs.Ytafbofcenbfkeaa
