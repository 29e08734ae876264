/- Letters on their way, over lists: sent while there is room, taken from a place, doubled. No program in this text. -/
namespace Go.Proofs.Ytocedfagfmkgdaa
set_option linter.unusedVariables false

section
variable {α : Type}
/-- Those that there is room for, behind all others. -/
def sendN (l ls : List α) : List α := l ++ ls.take (128 - l.length)
/-- How many are lost. -/
def lostN (l ls : List α) : Nat := ls.length - (128 - l.length)
theorem sendN_length (l ls : List α) : (sendN l ls).length = l.length + min (128 - l.length) ls.length := by unfold sendN; rw [List.length_append, List.length_take]
theorem sendN_nil (l : List α) : sendN l [] = l ∧ lostN l ([] : List α) = 0 := by simp [sendN, lostN]
theorem sendN_le {l : List α} (ls : List α) (h : l.length ≤ 128) : (sendN l ls).length ≤ 128 := by rw [sendN_length]; omega
theorem takeN_len {ls : List α} {k : Nat} (h : k ≤ ls.length) : (ls.take k).length = k := by rw [List.length_take]; omega
/-- There is room for one more. -/
theorem sendN_yes {l ls : List α} {k : Nat} {x : α} (hx : ls[k]? = some x) (h : (sendN l (ls.take k)).length < 128) : sendN l (ls.take (k + 1)) = sendN l (ls.take k) ++ [x] ∧ lostN l (ls.take (k + 1)) = lostN l (ls.take k) := by
  obtain ⟨hk, rfl⟩ := List.getElem?_eq_some_iff.1 hx
  rw [sendN_length, takeN_len (by omega)] at h
  have hr : k < 128 - l.length := by omega
  constructor
  · unfold sendN
    rw [List.take_take, List.take_take, Nat.min_eq_right (by omega), Nat.min_eq_right (by omega), List.take_succ_eq_append_getElem hk, List.append_assoc]
  · unfold lostN
    rw [takeN_len (by omega), takeN_len (by omega)]
    omega
/-- There is none. -/
theorem sendN_no {l ls : List α} {k : Nat} (hk : k < ls.length) (h : 128 ≤ (sendN l (ls.take k)).length) (hl : l.length ≤ 128) : sendN l (ls.take (k + 1)) = sendN l (ls.take k) ∧ lostN l (ls.take (k + 1)) = lostN l (ls.take k) + 1 := by
  rw [sendN_length, takeN_len (by omega)] at h
  have hr : 128 - l.length ≤ k := by omega
  constructor
  · unfold sendN
    rw [List.take_take, List.take_take, Nat.min_eq_left (by omega), Nat.min_eq_left (by omega)]
  · unfold lostN
    rw [takeN_len (by omega), takeN_len (by omega)]
    omega
theorem sendN_all (l ls : List α) : sendN l (ls.take ls.length) = sendN l ls ∧ lostN l (ls.take ls.length) = lostN l ls := by rw [List.take_length]; exact ⟨rfl, rfl⟩
/-- Without the one at a place. -/
def outN (l : List α) (i : Nat) : List α := l.take i ++ l.drop (i + 1)
theorem outN_length {l : List α} {i : Nat} (h : i < l.length) : (outN l i).length + 1 = l.length := by
  unfold outN
  rw [List.length_append, List.length_take, List.length_drop]
  omega
/-- A place of these. -/
def placeN (l : List α) (i : Int) : Bool := decide (0 ≤ i) && decide (i < (l.length : Int))
theorem placeN_yes {l : List α} {i : Int} (h : placeN l i = true) : ∃ k : Nat, i = k ∧ k < l.length := by
  unfold placeN at h
  rw [Bool.and_eq_true, decide_eq_true_eq, decide_eq_true_eq] at h
  obtain ⟨k, rfl⟩ := Int.eq_ofNat_of_zero_le h.1
  exact ⟨k, rfl, by omega⟩
theorem placeN_no {l : List α} {i : Int} (h : placeN l i = false) : i < 0 ∨ (l.length : Int) ≤ i := by
  unfold placeN at h
  rcases Int.lt_or_le i 0 with h0 | h0
  · exact .inl h0
  · rw [decide_eq_true h0, Bool.true_and, decide_eq_false_iff_not] at h
    exact .inr (by omega)
end
end Go.Proofs.Ytocedfagfmkgdaa
