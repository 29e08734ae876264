/- Marks and sets, as lists of numbers: which are reached, which is due, which list has another. No program in this text. -/
namespace Go.Proofs.Ytpnjjiibcllgiaa
set_option linter.unusedVariables false
/-- Is n one of the marks? -/
def dueL (l : List Int) (n : Int) : Bool := l.any (fun m => decide (m = n))
/-- How many of them are not above n. -/
def reachedL (l : List Int) (n : Int) : Nat := (l.filter (fun m => decide (m ≤ n))).length
/-- Is each of a one of b? -/
def growsL (a b : List Int) : Bool := a.all (fun x => dueL b x)
theorem dueL_iff (l : List Int) (n : Int) : dueL l n = true ↔ n ∈ l := by
  unfold dueL
  rw [List.any_eq_true]
  constructor
  · rintro ⟨m, hm, e⟩
    rw [← of_decide_eq_true e]
    exact hm
  · exact fun h => ⟨n, h, by simp⟩
theorem growsL_iff (a b : List Int) : growsL a b = true ↔ ∀ x ∈ a, x ∈ b := by
  unfold growsL
  rw [List.all_eq_true]
  exact ⟨fun h x hx => (dueL_iff b x).1 (h x hx), fun h x hx => (dueL_iff b x).2 (h x hx)⟩
/-- Round by round: none of the first k was it; the k-th is, or is not. -/
theorem dueL_step {l : List Int} {n : Int} {k : Nat} {x : Int} (h : l[k]? = some x) (hk : dueL (l.take k) n = false) (hx : x ≠ n) : dueL (l.take (k + 1)) n = false := by
  obtain ⟨hlt, e⟩ := List.getElem?_eq_some_iff.1 h
  unfold dueL at hk ⊢
  rw [List.take_succ_eq_append_getElem hlt, List.any_append, hk, e]
  simp [hx]
theorem dueL_hit {l : List Int} {n : Int} {k : Nat} (h : l[k]? = some n) : dueL l n = true := (dueL_iff l n).2 (List.mem_of_getElem? h)
theorem reachedL_step {l : List Int} {n : Int} {k : Nat} {x : Int} (h : l[k]? = some x) : reachedL (l.take (k + 1)) n = reachedL (l.take k) n + (if x ≤ n then 1 else 0) := by
  obtain ⟨hlt, e⟩ := List.getElem?_eq_some_iff.1 h
  unfold reachedL
  rw [List.take_succ_eq_append_getElem hlt, List.filter_append, List.length_append, e]
  congr 1
  by_cases hx : x ≤ n
  · simp [hx]
  · simp [hx]
theorem reachedL_le (l : List Int) (n : Int) : reachedL l n ≤ l.length := List.length_filter_le _ _
theorem growsL_step {a b : List Int} {k : Nat} {x : Int} (h : a[k]? = some x) (hk : growsL (a.take k) b = true) (hx : dueL b x = true) : growsL (a.take (k + 1)) b = true := by
  obtain ⟨hlt, e⟩ := List.getElem?_eq_some_iff.1 h
  unfold growsL at hk ⊢
  rw [List.take_succ_eq_append_getElem hlt, List.all_append, hk, e]
  simp [hx]
theorem growsL_miss {a b : List Int} {k : Nat} {x : Int} (h : a[k]? = some x) (hx : dueL b x = false) : growsL a b = false := by
  cases hg : growsL a b with
  | false => rfl
  | true =>
    have := (dueL_iff b x).2 ((growsL_iff a b).1 hg x (List.mem_of_getElem? h))
    rw [hx] at this
    cases this
/-- Marks of which none stands twice: one more reaches one more just if it is due. -/
theorem reached_rises : ∀ {l : List Int}, l.Pairwise (· ≠ ·) → ∀ (n : Int), reachedL l (n + 1) = reachedL l n + (if dueL l (n + 1) = true then 1 else 0)
  | [], _, n => rfl
  | m :: l, h, n => by
    obtain ⟨h1, h2⟩ := List.pairwise_cons.1 h
    have ih := reached_rises h2 n
    have hd : dueL (m :: l) (n + 1) = (decide (m = n + 1) || dueL l (n + 1)) := rfl
    unfold reachedL at ih ⊢
    rw [List.filter_cons, List.filter_cons, hd]
    by_cases e : m = n + 1
    · have hno : dueL l (n + 1) = false := by
        cases hb : dueL l (n + 1) with
        | false => rfl
        | true => exact absurd e (h1 _ ((dueL_iff l (n + 1)).1 hb))
      rw [hno] at ih
      rw [if_pos (by simp; omega), if_neg (by simp; omega), List.length_cons, ih, hno]
      simp [e]
    · by_cases hle : m ≤ n
      · rw [if_pos (by simp; omega), if_pos (by simpa using hle), List.length_cons, List.length_cons, ih]
        simp only [e, decide_false, Bool.false_or]
        omega
      · rw [if_neg (by simp; omega), if_neg (by simpa using hle), ih]
        simp only [e, decide_false, Bool.false_or]
theorem grows_self (a : List Int) : growsL a a = true := (growsL_iff a a).2 (fun _ h => h)
theorem grows_nil (a : List Int) : growsL [] a = true := rfl
theorem grows_left (a b : List Int) : growsL a (a ++ b) = true := (growsL_iff _ _).2 (fun _ h => List.mem_append_left _ h)
theorem grows_right (a b : List Int) : growsL b (a ++ b) = true := (growsL_iff _ _).2 (fun _ h => List.mem_append_right _ h)
theorem grows_trans {a b c : List Int} (h : growsL a b = true) (k : growsL b c = true) : growsL a c = true :=
  (growsL_iff _ _).2 (fun x hx => (growsL_iff _ _).1 k x ((growsL_iff _ _).1 h x hx))
end Go.Proofs.Ytpnjjiibcllgiaa
