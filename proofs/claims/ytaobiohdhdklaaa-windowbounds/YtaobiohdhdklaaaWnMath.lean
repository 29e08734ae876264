/- A window over chunks, as plain numbers: what is open, what an ack does. No program in this text. -/
namespace Go.Proofs.Ytaobiohdhdklaaa
set_option linter.unusedVariables false

/-- How many chunks, how many may be on their way, the greatest epoch, which is wanted next. -/
structure WinV where
  count : Int
  size : Int
  epoch : Int
  next : Int
/-- Such as New answers, and acks leave. -/
structure WinOk (w : WinV) : Prop where
  c0 : 0 ≤ w.count
  c1 : w.count ≤ 40
  s0 : 1 ≤ w.size
  s1 : w.size ≤ 4
  e0 : 0 ≤ w.epoch
  n0 : 0 ≤ w.next
  n1 : w.next ≤ w.count
def mayW (count size : Int) : Bool := decide (0 ≤ count) && (decide (count ≤ 40) && (decide (1 ≤ size) && decide (size ≤ 4)))
def newW (count size : Int) : WinV := ⟨count, size, 0, 0⟩
theorem newW_ok {count size : Int} (h : mayW count size = true) : WinOk (newW count size) := by
  unfold mayW at h
  simp only [Bool.and_eq_true, decide_eq_true_eq] at h
  obtain ⟨h1, h2, h3, h4⟩ := h
  exact ⟨h1, h2, h3, h4, Int.le_refl _, Int.le_refl _, h1⟩
theorem mayW_no {count size : Int} (h : mayW count size = false) : count < 0 ∨ 40 < count ∨ size < 1 ∨ 4 < size := by
  unfold mayW at h
  simp only [Bool.and_eq_false_iff, decide_eq_false_iff_not] at h
  omega
/-- A place, from 0 to count. -/
def clipW (w : WinV) (n : Int) : Int := min (max n 0) w.count
theorem clipW_bd {w : WinV} (h : WinOk w) (n : Int) : 0 ≤ clipW w n ∧ clipW w n ≤ w.count := by
  have := h.c0
  unfold clipW
  omega
/-- Does an ack turn it? -/
def ackB (w : WinV) (e n : Int) : Bool := decide (1 ≤ e) && (decide (w.epoch < e) || (decide (w.epoch = e) && decide (w.next < clipW w n)))
/-- What it is then. -/
def ackW (w : WinV) (e n : Int) : WinV := if ackB w e n = true then { w with epoch := e, next := clipW w n } else w
theorem ackW_ok {w : WinV} (h : WinOk w) (e n : Int) : WinOk (ackW w e n) := by
  have hc := clipW_bd h n
  unfold ackW
  split
  · rename_i hb
    unfold ackB at hb
    simp only [Bool.and_eq_true, decide_eq_true_eq] at hb
    exact ⟨h.c0, h.c1, h.s0, h.s1, (by show 0 ≤ e; omega), hc.1, hc.2⟩
  · exact h
theorem ackW_count (w : WinV) (e n : Int) : (ackW w e n).count = w.count := by unfold ackW; split <;> rfl
theorem ackW_size (w : WinV) (e n : Int) : (ackW w e n).size = w.size := by unfold ackW; split <;> rfl
/-- Below its own epoch, or below 1. -/
theorem ackB_old {w : WinV} {e n : Int} (h : e < 1 ∨ e < w.epoch) : ackB w e n = false ∧ ackW w e n = w := by
  have hb : ackB w e n = false := by
    unfold ackB
    by_cases h1 : 1 ≤ e
    · have h2 : ¬ w.epoch < e := by omega
      have h3 : ¬ w.epoch = e := by omega
      simp [h2, h3]
    · simp [h1]
  exact ⟨hb, by unfold ackW; rw [hb]; rfl⟩
/-- Of a greater one. -/
theorem ackB_new {w : WinV} {e n : Int} (h : 1 ≤ e) (h2 : w.epoch < e) : ackB w e n = true ∧ ackW w e n = { w with epoch := e, next := clipW w n } := by
  have hb : ackB w e n = true := by unfold ackB; simp [h, h2]
  exact ⟨hb, by unfold ackW; rw [if_pos hb]⟩
/-- Of the same. -/
theorem ackB_same {w : WinV} {e n : Int} (h : 1 ≤ e) (h2 : w.epoch = e) : ackB w e n = decide (w.next < clipW w n) ∧ ackW w e n = (if w.next < clipW w n then { w with next := clipW w n } else w) := by
  have h3 : ¬ w.epoch < e := by omega
  have hb : ackB w e n = decide (w.next < clipW w n) := by unfold ackB; simp [h, h2]
  refine ⟨hb, ?_⟩
  unfold ackW
  rw [hb]
  by_cases hn : w.next < clipW w n
  · rw [if_pos (by simpa using hn), if_pos hn, ← h2]
  · rw [if_neg (by simpa using hn), if_neg hn]
/-- Neither falls: the epoch, and within one what is wanted. -/
theorem ackW_rises {w : WinV} (e n : Int) : w.epoch ≤ (ackW w e n).epoch ∧ ((ackW w e n).epoch = w.epoch → w.next ≤ (ackW w e n).next) := by
  unfold ackW
  split
  · rename_i hb
    unfold ackB at hb
    simp only [Bool.and_eq_true, Bool.or_eq_true, decide_eq_true_eq] at hb
    refine ⟨?_, fun he => ?_⟩
    · show w.epoch ≤ e
      omega
    · have he' : e = w.epoch := he
      show w.next ≤ clipW w n
      omega
  · exact ⟨Int.le_refl _, fun _ => Int.le_refl _⟩
/-- How many are open. -/
def openN (w : WinV) : Nat := (min w.size (w.count - w.next)).toNat
def openW (w : WinV) : List Int := (List.range (openN w)).map (fun (i : Nat) => w.next + (i : Int))
theorem openW_len (w : WinV) : (openW w).length = openN w := by simp [openW]
theorem openN_eq {w : WinV} (h : WinOk w) : ((openN w : Nat) : Int) = min w.size (w.count - w.next) := by
  have := h.n1
  have := h.s0
  unfold openN
  omega
theorem openN_le {w : WinV} (h : WinOk w) : openN w ≤ 4 := by
  have := openN_eq h
  have := h.s1
  omega
theorem openW_at {w : WinV} {i : Nat} (h : i < openN w) : (openW w)[i]? = some (w.next + (i : Int)) := by simp [openW, h]
/-- The first k, and one more. -/
theorem openW_take {w : WinV} {k : Nat} (h : k < openN w) : (openW w).take (k + 1) = (openW w).take k ++ [w.next + (k : Int)] := by
  obtain ⟨hk, e⟩ := List.getElem?_eq_some_iff.1 (openW_at h)
  rw [List.take_succ_eq_append_getElem hk, e]
/-- Is none wanted? -/
def doneW (w : WinV) : Bool := decide (w.count ≤ w.next)
theorem doneW_iff {w : WinV} (h : WinOk w) : doneW w = true ↔ openN w = 0 := by
  have := openN_eq h
  have := h.s0
  have := h.n1
  unfold doneW
  rw [decide_eq_true_eq]
  omega
end Go.Proofs.Ytaobiohdhdklaaa
