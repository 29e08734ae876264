/- The plain mathematics of what was laid and is read again. -/
import Derived.Test.YtbgfdohgllbabaaGreat
namespace Go.Proofs.Ytbgfdohgllbabaa
open Go.RowKit
set_option linter.unusedVariables false

/-- Numbers, one behind the other. -/
def NB (ns : List Int) : List Int := ns.flatMap be8
/-- Texts, one behind the other. -/
def TB (ts : List ByteArray) : List Int := ts.flatMap fun s => be8 s.size ++ nums s

theorem NB_length (ns : List Int) : (NB ns).length = 8 * ns.length := by
  induction ns with
  | nil => rfl
  | cons n t ih => unfold NB at *; rw [List.flatMap_cons, List.length_append, be8_length, ih, List.length_cons]; omega
theorem NB_snoc (ns : List Int) (k : Nat) (h : k < ns.length) : NB (ns.take (k + 1)) = NB (ns.take k) ++ be8 (ns.getD k 0) := by
  unfold NB
  rw [List.take_succ_eq_append_getElem h, List.flatMap_append]
  simp [List.getD, List.getElem?_eq_getElem h]
theorem TB_snoc (ts : List ByteArray) (k : Nat) (h : k < ts.length) : TB (ts.take (k + 1)) = TB (ts.take k) ++ be8 (ts.getD k ByteArray.empty).size ++ nums (ts.getD k ByteArray.empty) := by
  unfold TB
  rw [List.take_succ_eq_append_getElem h, List.flatMap_append]
  simp [List.getD, List.getElem?_eq_getElem h]
theorem NB_split (ns : List Int) (k : Nat) (h : k < ns.length) : NB ns = NB (ns.take k) ++ be8 (ns.getD k 0) ++ NB (ns.drop (k + 1)) := by
  rw [← NB_snoc ns k h]
  unfold NB
  rw [← List.flatMap_append, List.take_append_drop]
theorem TB_split (ts : List ByteArray) (k : Nat) (h : k < ts.length) : TB ts = TB (ts.take k) ++ (be8 (ts.getD k ByteArray.empty).size ++ nums (ts.getD k ByteArray.empty)) ++ TB (ts.drop (k + 1)) := by
  rw [← List.append_assoc, ← TB_snoc ts k h]
  unfold TB
  rw [← List.flatMap_append, List.take_append_drop]
theorem TB_bd : ∀ (ts : List ByteArray), (∀ s ∈ ts, s.size ≤ 100) → (TB ts).length ≤ 108 * ts.length := by
  intro ts
  induction ts with
  | nil => intro _; simp [TB]
  | cons s t ih =>
    intro h
    have h1 := ih (fun x hx => h x (List.mem_cons_of_mem _ hx))
    have h2 := h s (by simp)
    unfold TB at *
    rw [List.flatMap_cons, List.length_append, List.length_append, be8_length, nums_length, List.length_cons]
    omega
theorem Byt.NB (ns : List Int) : Byt (NB ns) := fun x hx => by
  unfold Ytbgfdohgllbabaa.NB at hx
  obtain ⟨n, _, h⟩ := List.mem_flatMap.1 hx
  exact Byt.be8 n x h
theorem Byt.TB (ts : List ByteArray) : Byt (TB ts) := fun x hx => by
  unfold Ytbgfdohgllbabaa.TB at hx
  obtain ⟨n, _, h⟩ := List.mem_flatMap.1 hx
  exact Byt.append (Byt.be8 _) (Byt.nums n) x h

theorem rd_mid (A B : List Int) (n : Int) (h : -9223372036854775808 ≤ n ∧ n ≤ 9223372036854775807) : rdNum (A ++ be8 n ++ B) A.length = (n, (A.length : Int) + 8, true) := by
  have h8 := be8_length n
  unfold rdNum
  rw [if_neg (by unfold noNum; rw [List.length_append, List.length_append, h8]; omega)]
  unfold numAt
  rw [Int.toNat_natCast, List.append_assoc, List.drop_left, List.take_append_of_le_length (by omega), be8_take8, num8_be8 n h]
theorem rdt_mid (A B : List Int) (s : ByteArray) (h : s.size ≤ 100) : rdText (A ++ (be8 s.size ++ nums s) ++ B) A.length = (s, (A.length : Int) + 8 + s.size, true) := by
  have h8 := be8_length s.size
  have hn := nums_length s
  have e : numAt (A ++ (be8 s.size ++ nums s) ++ B) A.length = s.size := by
    unfold numAt
    rw [Int.toNat_natCast, List.append_assoc, List.drop_left, List.append_assoc, List.take_append_of_le_length (by omega), be8_take8, num8_be8 _ (by omega)]
  unfold rdText
  rw [if_neg (by unfold noText noNum; rw [e, List.length_append, List.length_append, List.length_append, h8, hn]; omega), e]
  rw [Int.toNat_natCast, Int.toNat_natCast]
  have d : (A ++ (be8 s.size ++ nums s) ++ B).drop (A.length + 8) = nums s ++ B := by
    rw [← List.drop_drop, List.append_assoc, List.drop_left, List.append_assoc]
    have := List.drop_left (l₁ := be8 s.size) (l₂ := nums s ++ B)
    rwa [h8] at this
  rw [d, ← hn, List.take_left, str_back]
theorem rd_end (X : List Int) : (rdNum X X.length).2.2 = false := by
  unfold rdNum
  rw [if_pos]
  unfold noNum
  omega
end Go.Proofs.Ytbgfdohgllbabaa
