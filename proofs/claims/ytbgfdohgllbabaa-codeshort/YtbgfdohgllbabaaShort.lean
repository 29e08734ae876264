/- The walk of CodeShort. -/
import Derived.Test.YtbgfdohgllbabaaRead
namespace Go.Proofs.Ytbgfdohgllbabaa
open Go.RowKit
set_option linter.unusedVariables false

theorem short_cut (l : List Int) (n k : Nat) (h : n ≤ 100) (hl : l.length = n) (hk : k < n + 8) : (rdText ((be8 n ++ l).take k) 0).2.2 = false := by
  unfold rdText
  rw [if_pos]
  unfold noText noNum
  have h8 := be8_length n
  have hl2 : ((be8 n ++ l).take k).length = k := by rw [List.length_take, List.length_append]; omega
  rw [hl2]
  by_cases hk8 : k < 8
  · left; omega
  · right; right
    have e : numAt ((be8 n ++ l).take k) 0 = n := by
      unfold numAt
      rw [Int.toNat_zero, List.drop_zero, List.take_take, Nat.min_eq_left (by omega), List.take_append_of_le_length (by omega), be8_take8, num8_be8 _ (by omega)]
    rw [e]; omega
theorem short_neg (n : Int) (h : n < 0) (h2 : -9223372036854775808 ≤ n) : (rdText ([] ++ be8 n) 0).2.2 = false := by
  unfold rdText
  rw [if_pos]
  unfold noText
  right; left
  unfold numAt
  rw [List.nil_append, Int.toNat_zero, List.drop_zero, be8_take8, num8_be8 _ (by omega)]
  exact h
theorem short_at (l : List Int) (i : Int) (h : (l.length : Int) - 8 < i) : (rdText l i).2.2 = false := by
  unfold rdText
  rw [if_pos]
  unfold noText noNum
  omega
theorem short_below (l : List Int) (i : Int) (h : i < 0) : (rdNum l i).2.2 = false := by
  unfold rdNum
  rw [if_pos]
  unfold noNum
  omega

set_option maxHeartbeats 400000 in
theorem short_any (s : ByteArray) (cut n : Int) (w : World) (hs : s.size ≤ maxLen) :
    Calls Try.prog 6 #[.string s, .int .i64 cut, .int .i64 n] w fun e w' => e = .returned (.bool true) ∧ Below w.heap.size w w' := by
  unfold maxLen at hs
  by_cases h100 : 100 < s.size
  · go_enter Try.func6, Try.ntmps6
    go_wp2_with (go_at_call 8; refine (awake_any _).mono ?_; rintro e w3 ⟨rfl, hb3⟩)
    go_ret
    exact ⟨rfl, hb3⟩
  · go_enter Try.func6, Try.ntmps6
    go_wp2_with fail
    refine (text_own _ s [] w (Bs.nil w) (by simp; omega)).mono ?_
    rintro e w1 ⟨rfl, ho1, hb1⟩
    have hsz : s.size ≤ 100 := by omega
    have H1 : Hid (Bs w1 (.slice (some ⟨w.heap.size, 0, none⟩) (8 + s.size) (8 + s.size)) (be8 s.size ++ nums s)) := by
      have h := Bs.own ho1
      simp only [List.length_nil, Nat.zero_add, List.nil_append] at h
      exact h
    clear ho1
    simp only [List.length_nil, Nat.zero_add]
    go_wp2_with fail
    refine (low_any cut (8 + (s.size : Int)) w1 (by omega) (by omega)).mono ?_
    rintro e w2 ⟨rfl, rfl⟩
    have hlo := low_bd cut (8 + (s.size : Int)) (by omega)
    obtain ⟨k, hk⟩ := Int.eq_ofNat_of_zero_le hlo.1
    rw [hk] at hlo ⊢
    clear hk
    have hk8 : k < 8 + s.size := by omega
    clear hlo
    go_wp2_with fail
    refine (readtext_all _ ((be8 s.size ++ nums s).take k) 0 w1 (H1.out.take k (by omega)) ((Byt.append (Byt.be8 _) (Byt.nums s)).take k)).mono ?_
    rintro e w2 ⟨rfl, rfl⟩
    rw [short_cut (nums s) s.size k hsz (nums_length s) (by omega)]
    generalize (rdText ((be8 s.size ++ nums s).take k) 0).1 = q1
    generalize (rdText ((be8 s.size ++ nums s).take k) 0).2.1 = q2
    go_wp2_with fail
    refine (low_any n 1099511627776 w1 (by omega) (by omega)).mono ?_
    rintro e w2 ⟨rfl, rfl⟩
    have hlo := low_bd n 1099511627776 (by omega)
    generalize low n 1099511627776 = m at *
    go_wp2_with fail
    refine (num_any _ (-1 - m) [] w1 (Bs.nil w1) (by decide)).mono ?_
    rintro e w2 ⟨rfl, ho2, hb2⟩
    have H2 : Hid (Bs w2 (.slice (some ⟨w1.heap.size, 0, none⟩) 8 8) ([] ++ be8 (-1 - m))) := Bs.own ho2
    have H1' : Hid (Bs w2 (.slice (some ⟨w.heap.size, 0, none⟩) (8 + s.size) (8 + s.size)) (be8 s.size ++ nums s)) := H1.out.below hb2
    have hb12 := hb1.trans (hb2.mono hb1.size)
    clear ho2 H1 hb1 hb2
    go_wp2_with fail
    refine (readtext_all _ ([] ++ be8 (-1 - m)) 0 w2 H2.out (Byt.append Byt.nil (Byt.be8 _))).mono ?_
    rintro e w3 ⟨rfl, rfl⟩
    rw [short_neg (-1 - m) (by omega) (by omega)]
    generalize (rdText ([] ++ be8 (-1 - m)) 0).1 = q3
    generalize (rdText ([] ++ be8 (-1 - m)) 0).2.1 = q4
    clear hlo H2
    go_wp2_with fail
    refine (low_any n 20 w2 (by omega) (by omega)).mono ?_
    rintro e w3 ⟨rfl, rfl⟩
    have hlo := low_bd n 20 (by omega)
    generalize hm2 : low n 20 = m2 at *
    have HM : Hid (low n 20 = m2) := hm2
    clear hm2
    go_wp2_with fail
    refine (readtext_all _ (be8 s.size ++ nums s) (8 + (s.size : Int) - 7 + m2) w2 H1'.out (Byt.append (Byt.be8 _) (Byt.nums s))).mono ?_
    rintro e w3 ⟨rfl, rfl⟩
    rw [short_at (be8 s.size ++ nums s) (8 + (s.size : Int) - 7 + m2) (by rw [List.length_append, be8_length, nums_length]; omega)]
    generalize (rdText (be8 s.size ++ nums s) (8 + (s.size : Int) - 7 + m2)).1 = q5
    generalize (rdText (be8 s.size ++ nums s) (8 + (s.size : Int) - 7 + m2)).2.1 = q6
    go_wp2_with fail
    refine (low_any n 20 w2 (by omega) (by omega)).mono ?_
    rintro e w3 ⟨rfl, rfl⟩
    rw [HM.out]
    go_wp2_with fail
    refine (readnum_any _ (be8 s.size ++ nums s) (-1 - m2) w2 H1'.out (Byt.append (Byt.be8 _) (Byt.nums s))).mono ?_
    rintro e w3 ⟨rfl, rfl⟩
    rw [short_below (be8 s.size ++ nums s) (-1 - m2) (by omega)]
    generalize (rdNum (be8 s.size ++ nums s) (-1 - m2)).1 = q7
    generalize (rdNum (be8 s.size ++ nums s) (-1 - m2)).2.1 = q8
    go_wp2_with (go_at_call 8; refine (awake_any _).mono ?_; rintro e w3 ⟨rfl, hb3⟩)
    go_ret
    exact ⟨rfl, hb12.trans (hb3.mono hb12.size)⟩

theorem codeShort_walk (s : ByteArray) (hs : s.size ≤ maxLen) (cut : Int) (w1 : (Lit.int .i64 cut).wf = true) (n : Int) (w2 : (Lit.int .i64 n).wf = true) (w : World) :
    Calls Try.prog 6 #[.string s, .int .i64 cut, .int .i64 n] w fun e w' => e = .returned (.bool true) ∧ Below w.heap.size w w' := short_any s cut n w hs
end Go.Proofs.Ytbgfdohgllbabaa
