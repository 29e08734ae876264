/- ValueBack's walk: the five readings, each by Number's contract. -/
import Derived.Test.YtenihkjghbmfjaaDoorVAwake
namespace Go.Proofs.YtenihkjghbmfjaaDoor
open Go.RowKit Go.Lib
set_option linter.unusedVariables false

set_option maxRecDepth 100000 in
theorem minus_calls (n : Int) (h : I64 n) (w : World) :
    Calls Tryd.prog 20 #[.int .i64 n] w fun e w' => e = .returned (.int .i64 (if 0 < n then -n else 0)) ∧ w' = w := by
  obtain ⟨h0, h1⟩ := h
  by_cases hp : 0 < n
  · rw [if_pos hp]
    have hw : wrap64 (-n) = -n := by unfold wrap64; omega
    go_enter Tryd.func20, Tryd.ntmps20
    go_wp2
    go_ret
    exact ⟨rfl, rfl⟩
  · rw [if_neg hp]
    go_enter Tryd.func20, Tryd.ntmps20
    go_wp2
    go_ret
    exact ⟨rfl, rfl⟩

theorem tx_size {n : Int} (h : I64 n) : (tx (itoa n)).size ≤ 20 := by
  have := itoa_len h
  show (itoa n).toArray.size ≤ 20
  rw [List.size_toArray]
  exact this

theorem app_data (a b : ByteArray) : (a ++ b).data.toList = a.data.toList ++ b.data.toList := by
  rw [ByteArray.data_append, Array.toList_append]

theorem app_size (a b : ByteArray) : (a ++ b).size = a.size + b.size := ByteArray.size_append ..

set_option maxRecDepth 100000 in
theorem valueBack_walk (w : World) (T : Tabs w) (n : Int) (wf : (Lit.int .i64 n).wf = true) :
    Calls Tryd.prog 5 #[.int .i64 n] w fun e w' => e = .returned (.bool true) ∧ Below w.heap.size w w' := by
  have h : I64 n := by
    have e1 : IntKind.i64.min = -9223372036854775808 := rfl
    have e2 : IntKind.i64.max = 9223372036854775807 := rfl
    simp [Lit.wf, e1, e2] at wf
    exact ⟨by omega, by omega⟩
  have hz := tx_size h
  obtain ⟨l, hl⟩ : ∃ l, itoa n = l := ⟨_, rfl⟩
  have v0 : Hid (vNum (tx l).data.toList = n) := by rw [← hl]; exact vNum_itoa h
  have v1 : Hid (vNum (48 :: l) = 0) := vNum_nought _
  have v2 : Hid (vNum (43 :: l) = 0) := vNum_plus _
  have v3 : Hid (vNum (l ++ [32]) = 0) := vNum_blank _
  have v4 : Hid (vNum (45 :: l) = if 0 < n then -n else 0) := by rw [← hl]; exact vNum_minus h
  have H := hid h
  have HL := hid hl
  rw [hl] at hz
  have ll : l.length = (tx l).size := List.size_toArray.symm
  have n1 : ¬ 9223372036854775807 < 1 + l.length := by omega
  have n2 : ¬ 9223372036854775807 < l.length + 1 := by omega
  have s1 : ∀ c : UInt8, Hid ((⟨#[c]⟩ ++ tx l : ByteArray).size ≤ 9223372036854775807) := fun c => by rw [app_size]; show 1 + (tx l).size ≤ _; omega
  have s2 : Hid ((tx l ++ ⟨#[32]⟩ : ByteArray).size ≤ 9223372036854775807) := by rw [app_size]; show (tx l).size + 1 ≤ _; omega
  have HZ := hid hz
  clear hl h hz ll
  go_enter Tryd.func5, Tryd.ntmps5
  go_wp2_with fail
  refine (digits_calls n H _ T).mono ?_
  rintro e w1 ⟨rfl, hb1⟩
  rw [show itoa n = l from HL]
  have T1 := T.on hb1
  go_wp2_with fail
  refine (number_calls (tx l) (Nat.le_trans HZ (by decide)) _ T1).mono ?_
  rintro e w2 ⟨rfl, hb2⟩
  rw [show vNum (tx l).data.toList = n from v0]
  have T2 := T1.on hb2
  go_wp2_with fail
  refine (number_calls (ByteArray.mk #[48] ++ tx l) (s1 48) _ T2).mono ?_
  rintro e w3 ⟨rfl, hb3⟩
  rw [show vNum (ByteArray.mk #[48] ++ tx l).data.toList = 0 by rw [app_data]; exact v1]
  have T3 := T2.on hb3
  go_wp2_with fail
  refine (number_calls (ByteArray.mk #[43] ++ tx l) (s1 43) _ T3).mono ?_
  rintro e w4 ⟨rfl, hb4⟩
  rw [show vNum (ByteArray.mk #[43] ++ tx l).data.toList = 0 by rw [app_data]; exact v2]
  have T4 := T3.on hb4
  go_wp2_with fail
  refine (number_calls (tx l ++ ByteArray.mk #[32]) s2 _ T4).mono ?_
  rintro e w5 ⟨rfl, hb5⟩
  rw [show vNum (tx l ++ ⟨#[32]⟩ : ByteArray).data.toList = 0 by rw [app_data]; exact v3]
  have T5 := T4.on hb5
  go_wp2_with fail
  refine (number_calls (ByteArray.mk #[45] ++ tx l) (s1 45) _ T5).mono ?_
  rintro e w6 ⟨rfl, hb6⟩
  rw [show vNum (ByteArray.mk #[45] ++ tx l).data.toList = (if 0 < n then -n else 0) by rw [app_data]; exact v4]
  have T6 := T5.on hb6
  obtain ⟨m, hm⟩ : ∃ m : Int, (if 0 < n then -n else 0) = m := ⟨_, rfl⟩
  have HM := hid hm
  rw [hm]
  clear hm
  go_wp2_with fail
  refine (minus_calls n H _).mono ?_
  rintro e w7 ⟨rfl, rfl⟩
  rw [show (if 0 < n then -n else 0) = m from HM]
  go_wp2_with fail
  refine (awake_calls _ T6).mono ?_
  rintro e w8 ⟨rfl, hb8⟩
  go_wp2
  go_ret
  exact ⟨rfl, below_next (below_next (below_next (below_next (below_next (below_next hb1 hb2) hb3) hb4) hb5) hb6) hb8⟩

end Go.Proofs.YtenihkjghbmfjaaDoor
