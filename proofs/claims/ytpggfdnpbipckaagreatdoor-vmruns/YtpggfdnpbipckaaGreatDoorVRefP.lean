/- The reference's own values (chapter 4): bytes at a place, cuts, digits and numbers. -/
import Derived.Test.YtpggfdnpbipckaaGreatDoorProg
import Derived.Test.YtpggfdnpbipckaaGreatDoorVPure
namespace Go.Proofs.YtpggfdnpbipckaaGreatDoor
open Go.RowKit Go.Lib
set_option linter.unusedVariables false
set_option maxRecDepth 100000

set_option maxRecDepth 100000 in
theorem staitheref4_At_calls (s : ByteArray) (i : Int) (hs : s.size ≤ 9223372036854775807) (w : World) :
    Calls Tryz.prog 79 #[.string s, .int .i64 i] w fun e w' => e = .returned (.int .i64 (atOf s i)) ∧ w' = w := by
  by_cases h0 : i < 0
  · have e : atOf s i = -1 := by unfold atOf; rw [if_pos (Or.inl h0)]
    rw [e]
    go_enter Tryz.func79, Tryz.ntmps79
    go_wp2
    go_ret
    exact ⟨rfl, rfl⟩
  by_cases h1 : (s.size : Int) ≤ i
  · have e : atOf s i = -1 := by unfold atOf; rw [if_pos (Or.inr h1)]
    rw [e]
    go_enter Tryz.func79, Tryz.ntmps79
    go_wp2
    go_ret
    exact ⟨rfl, rfl⟩
  have b0 : 0 ≤ i := by omega
  have b1 : i < (s.size : Int) := by omega
  have hb := at_byte s i b0 b1 (by omega)
  go_enter Tryz.func79, Tryz.ntmps79
  go_wp2
  go_ret
  exact ⟨congrArg (fun x => Ending.returned (.int .i64 x)) hb, rfl⟩

set_option maxRecDepth 100000 in
theorem staitheref4_Cut_calls (s : ByteArray) (a b : Int) (hs : s.size ≤ 9223372036854775807) (w : World) :
    Calls Tryz.prog 80 #[.string s, .int .i64 a, .int .i64 b] w fun e w' => e = .returned (.string (tx (cutL s.data.toList a b))) ∧ w' = w := by
  rw [← cut_extract]
  by_cases hc : min (max b 0) (s.size : Int) ≤ min (max a 0) (s.size : Int)
  · have e : s.extract (min (max a 0) (s.size : Int)).toNat (min (max b 0) (s.size : Int)).toNat = ⟨#[]⟩ := by
      rw [cut_extract]
      have el : s.data.toList.length = s.size := Array.length_toList
      unfold cutL clip
      rw [el, show (min (max b 0) (s.size : Int)).toNat - (min (max a 0) (s.size : Int)).toNat = 0 by omega, List.take_zero]
    rw [e]
    go_enter Tryz.func80, Tryz.ntmps80
    go_wp2
    go_ret
    exact ⟨rfl, rfl⟩
  · have hsl : ∀ w, (Instr.slice 9 (.string s) (some (.int .i64 (min (max a 0) (s.size : Int)))) (some (.int .i64 (min (max b 0) (s.size : Int)))) none).run Tryz.prog w = .ok (.string (s.extract (min (max a 0) (s.size : Int)).toNat (min (max b 0) (s.size : Int)).toNat)) w := fun w => by
      rw [run_slice_string_if w 9 s .i64 .i64 _ _ Tryz.underlying9, if_pos (by omega), if_pos (by omega)]
    have hc' : min (max a 0) (s.size : Int) < min (max b 0) (s.size : Int) := by omega
    go_enter Tryz.func80, Tryz.ntmps80
    go_wp2
    go_ret
    exact ⟨rfl, rfl⟩

set_option maxRecDepth 100000 in
theorem staitheref4_Same_calls (t u : Bool) (n m : Int) (x y : ByteArray) (w : World) :
    Calls Tryz.prog 78 #[val t n x, val u m y] w fun e w' => e = .returned (.bool (sameOf t u n m x y)) ∧ Below w.heap.size w w' := by
  have hb : ∀ o1 o2, Below w.heap.size w ((w.alloc o1).alloc o2) := fun o1 o2 => ((Below.refl _ w).alloc (Nat.le_refl _) o1).alloc (by simp) o2
  unfold sameOf
  rw [← ByteArray.toList_eq, ← ByteArray.toList_eq]
  cases t <;> cases u <;>
    (go_enter Tryz.func78, Tryz.ntmps78
     go_wp2
     go_ret
     exact ⟨rfl, hb _ _⟩)

theorem tx_app (a b : List UInt8) : tx a ++ tx b = tx (a ++ b) := by
  apply ByteArray.ext
  rw [ByteArray.data_append]
  simp

/-- The text of the ten digits. -/
abbrev ten : ByteArray := ⟨#[48, 49, 50, 51, 52, 53, 54, 55, 56, 57]⟩

theorem ten_piece : ∀ n : Nat, n < 10 → ten.extract n (n + 1) = tx (decDigits n) := by
  intro n h
  rw [decDigits_one h]
  have : ∀ k : Fin 10, ten.extract k.val (k.val + 1) = tx [UInt8.ofNat (48 + k.val)] := by decide +kernel
  exact this ⟨n, h⟩

set_option maxRecDepth 100000 in
theorem up_calls (n : Nat) : ∀ (w : World), n < 18446744073709551616 →
    Calls Tryz.prog 90 #[.int .u64 (n : Int)] w fun e w' => e = .returned (.string (tx (decDigits n))) ∧ w' = w := by
  induction n using Nat.strongRecOn with
  | _ n ih =>
    intro w h
    by_cases h1 : n < 10
    · have hp := ten_piece n h1
      have hd : decide ((n : Int) < 10) = true := by simp; omega
      have hsl : ∀ w, (Instr.slice 9 (.string ten) (some (.int .u64 (n : Int))) (some (.int .u64 ((n : Int) + 1))) none).run Tryz.prog w = .ok (.string (tx (decDigits n))) w := fun w => by
        rw [run_slice_string_if w 9 ten .u64 .u64 _ _ Tryz.underlying9, if_pos ⟨by omega, by show (n : Int) + 1 ≤ 10; omega⟩, if_pos (by omega)]
        rw [show ((n : Int) + 1).toNat = n + 1 by omega, Int.toNat_natCast, hp]
      go_enter Tryz.func90, Tryz.ntmps90
      go_wp2
      go_ret
      exact ⟨rfl, rfl⟩
    · have i1 : ∀ w, Calls Tryz.prog 90 #[.int .u64 ((n : Int) / 10)] w fun e w' => e = .returned (.string (tx (decDigits (n / 10)))) ∧ w' = w := fun w => by
        have := ih (n / 10) (by omega) w (by omega)
        rwa [show ((n / 10 : Nat) : Int) = (n : Int) / 10 by omega] at this
      have i2 : ∀ w, Calls Tryz.prog 90 #[.int .u64 ((n : Int) % 10)] w fun e w' => e = .returned (.string (tx (decDigits (n % 10)))) ∧ w' = w := fun w => by
        have := ih (n % 10) (by omega) w (by omega)
        rwa [show ((n % 10 : Nat) : Int) = (n : Int) % 10 by omega] at this
      have ed : decDigits n = decDigits (n / 10) ++ decDigits (n % 10) := by
        conv => lhs; rw [decDigits, dif_neg h1]
        rw [decDigits_one (i := n % 10) (by omega)]
      have l1 : (decDigits (n / 10)).length ≤ 20 := by
        rw [decDigits_length]
        exact nDigits_le 19 _ (by have : (10 : Nat) ^ (19 + 1) = 100000000000000000000 := by decide
                                  omega)
      have l2 : (decDigits (n % 10)).length ≤ 20 := by
        rw [decDigits_length]
        exact nDigits_le 19 _ (by have : (10 : Nat) ^ (19 + 1) = 100000000000000000000 := by decide
                                  omega)
      rw [ed]
      generalize decDigits (n / 10) = a at *
      generalize decDigits (n % 10) = b at *
      have hz : ¬ 9223372036854775807 < a.length + b.length := by omega
      have I1 := fun w => hid (i1 w)
      have I2 := fun w => hid (i2 w)
      clear ed l1 l2 ih i1 i2
      go_enter Tryz.func90, Tryz.ntmps90
      go_wp2_with fail
      refine (show Calls _ _ _ _ _ from I1 _).mono ?_
      rintro e w1 ⟨rfl, rfl⟩
      go_wp2_with fail
      refine (show Calls _ _ _ _ _ from I2 _).mono ?_
      rintro e w1 ⟨rfl, rfl⟩
      go_wp2
      go_ret
      exact ⟨congrArg (fun x => Ending.returned (.string x)) (tx_app a b), rfl⟩

set_option maxRecDepth 100000 in
theorem ref_digits_calls (n : Int) (h : I64 n) (w : World) :
    Calls Tryz.prog 81 #[.int .i64 n] w fun e w' => e = .returned (.string (tx (itoa n))) ∧ w' = w := by
  obtain ⟨h0, h1⟩ := h
  by_cases hn : n < 0
  · obtain ⟨u, hu⟩ : ∃ u : Nat, (u : Int) = -n := ⟨(-n).toNat, by omega⟩
    have ei : itoa n = 45 :: decDigits u := by unfold itoa; rw [if_pos hn, show n.natAbs = u by omega]
    have hc := fun w => up_calls u w (by omega)
    have l1 : (decDigits u).length ≤ 20 := by
      rw [decDigits_length]
      exact nDigits_le 19 _ (by have : (10 : Nat) ^ (19 + 1) = 100000000000000000000 := by decide
                                omega)
    rw [ei]
    generalize decDigits u = a at *
    have hz : ¬ 9223372036854775807 < 1 + a.length := by omega
    have C : ∀ w, Hid (Calls Tryz.prog 90 #[.int .u64 (-(n + 1) + 1)] w fun e w' => e = .returned (.string (tx a)) ∧ w' = w) := fun w => by rw [show -(n + 1) + 1 = -n by omega, ← hu]; exact hc w
    clear ei l1 hc hu u
    have hn' : decide (n < 0) = true := by simp; exact hn
    go_enter Tryz.func81, Tryz.ntmps81
    go_wp2_with fail
    refine (show Calls _ _ _ _ _ from C _).mono ?_
    rintro e w1 ⟨rfl, rfl⟩
    go_wp2
    go_ret
    exact ⟨congrArg (fun x => Ending.returned (.string x)) (tx_app [45] a), rfl⟩
  · obtain ⟨u, rfl⟩ : ∃ u : Nat, n = (u : Int) := ⟨n.toNat, by omega⟩
    rw [itoa_nonneg]
    have C := fun w => hid (up_calls u w (by omega))
    go_enter Tryz.func81, Tryz.ntmps81
    go_wp2_with fail
    refine (show Calls _ _ _ _ _ from C _).mono ?_
    rintro e w1 ⟨rfl, rfl⟩
    go_wp2
    go_ret
    exact ⟨rfl, rfl⟩

theorem wrap_cut (x : Int) : wrap64 x = cut64 x := by
  unfold wrap64 cut64
  omega

theorem cut_step (D : Nat) (d : Int) : wrap64 (wrap64 (cut64 (D : Int) * 10) + d) = cut64 ((D : Int) * 10 + d) := by
  unfold wrap64 cut64
  omega

set_option maxRecDepth 100000 in
theorem ref_number_calls (s : ByteArray) (hs : s.size ≤ 9223372036854775807) (w : World) :
    Calls Tryz.prog 82 #[.string s] w fun e w' => e = .returned (.int .i64 (vNum s.data.toList)) ∧ w' = w := by
  obtain ⟨l, hl⟩ : ∃ l, s.data.toList = l := ⟨_, rfl⟩
  have el : l.length = s.size := by rw [← hl]; exact Array.length_toList
  have EL := hid el
  have HL := hid hl
  rw [hl]
  clear el hl
  go_enter Tryz.func82, Tryz.ntmps82
  go_wp2
  go_loop [3, 4] (fun x i => ∃ k : Nat, k ≤ s.size ∧ i = .int .i64 k ∧ (∃ y : Int, x = .int .i64 y ∧ Hid (y = cut64 ((dval 0 (l.take k) : Nat) : Int))) ∧ Hid (20 < s.size → k = 0)) (fun _ i => s.size - (Go.RowKit.intOf i).toNat)
  case atStart => exact ⟨0, by omega, rfl, ⟨0, rfl, by show (0 : Int) = _; rw [List.take_zero]; rfl⟩, fun _ => rfl⟩
  case round =>
    obtain ⟨k, hk, rfl, ⟨y, rfl, hy⟩, h20⟩ := hrel
    by_cases hlt : k < s.size ∧ s.size ≤ 20
    · obtain ⟨hlt, hle⟩ := hlt
      have htk : l.take (k + 1) = l.take k ++ [s[k]'hlt] := by
        have hl : s.data.toList = l := HL
        have hll : k < l.length := by rw [show l.length = s.size from EL]; exact hlt
        rw [List.take_add_one, List.getElem?_eq_getElem hll]
        subst hl
        rfl
      have hsn := dval_snoc 0 (l.take k) (s[k]'hlt)
      rw [← htk] at hsn
      by_cases hd : 48 ≤ (s[k]'hlt).toNat ∧ (s[k]'hlt).toNat ≤ 57
      · rw [if_pos hd] at hsn
        have HE : Hid (wrap64 (wrap64 (y * 10) + (((s[k]'hlt).toNat : Int) - 48)) = cut64 ((dval 0 (l.take (k + 1)) : Nat) : Int)) := by
          have hy' : y = _ := hy
          show _ = _
          rw [hy', cut_step, hsn]
          congr 1
          omega
        clear hsn htk hy
        obtain ⟨d1, d2⟩ := hd
        have d1' : (48 : Int) ≤ ((s[k]'hlt).toNat : Int) := by omega
        have d2' : ((s[k]'hlt).toNat : Int) ≤ 57 := by omega
        go_wp2
        go_round
        case rel => exact ⟨k + 1, by omega, by go_num, ⟨_, rfl, HE⟩, fun h => absurd h (by omega)⟩
        case measure => simp [Go.RowKit.intOf]; omega
      · rw [if_neg hd] at hsn
        have HE : Hid (y = cut64 ((dval 0 (l.take (k + 1)) : Nat) : Int)) := by
          rw [hsn]; exact hy
        clear hsn htk hy
        by_cases d1 : 48 ≤ (s[k]'hlt).toNat
        · have d2 : ¬ (s[k]'hlt).toNat ≤ 57 := fun h => hd ⟨d1, h⟩
          have d1' : (48 : Int) ≤ ((s[k]'hlt).toNat : Int) := by omega
          have d2' : (57 : Int) < ((s[k]'hlt).toNat : Int) := by omega
          clear hd
          go_wp2
          go_round
          case rel => exact ⟨k + 1, by omega, by go_num, ⟨_, rfl, HE⟩, fun h => absurd h (by omega)⟩
          case measure => simp [Go.RowKit.intOf]; omega
        · have d1' : ((s[k]'hlt).toNat : Int) < 48 := by omega
          clear hd
          go_wp2
          go_round
          case rel => exact ⟨k + 1, by omega, by go_num, ⟨_, rfl, HE⟩, fun h => absurd h (by omega)⟩
          case measure => simp [Go.RowKit.intOf]; omega
    · have hyn : y = if l.length ≤ 20 then cut64 ((dval 0 l : Nat) : Int) else 0 := by
        have hy' : y = _ := hy
        have el : l.length = s.size := EL
        rw [el]
        by_cases h2 : s.size ≤ 20
        · rw [if_pos h2, hy', List.take_of_length_le (by omega)]
        · have hk0 := (show 20 < s.size → k = 0 from h20) (by omega)
          rw [if_neg h2, hy', hk0, List.take_zero]
          rfl
      have hi : I64 y := by
        rw [hyn]
        split
        · exact cut64_i64 _
        · exact ⟨by decide, by decide⟩
      have hv : rTell l y = vNum l := rTell_vNum l y hyn
      have hi2 : I64 (wrap64 (-y)) := by rw [wrap_cut]; exact cut64_i64 _
      have b1 : (itoa y == s.toList) = decide (itoa y = l) := by rw [ByteArray.toList_eq, show s.data.toList = l from HL]; exact Bool.beq_eq_decide_eq ..
      have b2 : (itoa (wrap64 (-y)) == s.toList) = decide (itoa (wrap64 (-y)) = l) := by rw [ByteArray.toList_eq, show s.data.toList = l from HL]; exact Bool.beq_eq_decide_eq ..
      have HI := hid hi
      have HI2 := hid hi2
      unfold rTell at hv
      rw [← wrap_cut] at hv
      clear hy h20 hyn hi hi2
      by_cases e1 : itoa y = l
      · rw [if_pos e1] at hv
        have HV := hid hv
        rw [decide_eq_true e1] at b1
        clear hv e1 b2
        go_wp2_with fail
        all_goals
          refine (ref_digits_calls y HI _).mono ?_
          rintro e w1 ⟨rfl, rfl⟩
          go_wp2
          go_ret
          exact ⟨congrArg (fun x => Ending.returned (.int .i64 x)) HV, rfl⟩
      · rw [if_neg e1] at hv
        rw [decide_eq_false e1] at b1
        clear e1
        by_cases e2 : itoa (wrap64 (-y)) = l
        · rw [if_pos e2] at hv
          have HV := hid hv
          rw [decide_eq_true e2] at b2
          clear hv e2
          go_wp2_with fail
          all_goals
            refine (ref_digits_calls y HI _).mono ?_
            rintro e w1 ⟨rfl, rfl⟩
            go_wp2_with fail
            refine (ref_digits_calls (wrap64 (-y)) HI2 _).mono ?_
            rintro e w1 ⟨rfl, rfl⟩
            go_wp2
            go_ret
            exact ⟨congrArg (fun x => Ending.returned (.int .i64 x)) HV, rfl⟩
        · rw [if_neg e2] at hv
          have HV := hid hv
          rw [decide_eq_false e2] at b2
          clear hv e2
          go_wp2_with fail
          all_goals
            refine (ref_digits_calls y HI _).mono ?_
            rintro e w1 ⟨rfl, rfl⟩
            go_wp2_with fail
            refine (ref_digits_calls (wrap64 (-y)) HI2 _).mono ?_
            rintro e w1 ⟨rfl, rfl⟩
            go_wp2
            go_ret
            exact ⟨congrArg (fun x => Ending.returned (.int .i64 x)) HV, rfl⟩

end Go.Proofs.YtpggfdnpbipckaaGreatDoor
