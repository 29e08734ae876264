/- ValueCuts' walk: both parts of a cut text, and a byte of it. -/
import Derived.Test.YtenihkjghbmfjaaDoorVAwake
import Derived.Handy
import Derived.Deep.RegionHeld
import Derived.Laws.IdiomStrings
namespace Go.Proofs.YtenihkjghbmfjaaDoor
open Go.RowKit Go.Lib
set_option linter.unusedVariables false

theorem i64_of {n : Int} (wf : (Lit.int .i64 n).wf = true) : I64 n := by
  have e1 : IntKind.i64.min = -9223372036854775808 := rfl
  have e2 : IntKind.i64.max = 9223372036854775807 := rfl
  simp [Lit.wf, e1, e2] at wf
  exact ⟨by omega, by omega⟩

theorem clip_neg (n : Nat) {a : Int} (h : a ≤ 0) : clip n a = 0 := by unfold clip; omega
theorem clip_over (n : Nat) {a : Int} (h : (n : Int) ≤ a) : clip n a = n := by unfold clip; omega
theorem clip_le (n : Nat) (a : Int) : clip n a ≤ n := by unfold clip; omega
theorem clip_in (n : Nat) {a : Int} (h0 : 0 ≤ a) (h1 : a ≤ (n : Int)) : clip n a = a.toNat := by unfold clip; omega

/-- BOTH PARTS ARE THE TEXT. -/
theorem cut_whole (l : List UInt8) (k : Int) : cutL l (-5) k ++ cutL l k ((l.length : Int) + 9) = l := by
  unfold cutL
  rw [clip_neg l.length (a := -5) (by omega), clip_over l.length (a := (l.length : Int) + 9) (by omega), List.drop_zero, Nat.sub_zero]
  have h := clip_le l.length k
  rw [List.take_of_length_le (l := l.drop (clip l.length k)) (by rw [List.length_drop]; omega)]
  exact List.take_append_drop _ _

theorem cut_first (l : List UInt8) {k : Int} (h0 : 0 ≤ k) (h1 : k ≤ (l.length : Int)) : ((cutL l (-5) k).length : Int) = k := by
  unfold cutL
  rw [clip_neg l.length (a := -5) (by omega), clip_in _ h0 h1, List.drop_zero, Nat.sub_zero, List.length_take]
  omega

theorem cut_none (l : List UInt8) (i : Int) : cutL l i i = [] := by
  unfold cutL
  rw [Nat.sub_self, List.take_zero]

theorem cut_one (l : List UInt8) {i : Int} (h0 : 0 ≤ i) (h1 : i < (l.length : Int)) : cutL l i (i + 1) = [l.getD i.toNat 0] := by
  unfold cutL
  rw [clip_in _ h0 (by omega), clip_in _ (by omega : 0 ≤ i + 1) (by omega), show (i + 1).toNat - i.toNat = 1 by omega]
  have h : i.toNat < l.length := by omega
  rw [List.drop_eq_getElem_cons h, List.take_succ_cons, List.take_zero, List.getD_eq_getElem?_getD, List.getElem?_eq_getElem h]
  rfl

theorem at_out (s : ByteArray) (i : Int) (h : i < 0 ∨ (s.size : Int) ≤ i) : atOf s i = -1 := by unfold atOf; rw [if_pos h]
theorem at_in (s : ByteArray) (i : Int) (h0 : 0 ≤ i) (h1 : i < (s.size : Int)) : atOf s i = ((s.data.toList.getD i.toNat 0).toNat : Int) := by unfold atOf; rw [if_neg (by omega)]

set_option maxHeartbeats 1000000 in
set_option maxRecDepth 100000 in
theorem valueCuts_out (w : World) (T : Tabs w) (s : ByteArray) (hm : s.size ≤ 9223372036854775807) (k i : Int) (x y : List UInt8) (hz : ¬ 9223372036854775807 < x.length + y.length) (b1 : ((tx x ++ tx y).toList == s.toList) = true)
    (HX : Hid (cutL s.data.toList (-5) k = x)) (HY : Hid (cutL s.data.toList k ((s.size : Int) + 9) = y)) (hl' : (s.size : Int) ≤ 100) (hw : wrap64 ((s.size : Int) + 9) = (s.size : Int) + 9)
    (e3 : (k < 0 ∨ (s.size : Int) < k) ∨ (0 ≤ k ∧ k ≤ (s.size : Int) ∧ ((x.length : Int) != k) = false))
    (ho : i < 0 ∨ (s.size : Int) ≤ i) :
    Calls Tryd.prog 6 #[.string s, .int .i64 k, .int .i64 i] w fun e w' => e = .returned (.bool true) ∧ Below w.heap.size w w' := by
  have HP := hid (at_out s i ho)
  have HC := hid (cut_none s.data.toList i)
  rcases e3 with (h0 | h1) | ⟨h0, h1, h2⟩ <;> rcases ho with ho | ho
  all_goals
    go_enter Tryd.func6, Tryd.ntmps6
    go_wp2_with fail
    refine (value_Cut_calls s (-5) k hm _).mono ?_
    rintro e w1 ⟨rfl, rfl⟩
    rw [show cutL s.data.toList (-5) k = x from HX]
    go_wp2_with fail
    refine (value_Cut_calls s k ((s.size : Int) + 9) hm _).mono ?_
    rintro e w1 ⟨rfl, rfl⟩
    rw [show cutL s.data.toList k ((s.size : Int) + 9) = y from HY]
    go_wp2_with fail
    refine (value_At_calls s i hm _).mono ?_
    rintro e w1 ⟨rfl, rfl⟩
    rw [show atOf s i = -1 from HP]
    go_wp2_with fail
    refine (value_Cut_calls s i i hm _).mono ?_
    rintro e w1 ⟨rfl, rfl⟩
    rw [show cutL s.data.toList i i = [] from HC]
    go_wp2_with fail
    refine (awake_calls _ T).mono ?_
    rintro e w2 ⟨rfl, hb2⟩
    go_wp2
    go_ret
    exact ⟨rfl, hb2⟩

set_option maxHeartbeats 12000000 in
set_option maxRecDepth 100000 in
theorem valueCuts_in (w : World) (T : Tabs w) (s : ByteArray) (hm : s.size ≤ 9223372036854775807) (k i : Int) (x y : List UInt8) (hz : ¬ 9223372036854775807 < x.length + y.length) (b1 : ((tx x ++ tx y).toList == s.toList) = true)
    (HX : Hid (cutL s.data.toList (-5) k = x)) (HY : Hid (cutL s.data.toList k ((s.size : Int) + 9) = y)) (hl' : (s.size : Int) ≤ 100) (hw : wrap64 ((s.size : Int) + 9) = (s.size : Int) + 9)
    (e3 : (k < 0 ∨ (s.size : Int) < k) ∨ (0 ≤ k ∧ k ≤ (s.size : Int) ∧ ((x.length : Int) != k) = false))
    (hi0 : 0 ≤ i) (hi1 : i < (s.size : Int)) :
    Calls Tryd.prog 6 #[.string s, .int .i64 k, .int .i64 i] w fun e w' => e = .returned (.bool true) ∧ Below w.heap.size w w' := by
  have hp := at_in s i hi0 hi1
  have hq := cut_one s.data.toList (i := i) hi0 (by rw [show s.data.toList.length = s.size from Array.length_toList]; exact hi1)
  obtain ⟨c, hc⟩ : ∃ c : UInt8, s.data.toList.getD i.toNat 0 = c := ⟨_, rfl⟩
  rw [hc] at hp hq
  obtain ⟨p, hpc⟩ : ∃ p : Int, p = (c.toNat : Int) := ⟨_, rfl⟩
  have hcb := c.toNat_lt
  have p0 : 0 ≤ p := by omega
  have hd : decide (0 ≤ p) = true := by simp; exact p0
  rw [← hpc] at hp
  have HP := hid hp
  have e8 : IntKind.u8.wrap p = (c.toNat : Int) := by rw [hpc]; simp [IntKind.wrap, IntKind.bits, IntKind.signed]; omega
  have e64 : IntKind.i64.wrap (i + 1) = i + 1 := by simp [IntKind.wrap, IntKind.bits, IntKind.signed]; omega
  have HC : Hid (cutL s.data.toList i (IntKind.i64.wrap (i + 1)) = [c]) := by rw [e64]; exact hq
  have hcv : ∀ w : World, Hid ((convert 35 9 (Value.slice (some ⟨w.heap.size, 0, none⟩) 1 1)).run Tryd.prog (w.alloc (Obj.cells #[.int .u8 (IntKind.u8.wrap p)] 5)).drew = .ok (.string (tx [c])) (w.alloc (Obj.cells #[.int .u8 (IntKind.u8.wrap p)] 5)).drew) := fun w => by
    refine run_convert_bytes_back _ 35 9 5 ⟨w.heap.size, 0, none⟩ 1 [c] Tryd.underlying35 Tryd.underlying5 Tryd.underlying9 ?_
    intro j hj
    have hj0 : j = 0 := by simpa using hj
    subst hj0
    rw [e8]
    simp [go_sem, Addr.add]
  clear hp hq hc hpc hcb e8 e64
  rcases e3 with (h0 | h1) | ⟨h0, h1, h2⟩
  all_goals
    go_enter Tryd.func6, Tryd.ntmps6
    go_wp2_with fail
    refine (value_Cut_calls s (-5) k hm _).mono ?_
    rintro e w1 ⟨rfl, rfl⟩
    rw [show cutL s.data.toList (-5) k = x from HX]
    go_wp2_with fail
    refine (value_Cut_calls s k ((s.size : Int) + 9) hm _).mono ?_
    rintro e w1 ⟨rfl, rfl⟩
    rw [show cutL s.data.toList k ((s.size : Int) + 9) = y from HY]
    go_wp2_with fail
    refine (value_At_calls s i hm _).mono ?_
    rintro e w1 ⟨rfl, rfl⟩
    rw [show atOf s i = p from HP]
    go_wp2_with fail
    have HM := hid hm
    have hcv1 : (convert 35 9 (Value.slice (some ⟨w1.heap.size, 0, none⟩) 1 1)).run Tryd.prog (w1.alloc (Obj.cells #[.int .u8 (IntKind.u8.wrap p)] 5)).drew = .ok (.string (tx [c])) (w1.alloc (Obj.cells #[.int .u8 (IntKind.u8.wrap p)] 5)).drew := hcv w1
    clear hm hz b1 hw hl' hi1 hi0 hcv
    generalize tx x ++ tx y = z1
    generalize ((s.size : Int) + 9) = z2
    generalize decide ((100 : Int) < (s.size : Int)) = z3
    generalize ((s.size : Int)) = z4
    generalize (x.length : Int) = z5
    generalize tx x = z6
    generalize tx y = z7
    go_region_held (fun w' => True) (trivial) (first | (go_at_call 14; refine (value_Cut_calls s i (IntKind.i64.wrap (i + 1)) HM _).mono ?_; rintro e w3 ⟨rfl, rfl⟩; rw [show cutL s.data.toList i (IntKind.i64.wrap (i + 1)) = [c] from HC]) | (go_at_call 7; refine (awake_calls _ ?_).mono ?_; (refine T.on ?_; go_grown); rintro e w4 ⟨rfl, hb4⟩))
    all_goals
      go_wp2
      go_ret
      exact ⟨rfl, below_next (by go_grown) hb4⟩

set_option maxRecDepth 100000 in
theorem valueCuts_walk (w : World) (T : Tabs w) (s : ByteArray) (hs : s.size ≤ maxLen) (k : Int) (wk : (Lit.int .i64 k).wf = true) (i : Int) (wi : (Lit.int .i64 i).wf = true) :
    Calls Tryd.prog 6 #[.string s, .int .i64 k, .int .i64 i] w fun e w' => e = .returned (.bool true) ∧ Below w.heap.size w w' := by
  have hk := i64_of wk
  have hi := i64_of wi
  have hm : s.size ≤ 9223372036854775807 := by unfold maxLen at hs; omega
  clear wk wi hs
  by_cases hl : 100 < s.size
  · have hd : decide ((100 : Int) < (s.size : Int)) = true := by simp; omega
    clear hk hi
    go_enter Tryd.func6, Tryd.ntmps6
    go_wp2_with fail
    refine (awake_calls _ T).mono ?_
    rintro e w1 ⟨rfl, hb1⟩
    go_wp2
    go_ret
    exact ⟨rfl, hb1⟩
  have el : s.data.toList.length = s.size := Array.length_toList
  have ew := cut_whole s.data.toList k
  have ef := fun h0 h1 => cut_first s.data.toList (k := k) h0 h1
  rw [el] at ew ef
  obtain ⟨x, hx⟩ : ∃ x, cutL s.data.toList (-5) k = x := ⟨_, rfl⟩
  obtain ⟨y, hy⟩ : ∃ y, cutL s.data.toList k ((s.size : Int) + 9) = y := ⟨_, rfl⟩
  rw [hx] at ew ef
  rw [hy] at ew
  have hxy : x.length + y.length = s.size := by rw [← el, ← ew, List.length_append]
  have hz : ¬ 9223372036854775807 < x.length + y.length := by omega
  have b1 : ((tx x ++ tx y).toList == s.toList) = true := by
    rw [ByteArray.toList_eq, ByteArray.toList_eq, ByteArray.data_append, Array.toList_append]
    show (x ++ y == s.data.toList) = true
    rw [ew]; exact beq_self_eq_true _
  have HX := hid hx
  have HY := hid hy
  have hl' : (s.size : Int) ≤ 100 := by omega
  have hw : wrap64 ((s.size : Int) + 9) = (s.size : Int) + 9 := by unfold wrap64; omega
  have e3 : (k < 0 ∨ (s.size : Int) < k) ∨ (0 ≤ k ∧ k ≤ (s.size : Int) ∧ ((x.length : Int) != k) = false) := by
    by_cases h0 : k < 0
    · exact Or.inl (Or.inl h0)
    by_cases h1 : (s.size : Int) < k
    · exact Or.inl (Or.inr h1)
    · refine Or.inr ⟨by omega, by omega, ?_⟩
      rw [ef (by omega) (by omega)]
      simp
  by_cases ho : i < 0 ∨ (s.size : Int) ≤ i
  · exact valueCuts_out w T s hm k i x y hz b1 HX HY hl' hw e3 ho
  · exact valueCuts_in w T s hm k i x y hz b1 HX HY hl' hw e3 (by omega) (by omega)

end Go.Proofs.YtenihkjghbmfjaaDoor
