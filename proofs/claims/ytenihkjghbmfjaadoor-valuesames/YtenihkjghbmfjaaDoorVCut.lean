/- At, Cut, Int, Bytes and Same of the program and of the reference, each by its own contract. -/
import Derived.Test.YtenihkjghbmfjaaDoorVBase
import Derived.Laws.DeepStrings4
namespace Go.Proofs.YtenihkjghbmfjaaDoor
open Go.RowKit Go.Lib
set_option linter.unusedVariables false

/-! ### A byte at a place -/

/-- Byte i, or -1. -/
def atOf (s : ByteArray) (i : Int) : Int := if i < 0 ∨ (s.size : Int) ≤ i then -1 else ((s.data.toList.getD i.toNat 0).toNat : Int)

theorem at_byte (s : ByteArray) (i : Int) (h0 : 0 ≤ i) (h1 : i < (s.size : Int)) (hh : i.toNat < s.size) : wrap64 ((s[i.toNat]'hh).toNat : Int) = atOf s i := by
  unfold atOf
  rw [if_neg (by omega)]
  have e : s.data.toList.getD i.toNat 0 = s[i.toNat]'hh := by
    rw [List.getD_eq_getElem?_getD, List.getElem?_eq_getElem (by rw [Array.length_toList]; exact hh)]
    rfl
  rw [e]
  have := (s[i.toNat]'hh).toNat_lt
  unfold wrap64
  omega

set_option maxRecDepth 100000 in
theorem value_At_calls (s : ByteArray) (i : Int) (hs : s.size ≤ 9223372036854775807) (w : World) :
    Calls Tryd.prog 12 #[.string s, .int .i64 i] w fun e w' => e = .returned (.int .i64 (atOf s i)) ∧ w' = w := by
  by_cases h0 : i < 0
  · have e : atOf s i = -1 := by unfold atOf; rw [if_pos (Or.inl h0)]
    rw [e]
    go_enter Tryd.func12, Tryd.ntmps12
    go_wp2
    go_ret
    exact ⟨rfl, rfl⟩
  by_cases h1 : (s.size : Int) ≤ i
  · have e : atOf s i = -1 := by unfold atOf; rw [if_pos (Or.inr h1)]
    rw [e]
    go_enter Tryd.func12, Tryd.ntmps12
    go_wp2
    go_ret
    exact ⟨rfl, rfl⟩
  have b0 : 0 ≤ i := by omega
  have b1 : i < (s.size : Int) := by omega
  have hb := at_byte s i b0 b1 (by omega)
  go_enter Tryd.func12, Tryd.ntmps12
  go_wp2
  go_ret
  exact ⟨congrArg (fun x => Ending.returned (.int .i64 x)) hb, rfl⟩

set_option maxRecDepth 100000 in
theorem staitheref4_At_calls (s : ByteArray) (i : Int) (hs : s.size ≤ 9223372036854775807) (w : World) :
    Calls Tryd.prog 13 #[.string s, .int .i64 i] w fun e w' => e = .returned (.int .i64 (atOf s i)) ∧ w' = w := by
  by_cases h0 : i < 0
  · have e : atOf s i = -1 := by unfold atOf; rw [if_pos (Or.inl h0)]
    rw [e]
    go_enter Tryd.func13, Tryd.ntmps13
    go_wp2
    go_ret
    exact ⟨rfl, rfl⟩
  by_cases h1 : (s.size : Int) ≤ i
  · have e : atOf s i = -1 := by unfold atOf; rw [if_pos (Or.inr h1)]
    rw [e]
    go_enter Tryd.func13, Tryd.ntmps13
    go_wp2
    go_ret
    exact ⟨rfl, rfl⟩
  have b0 : 0 ≤ i := by omega
  have b1 : i < (s.size : Int) := by omega
  have hb := at_byte s i b0 b1 (by omega)
  go_enter Tryd.func13, Tryd.ntmps13
  go_wp2
  go_ret
  exact ⟨congrArg (fun x => Ending.returned (.int .i64 x)) hb, rfl⟩

/-! ### A cut -/

/-- A place clipped to the bytes that there are. -/
def clip (n : Nat) (a : Int) : Nat := (min (max a 0) (n : Int)).toNat
def cutL (l : List UInt8) (a b : Int) : List UInt8 := (l.drop (clip l.length a)).take (clip l.length b - clip l.length a)

theorem cut_extract (s : ByteArray) (a b : Int) : s.extract (min (max a 0) (s.size : Int)).toNat (min (max b 0) (s.size : Int)).toNat = tx (cutL s.data.toList a b) := by
  have el : s.data.toList.length = s.size := Array.length_toList
  apply ByteArray.ext
  apply Array.ext'
  rw [ByteArray.data_extract, Array.toList_extract]
  unfold cutL clip
  rw [el]

set_option maxRecDepth 100000 in
theorem value_Cut_calls (s : ByteArray) (a b : Int) (hs : s.size ≤ 9223372036854775807) (w : World) :
    Calls Tryd.prog 14 #[.string s, .int .i64 a, .int .i64 b] w fun e w' => e = .returned (.string (tx (cutL s.data.toList a b))) ∧ w' = w := by
  rw [← cut_extract]
  by_cases hc : min (max b 0) (s.size : Int) ≤ min (max a 0) (s.size : Int)
  · have e : s.extract (min (max a 0) (s.size : Int)).toNat (min (max b 0) (s.size : Int)).toNat = ⟨#[]⟩ := by
      rw [cut_extract]
      have el : s.data.toList.length = s.size := Array.length_toList
      unfold cutL clip
      rw [el, show (min (max b 0) (s.size : Int)).toNat - (min (max a 0) (s.size : Int)).toNat = 0 by omega, List.take_zero]
    rw [e]
    go_enter Tryd.func14, Tryd.ntmps14
    go_wp2
    go_ret
    exact ⟨rfl, rfl⟩
  · have hsl : ∀ w, (Instr.slice 9 (.string s) (some (.int .i64 (min (max a 0) (s.size : Int)))) (some (.int .i64 (min (max b 0) (s.size : Int)))) none).run Tryd.prog w = .ok (.string (s.extract (min (max a 0) (s.size : Int)).toNat (min (max b 0) (s.size : Int)).toNat)) w := fun w => by
      rw [run_slice_string_if w 9 s .i64 .i64 _ _ Tryd.underlying9, if_pos (by omega), if_pos (by omega)]
    have hc' : min (max a 0) (s.size : Int) < min (max b 0) (s.size : Int) := by omega
    go_enter Tryd.func14, Tryd.ntmps14
    go_wp2
    go_ret
    exact ⟨rfl, rfl⟩

set_option maxRecDepth 100000 in
theorem staitheref4_Cut_calls (s : ByteArray) (a b : Int) (hs : s.size ≤ 9223372036854775807) (w : World) :
    Calls Tryd.prog 15 #[.string s, .int .i64 a, .int .i64 b] w fun e w' => e = .returned (.string (tx (cutL s.data.toList a b))) ∧ w' = w := by
  rw [← cut_extract]
  by_cases hc : min (max b 0) (s.size : Int) ≤ min (max a 0) (s.size : Int)
  · have e : s.extract (min (max a 0) (s.size : Int)).toNat (min (max b 0) (s.size : Int)).toNat = ⟨#[]⟩ := by
      rw [cut_extract]
      have el : s.data.toList.length = s.size := Array.length_toList
      unfold cutL clip
      rw [el, show (min (max b 0) (s.size : Int)).toNat - (min (max a 0) (s.size : Int)).toNat = 0 by omega, List.take_zero]
    rw [e]
    go_enter Tryd.func15, Tryd.ntmps15
    go_wp2
    go_ret
    exact ⟨rfl, rfl⟩
  · have hsl : ∀ w, (Instr.slice 9 (.string s) (some (.int .i64 (min (max a 0) (s.size : Int)))) (some (.int .i64 (min (max b 0) (s.size : Int)))) none).run Tryd.prog w = .ok (.string (s.extract (min (max a 0) (s.size : Int)).toNat (min (max b 0) (s.size : Int)).toNat)) w := fun w => by
      rw [run_slice_string_if w 9 s .i64 .i64 _ _ Tryd.underlying9, if_pos (by omega), if_pos (by omega)]
    have hc' : min (max a 0) (s.size : Int) < min (max b 0) (s.size : Int) := by omega
    go_enter Tryd.func15, Tryd.ntmps15
    go_wp2
    go_ret
    exact ⟨rfl, rfl⟩

/-! ### Values -/

/-- A value, as the program holds it. -/
abbrev val (t : Bool) (n : Int) (x : ByteArray) : Value := .agg #[.bool t, .int .i64 n, .string x]

def sameOf (t u : Bool) (n m : Int) (x y : ByteArray) : Bool := if (!(t == u)) = true then false else if t = true then x.data.toList == y.data.toList else n == m

set_option maxRecDepth 100000 in
theorem value_Same_calls (t u : Bool) (n m : Int) (x y : ByteArray) (w : World) :
    Calls Tryd.prog 18 #[val t n x, val u m y] w fun e w' => e = .returned (.bool (sameOf t u n m x y)) ∧ Below w.heap.size w w' := by
  have hb : ∀ o1 o2, Below w.heap.size w ((w.alloc o1).alloc o2) := fun o1 o2 => ((Below.refl _ w).alloc (Nat.le_refl _) o1).alloc (by simp) o2
  unfold sameOf
  rw [← ByteArray.toList_eq, ← ByteArray.toList_eq]
  cases t <;> cases u <;>
    (go_enter Tryd.func18, Tryd.ntmps18
     go_wp2
     go_ret
     exact ⟨rfl, hb _ _⟩)

set_option maxRecDepth 100000 in
theorem staitheref4_Same_calls (t u : Bool) (n m : Int) (x y : ByteArray) (w : World) :
    Calls Tryd.prog 19 #[val t n x, val u m y] w fun e w' => e = .returned (.bool (sameOf t u n m x y)) ∧ Below w.heap.size w w' := by
  have hb : ∀ o1 o2, Below w.heap.size w ((w.alloc o1).alloc o2) := fun o1 o2 => ((Below.refl _ w).alloc (Nat.le_refl _) o1).alloc (by simp) o2
  unfold sameOf
  rw [← ByteArray.toList_eq, ← ByteArray.toList_eq]
  cases t <;> cases u <;>
    (go_enter Tryd.func19, Tryd.ntmps19
     go_wp2
     go_ret
     exact ⟨rfl, hb _ _⟩)

set_option maxRecDepth 100000 in
theorem int_calls (n : Int) (w : World) : Calls Tryd.prog 16 #[.int .i64 n] w fun e w' => e = .returned (val false n ⟨#[]⟩) ∧ Below w.heap.size w w' := by
  go_enter Tryd.func16, Tryd.ntmps16
  go_wp2
  refine bodyPost_ret (v := val false n ⟨#[]⟩) (by simp [results, Tryd.results16, go_sem]) rfl ⟨rfl, (Below.refl _ w).alloc (Nat.le_refl _) _⟩

set_option maxRecDepth 100000 in
theorem bytes_calls (s : ByteArray) (w : World) : Calls Tryd.prog 17 #[.string s] w fun e w' => e = .returned (val true 0 s) ∧ Below w.heap.size w w' := by
  go_enter Tryd.func17, Tryd.ntmps17
  go_wp2
  refine bodyPost_ret (v := val true 0 s) (by simp [results, Tryd.results17, go_sem]) rfl ⟨rfl, (Below.refl _ w).alloc (Nat.le_refl _) _⟩

end Go.Proofs.YtenihkjghbmfjaaDoor
