/- Laid together: VPure VVal. -/
import Derived.Test.YtfimoobgbodbmaaGreatDoorGPlain
import Derived.Test.YtfimoobgbodbmaaGreatDoorGSeq
import Derived.WalkKit
import Derived.ProofKit
import Derived.Below
import Derived.Laws.DeepStrings4
import Derived.Lib.MinMax
import Derived.Test.YtfimoobgbodbmaaGreatDoorShelf
import Derived.Test.YtfimoobgbodbmaaGreatDoorRows
import Derived.Stop.LaidErr
import Derived.Lib.LaidTab
import Derived.Lib.AtoiErrMem
/-! Digits, cuts and bytes at a place over lists; values: what stage 4's contracts speak of. Nothing of the program but its types. -/
namespace Go.Proofs.YtfimoobgbodbmaaGreatDoor
open Go.RowKit Go.Lib
set_option linter.unusedVariables false
set_option maxRecDepth 100000

/-- The text of bytes. -/
abbrev tx (l : List UInt8) : ByteArray := ⟨l.toArray⟩
/-- Byte i, or -1. -/
def atOf (s : ByteArray) (i : Int) : Int := if i < 0 ∨ (s.size : Int) ≤ i then -1 else ((s.data.toList.getD i.toNat 0).toNat : Int)

theorem at_byte (s : ByteArray) (i : Int) (h0 : 0 ≤ i) (h1 : i < (s.size : Int)) (hh : i.toNat < s.size) : wrap64 ((s[i.toNat]'hh).toNat : Int) = atOf s i := by
  unfold atOf
  rw [if_neg (by omega)]
  have e : s.data.toList.getD i.toNat 0 = s[i.toNat]'hh := by
    rw [List.getD_eq_getElem?_getD, List.getElem?_eq_getElem (by rw [Array.length_toList]; exact hh)]
    rfl
  rw [e]
  have := (s[i.toNat]'hh).toNat_lt
  unfold wrap64
  omega

/-- A place clipped to the bytes that there are. -/
def clip (n : Nat) (a : Int) : Nat := (min (max a 0) (n : Int)).toNat
def cutL (l : List UInt8) (a b : Int) : List UInt8 := (l.drop (clip l.length a)).take (clip l.length b - clip l.length a)

theorem cut_extract (s : ByteArray) (a b : Int) : s.extract (min (max a 0) (s.size : Int)).toNat (min (max b 0) (s.size : Int)).toNat = tx (cutL s.data.toList a b) := by
  have el : s.data.toList.length = s.size := Array.length_toList
  apply ByteArray.ext
  apply Array.ext'
  rw [ByteArray.data_extract, Array.toList_extract]
  unfold cutL clip
  rw [el]

/-- A value, as the program holds it. -/
abbrev val (t : Bool) (n : Int) (x : ByteArray) : Value := .agg #[.bool t, .int .i64 n, .string x]

def sameOf (t u : Bool) (n m : Int) (x y : ByteArray) : Bool := if (!(t == u)) = true then false else if t = true then x.data.toList == y.data.toList else n == m

end Go.Proofs.YtfimoobgbodbmaaGreatDoor
/-! The values of the program (chapter 4) for the layers above: Digits, Number, At, Cut, Same, Int, Bytes, each by its own contract; the library's variables that they read. -/
namespace Go.Proofs.YtfimoobgbodbmaaGreatDoor
open Go.RowKit Go.Lib
set_option linter.unusedVariables false
set_option maxRecDepth 100000

theorem below_tail {a b c : World} (h : Below a.heap.size a b) (k : Below b.heap.size b c) : Below a.heap.size a c := h.trans (k.mono h.size)

/-! ### The library's variables, as they are laid -/

/-- The table's own name. -/
abbrev powN : String := (Rows.mapperScriptRow.laid.map (·.1)).getD 2 ""

/-- The three variables of the library that are read hold what start-up lays. -/
structure Tabs (w : World) : Prop where
  pow : Lib.TabIs Tryz.prog w powN .u64 Lib.pow10Tab
  syn : ∃ tp p, w.var? Tryz.prog "strconv.ErrSyntax" = some #[.iface tp p]
  rng : ∃ tp p, w.var? Tryz.prog "strconv.ErrRange" = some #[.iface tp p]

theorem var_below {n : String} {x : Array Value} {w w' : World} (h : w.var? Tryz.prog n = some x) (hb : Below w.heap.size w w') : w'.var? Tryz.prog n = some x := by
  unfold World.var? at *
  cases hg : Tryz.prog.globalNamed n with
  | none => simp [hg] at h
  | some g =>
    simp only [hg, Option.bind_some] at h ⊢
    have hlt : g < w.heap.size := by
      rcases Nat.lt_or_ge g w.heap.size with h' | h'
      · exact h'
      · rw [Array.getElem?_eq_none h'] at h; simp at h
    rw [hb.block g hlt]
    exact h

theorem Tabs.on {w w' : World} (h : Tabs w) (hb : Below w.heap.size w w') : Tabs w' := by
  obtain ⟨h1, ⟨a, b, h2⟩, ⟨c, d, h3⟩⟩ := h
  exact ⟨var_below h1 hb, ⟨a, b, var_below h2 hb⟩, ⟨c, d, var_below h3 hb⟩⟩

/-! ### strconv -/

set_option maxRecDepth 100000 in
theorem fmt_calls (n : Int) (h : I64 n) (w : World) (T : Tabs w) :
    Calls Tryz.prog 222 #[.int .i64 n, .int .i64 10] w fun e w' => e = .returned (.string (tx (itoa n))) ∧ Below w.heap.size w w' := by
  refine (Any.strconv_FormatInt_10 laysM173 n h.1 h.2 w T.pow).mono ?_
  rintro e w' ⟨rfl, k, os, rfl⟩
  refine ⟨rfl, rfl, rfl, rfl, ?_, ?_⟩
  · show w.heap.size ≤ (w.heap ++ os).size
    rw [Array.size_append]
    omega
  · intro j hj
    show (w.heap ++ os)[j]? = _
    rw [Array.getElem?_append_left hj]

theorem parse_ok (s : ByteArray) (hs : s.size ≤ 20) (v : Int) (h : atoiAll s.data.toList = .ok v) (w : World) :
    Calls Tryz.prog 223 #[.string s, .int .i64 10, .int .i64 64] w fun e w' => e = .returned (.tuple #[.int .i64 v, .nilIface]) ∧ Below w.heap.size w w' := by
  refine (Any.strconv_ParseInt_10_at64_ok laysC174 s (by omega) v (by rw [parseIntB_64]; exact h) w).mono ?_
  rintro e w' ⟨rfl, rfl | ⟨t, rfl⟩⟩
  · exact ⟨rfl, Below.refl _ _⟩
  · exact ⟨rfl, Lib.bytesWorld_below ..⟩

theorem parse_no (s : ByteArray) (hs : s.size ≤ 20) (h : ∀ v, atoiAll s.data.toList ≠ .ok v) (w : World) (T : Tabs w) :
    Calls Tryz.prog 223 #[.string s, .int .i64 10, .int .i64 64] w fun e w' => ∃ v t N, e = .returned (.tuple #[.int .i64 v, .iface t (.pointer (some ⟨N, 0, none⟩))]) ∧ Below w.heap.size w w' := by
  obtain ⟨_, ⟨a, b, h2⟩, ⟨c, d, h3⟩⟩ := T
  cases e : atoiAll s.data.toList with
  | ok v => exact absurd e (h v)
  | «syntax» =>
    refine (Any.strconv_ParseInt_10_at64_syntax_var laysC174 s (by omega) (by rw [parseIntB_64]; exact e) a b w h2).mono ?_
    rintro e w' ⟨N, rfl, _, _, hb⟩
    exact ⟨_, _, N, rfl, hb⟩
  | range =>
    refine (Any.strconv_ParseInt_10_at64_range_var laysC174 s (by omega) (by rw [parseIntB_64]; exact e) c d w h3).mono ?_
    rintro e w' ⟨N, rfl, _, _, hb⟩
    exact ⟨_, _, N, rfl, hb⟩

/-! ### The program's Digits and Number -/

set_option maxRecDepth 100000 in
theorem digits_calls (n : Int) (h : I64 n) (w : World) (T : Tabs w) :
    Calls Tryz.prog 211 #[.int .i64 n] w fun e w' => e = .returned (.string (tx (itoa n))) ∧ Below w.heap.size w w' := by
  go_enter Tryz.func211, Tryz.ntmps211
  go_wp2_with (go_at_call 222; refine (fmt_calls n h _ T).mono ?_; rintro e w' ⟨rfl, hb⟩)
  go_ret
  exact ⟨rfl, hb⟩

theorem tx_eq {s : ByteArray} {l : List UInt8} (h : l = s.data.toList) : tx l = s := by
  subst h; rfl

set_option maxRecDepth 100000 in
theorem number_calls (s : ByteArray) (hs : s.size ≤ 9223372036854775807) (w : World) (T : Tabs w) :
    Calls Tryz.prog 212 #[.string s] w fun e w' => e = .returned (.int .i64 (vNum s.data.toList)) ∧ Below w.heap.size w w' := by
  have el : s.data.toList.length = s.size := Array.length_toList
  by_cases hl : 20 < s.size
  · have hv : vNum s.data.toList = 0 := by unfold vNum; rw [if_pos (by omega)]
    rw [hv]
    have hd : decide ((20 : Int) < (s.size : Int)) = true := by simp; omega
    go_enter Tryz.func212, Tryz.ntmps212
    go_wp2
    all_goals (first | (exfalso; omega) | skip)
    go_ret
    exact ⟨rfl, Below.refl _ _⟩
  have hl' : s.size ≤ 20 := by omega
  cases ha : atoiAll s.data.toList with
  | ok v =>
    have hv64 : I64 v := by
      have b := parseIntB_bounds (B := 64) (by rw [parseIntB_64]; exact ha)
      have e63 : ((2 ^ (64 - 1) : Nat) : Int) = 9223372036854775808 := by decide
      rw [e63] at b
      exact ⟨b.1, by omega⟩
    have hv : vNum s.data.toList = if itoa v = s.data.toList then v else 0 := by unfold vNum; rw [if_neg (by omega), ha]
    have H := hid hv
    have H2 := hid hv64
    clear hv hv64
    go_enter Tryz.func212, Tryz.ntmps212
    go_wp2_with (go_at_call 223; refine (parse_ok s hl' v ha _).mono ?_; rintro e w1 ⟨rfl, hb1⟩)
    have T1 := T.on hb1
    go_wp2_with (go_at_call 211; refine (digits_calls v H2 _ T1).mono ?_; rintro e w2 ⟨rfl, hb2⟩)
    · have hh : (!itoa v == s.toList) = true := by assumption
      rw [ByteArray.toList_eq] at hh
      have hn : ¬ itoa v = s.data.toList := by simpa using hh
      have e0 : vNum s.data.toList = 0 := by rw [show vNum s.data.toList = _ from H, if_neg hn]
      rw [e0]
      go_ret
      exact ⟨rfl, below_tail hb1 hb2⟩
    · have hh : (!itoa v == s.toList) = false := by assumption
      rw [ByteArray.toList_eq] at hh
      have hn : itoa v = s.data.toList := by simpa using hh
      have e0 : vNum s.data.toList = v := by rw [show vNum s.data.toList = _ from H, if_pos hn]
      rw [e0]
      go_ret
      exact ⟨rfl, below_tail hb1 hb2⟩
  | «syntax» =>
    have hv : vNum s.data.toList = 0 := by unfold vNum; rw [if_neg (by omega), ha]
    rw [hv]
    go_enter Tryz.func212, Tryz.ntmps212
    go_wp2_with (go_at_call 223; refine (parse_no s hl' (by rw [ha]; intro v h; cases h) _ T).mono ?_; rintro e w1 ⟨x, t, N, rfl, hb1⟩)
    go_ret
    exact ⟨rfl, hb1⟩
  | range =>
    have hv : vNum s.data.toList = 0 := by unfold vNum; rw [if_neg (by omega), ha]
    rw [hv]
    go_enter Tryz.func212, Tryz.ntmps212
    go_wp2_with (go_at_call 223; refine (parse_no s hl' (by rw [ha]; intro v h; cases h) _ T).mono ?_; rintro e w1 ⟨x, t, N, rfl, hb1⟩)
    go_ret
    exact ⟨rfl, hb1⟩


set_option maxRecDepth 100000 in
theorem value_At_calls (s : ByteArray) (i : Int) (hs : s.size ≤ 9223372036854775807) (w : World) :
    Calls Tryz.prog 209 #[.string s, .int .i64 i] w fun e w' => e = .returned (.int .i64 (atOf s i)) ∧ w' = w := by
  by_cases h0 : i < 0
  · have e : atOf s i = -1 := by unfold atOf; rw [if_pos (Or.inl h0)]
    rw [e]
    go_enter Tryz.func209, Tryz.ntmps209
    go_wp2
    go_ret
    exact ⟨rfl, rfl⟩
  by_cases h1 : (s.size : Int) ≤ i
  · have e : atOf s i = -1 := by unfold atOf; rw [if_pos (Or.inr h1)]
    rw [e]
    go_enter Tryz.func209, Tryz.ntmps209
    go_wp2
    go_ret
    exact ⟨rfl, rfl⟩
  have b0 : 0 ≤ i := by omega
  have b1 : i < (s.size : Int) := by omega
  have hb := at_byte s i b0 b1 (by omega)
  go_enter Tryz.func209, Tryz.ntmps209
  go_wp2
  go_ret
  exact ⟨congrArg (fun x => Ending.returned (.int .i64 x)) hb, rfl⟩

set_option maxRecDepth 100000 in
theorem value_Cut_calls (s : ByteArray) (a b : Int) (hs : s.size ≤ 9223372036854775807) (w : World) :
    Calls Tryz.prog 210 #[.string s, .int .i64 a, .int .i64 b] w fun e w' => e = .returned (.string (tx (cutL s.data.toList a b))) ∧ w' = w := by
  rw [← cut_extract]
  by_cases hc : min (max b 0) (s.size : Int) ≤ min (max a 0) (s.size : Int)
  · have e : s.extract (min (max a 0) (s.size : Int)).toNat (min (max b 0) (s.size : Int)).toNat = ⟨#[]⟩ := by
      rw [cut_extract]
      have el : s.data.toList.length = s.size := Array.length_toList
      unfold cutL clip
      rw [el, show (min (max b 0) (s.size : Int)).toNat - (min (max a 0) (s.size : Int)).toNat = 0 by omega, List.take_zero]
    rw [e]
    go_enter Tryz.func210, Tryz.ntmps210
    go_wp2
    go_ret
    exact ⟨rfl, rfl⟩
  · have hsl : ∀ w, (Instr.slice 9 (.string s) (some (.int .i64 (min (max a 0) (s.size : Int)))) (some (.int .i64 (min (max b 0) (s.size : Int)))) none).run Tryz.prog w = .ok (.string (s.extract (min (max a 0) (s.size : Int)).toNat (min (max b 0) (s.size : Int)).toNat)) w := fun w => by
      rw [run_slice_string_if w 9 s .i64 .i64 _ _ Tryz.underlying9, if_pos (by omega), if_pos (by omega)]
    have hc' : min (max a 0) (s.size : Int) < min (max b 0) (s.size : Int) := by omega
    go_enter Tryz.func210, Tryz.ntmps210
    go_wp2
    go_ret
    exact ⟨rfl, rfl⟩

set_option maxRecDepth 100000 in
theorem value_Same_calls (t u : Bool) (n m : Int) (x y : ByteArray) (w : World) :
    Calls Tryz.prog 208 #[val t n x, val u m y] w fun e w' => e = .returned (.bool (sameOf t u n m x y)) ∧ Below w.heap.size w w' := by
  have hb : ∀ o1 o2, Below w.heap.size w ((w.alloc o1).alloc o2) := fun o1 o2 => ((Below.refl _ w).alloc (Nat.le_refl _) o1).alloc (by simp) o2
  unfold sameOf
  rw [← ByteArray.toList_eq, ← ByteArray.toList_eq]
  cases t <;> cases u <;>
    (go_enter Tryz.func208, Tryz.ntmps208
     go_wp2
     go_ret
     exact ⟨rfl, hb _ _⟩)

set_option maxRecDepth 100000 in
theorem int_calls (n : Int) (w : World) : Calls Tryz.prog 165 #[.int .i64 n] w fun e w' => e = .returned (val false n ⟨#[]⟩) ∧ Below w.heap.size w w' := by
  go_enter Tryz.func165, Tryz.ntmps165
  go_wp2
  refine bodyPost_ret (v := val false n ⟨#[]⟩) (by simp [results, Tryz.results165, go_sem]) rfl ⟨rfl, (Below.refl _ w).alloc (Nat.le_refl _) _⟩

set_option maxRecDepth 100000 in
theorem bytes_calls (s : ByteArray) (w : World) : Calls Tryz.prog 166 #[.string s] w fun e w' => e = .returned (val true 0 s) ∧ Below w.heap.size w w' := by
  go_enter Tryz.func166, Tryz.ntmps166
  go_wp2
  refine bodyPost_ret (v := val true 0 s) (by simp [results, Tryz.results166, go_sem]) rfl ⟨rfl, (Below.refl _ w).alloc (Nat.le_refl _) _⟩

end Go.Proofs.YtfimoobgbodbmaaGreatDoor
