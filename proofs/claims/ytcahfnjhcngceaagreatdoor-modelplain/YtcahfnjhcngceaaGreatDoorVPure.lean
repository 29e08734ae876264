/- Digits, cuts and bytes at a place over lists; values: what stage 4's contracts speak of. Nothing of the program but its types. -/
import Derived.Test.YtcahfnjhcngceaaGreatDoorGPlain
import Derived.Test.YtcahfnjhcngceaaGreatDoorSav
import Derived.WalkKit
import Derived.ProofKit
import Derived.Below
import Derived.Laws.DeepStrings4
import Derived.Lib.MinMax
namespace Go.Proofs.YtcahfnjhcngceaaGreatDoor
open Go.RowKit Go.Lib
set_option linter.unusedVariables false
set_option maxRecDepth 100000

/-- The text of bytes. -/
abbrev tx (l : List UInt8) : ByteArray := ⟨l.toArray⟩
/-- Byte i, or -1. -/
def atOf (s : ByteArray) (i : Int) : Int := if i < 0 ∨ (s.size : Int) ≤ i then -1 else ((s.data.toList.getD i.toNat 0).toNat : Int)

theorem at_byte (s : ByteArray) (i : Int) (h0 : 0 ≤ i) (h1 : i < (s.size : Int)) (hh : i.toNat < s.size) : wrap64 ((s[i.toNat]'hh).toNat : Int) = atOf s i := by
  unfold atOf
  rw [if_neg (by omega)]
  have e : s.data.toList.getD i.toNat 0 = s[i.toNat]'hh := by
    rw [List.getD_eq_getElem?_getD, List.getElem?_eq_getElem (by rw [Array.length_toList]; exact hh)]
    rfl
  rw [e]
  have := (s[i.toNat]'hh).toNat_lt
  unfold wrap64
  omega

/-- A place clipped to the bytes that there are. -/
def clip (n : Nat) (a : Int) : Nat := (min (max a 0) (n : Int)).toNat
def cutL (l : List UInt8) (a b : Int) : List UInt8 := (l.drop (clip l.length a)).take (clip l.length b - clip l.length a)

theorem cut_extract (s : ByteArray) (a b : Int) : s.extract (min (max a 0) (s.size : Int)).toNat (min (max b 0) (s.size : Int)).toNat = tx (cutL s.data.toList a b) := by
  have el : s.data.toList.length = s.size := Array.length_toList
  apply ByteArray.ext
  apply Array.ext'
  rw [ByteArray.data_extract, Array.toList_extract]
  unfold cutL clip
  rw [el]

/-- A value, as the program holds it. -/
abbrev val (t : Bool) (n : Int) (x : ByteArray) : Value := .agg #[.bool t, .int .i64 n, .string x]

def sameOf (t u : Bool) (n m : Int) (x y : ByteArray) : Bool := if (!(t == u)) = true then false else if t = true then x.data.toList == y.data.toList else n == m

end Go.Proofs.YtcahfnjhcngceaaGreatDoor
