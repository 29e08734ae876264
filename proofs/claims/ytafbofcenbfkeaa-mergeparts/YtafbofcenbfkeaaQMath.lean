/- Keys' numbers, of 32 bits that go round, and parts, over lists: nothing of the program is in it. -/
import Derived.WalkKit
import Derived.Test.YtafbofcenbfkeaaSMath
namespace Go.Proofs.Ytafbofcenbfkeaa
open Go.RowKit
set_option linter.unusedVariables false

theorem u32wrap_eq (n : Int) : IntKind.u32.wrap n = n % 4294967296 := by
  simp [IntKind.wrap, IntKind.bits, IntKind.signed]
/-- What there is, and a byte more. -/
def numStep (n : Nat) (b : UInt8) : Nat := (31 * n + b.toNat) % 4294967296
def numL (l : List UInt8) : Nat := l.foldl numStep 7
/-- A key's number. -/
def numK (s : ByteArray) : Nat := numL s.data.toList
theorem numStep_lt (n : Nat) (b : UInt8) : numStep n b < 4294967296 := by unfold numStep; omega
theorem foldl_lt : ∀ (l : List UInt8) (n : Nat), n < 4294967296 → l.foldl numStep n < 4294967296
  | [], _, h => h
  | b :: l, n, _ => foldl_lt l _ (numStep_lt n b)
theorem numL_lt (l : List UInt8) : numL l < 4294967296 := foldl_lt l 7 (by omega)
theorem numK_lt (s : ByteArray) : numK s < 4294967296 := numL_lt _
theorem numL_snoc (l : List UInt8) (b : UInt8) : numL (l ++ [b]) = numStep (numL l) b := by simp [numL]
theorem numL_take {s : ByteArray} {k : Nat} (h : k < s.size) : numL (s.data.toList.take (k + 1)) = numStep (numL (s.data.toList.take k)) (s[k]'h) := by
  rw [List.take_succ_eq_append_getElem (by rw [Array.length_toList]; exact h), numL_snoc]
  rfl
theorem numL_all (s : ByteArray) : numL (s.data.toList.take s.size) = numK s := by
  rw [List.take_of_length_le (by rw [Array.length_toList]; exact Nat.le_refl _)]
  rfl
/-- As it is reckoned: 31 times, and the byte. -/
theorem step_left (n : Nat) (b : UInt8) : (31 * (n : Int) % 4294967296 + (b.toNat : Int) % 4294967296) % 4294967296 = (numStep n b : Nat) := by unfold numStep; omega
theorem step_right (n : Nat) (b : UInt8) : ((n : Int) * 31 % 4294967296 + (b.toNat : Int) % 4294967296) % 4294967296 = (numStep n b : Nat) := by unfold numStep; omega

/-- Which part a key is. -/
def ofK (s : ByteArray) (parts : Int) : Int := if parts < 1 then -1 else (numK s : Int) % parts
theorem ofK_none {s : ByteArray} {parts : Int} (h : parts < 1) : ofK s parts = -1 := if_pos h
theorem ofK_some {s : ByteArray} {parts : Int} (h : ¬ parts < 1) : ofK s parts = (numK s : Int) % parts := if_neg h
theorem ofK_bd {s : ByteArray} {parts : Int} (h : 1 ≤ parts) : 0 ≤ ofK s parts ∧ ofK s parts < parts := by
  rw [ofK_some (by omega)]
  exact ⟨Int.emod_nonneg _ (by omega), Int.emod_lt_of_pos _ (by omega)⟩
theorem ofK_le {s : ByteArray} {parts : Int} (h1 : 1 ≤ parts) : ofK s parts ≤ 4294967295 := by
  have hn := numK_lt s
  rw [ofK_some (by omega)]
  have h3 : (numK s : Int) % parts ≤ (numK s : Int) := by
    rw [← Int.natCast_toNat_eq_self.2 (show 0 ≤ parts by omega)]
    exact_mod_cast Nat.mod_le (numK s) parts.toNat
  omega
theorem ofK_wrap (s : ByteArray) (parts : Int) (h1 : 1 ≤ parts) : wrap64 ((numK s : Int) % parts) = ofK s parts := by
  have hb := ofK_bd (s := s) h1
  have hc := ofK_le (s := s) h1
  rw [ofK_some (by omega)] at hb hc ⊢
  exact IntWalk.wrap64_in _ ⟨by omega, by omega⟩

/-- The pairs of a part. -/
def isP (parts p : Int) (x : KV) : Bool := decide (ofK x.1 parts = p)
def onlyL (l : List KV) (parts p : Int) : List KV := l.filter (isP parts p)
theorem onlyL_len (l : List KV) (parts p : Int) : (onlyL l parts p).length ≤ l.length := List.length_filter_le _ _
theorem onlyL_take {l : List KV} {k : Nat} {x : KV} (parts p : Int) (h : l[k]? = some x) : onlyL (l.take (k + 1)) parts p = onlyL (l.take k) parts p ++ (if ofK x.1 parts = p then [x] else []) := by
  obtain ⟨hk, rfl⟩ := List.getElem?_eq_some_iff.1 h
  rw [List.take_succ_eq_append_getElem hk]
  unfold onlyL
  rw [List.filter_append]
  by_cases e : ofK l[k].1 parts = p <;> simp [isP, e]
/-- The next of a part stands where the part's have been counted to. -/
theorem onlyL_at {l : List KV} {k : Nat} {x : KV} (parts p : Int) (h : l[k]? = some x) (hp : ofK x.1 parts = p) : (onlyL l parts p)[(onlyL (l.take k) parts p).length]? = some x := by
  have e : onlyL l parts p = onlyL (l.take (k + 1)) parts p ++ onlyL (l.drop (k + 1)) parts p := by
    unfold onlyL
    rw [← List.filter_append, List.take_append_drop]
  rw [e, onlyL_take parts p h, if_pos hp, List.append_assoc, List.getElem?_append_right (Nat.le_refl _), Nat.sub_self]
  rfl
theorem onlyL_none {l : List KV} {parts p : Int} (h : ∀ x ∈ l, ofK x.1 parts ≠ p) : onlyL l parts p = [] := by
  unfold onlyL
  rw [List.filter_eq_nil_iff]
  intro x hx
  simp [isP, h x hx]
/-- How many there are in the first parts together. -/
def upTo (l : List KV) (parts : Int) : Nat → Nat
  | 0 => 0
  | p + 1 => upTo l parts p + (onlyL l parts p).length
theorem upTo_cons (x : KV) (l : List KV) (parts : Int) : ∀ p, upTo (x :: l) parts p = upTo l parts p + (if 0 ≤ ofK x.1 parts ∧ ofK x.1 parts < p then 1 else 0)
  | 0 => by
    rw [if_neg (by omega)]
    rfl
  | p + 1 => by
    show upTo (x :: l) parts p + (onlyL (x :: l) parts p).length = upTo l parts p + (onlyL l parts p).length + _
    rw [upTo_cons x l parts p]
    have e : (onlyL (x :: l) parts p).length = (onlyL l parts p).length + (if ofK x.1 parts = p then 1 else 0) := by
      unfold onlyL
      by_cases h : ofK x.1 parts = p <;> simp [isP, h]
    rw [e]
    by_cases h : ofK x.1 parts = p
    · rw [if_pos h, if_neg (by omega), if_pos (by omega)]
      omega
    · rw [if_neg h]
      by_cases h2 : 0 ≤ ofK x.1 parts ∧ ofK x.1 parts < p
      · rw [if_pos h2, if_pos (by omega)]
        omega
      · rw [if_neg h2, if_neg (by omega)]
        omega
theorem upTo_le (l : List KV) (parts : Int) : ∀ p, upTo l parts p ≤ l.length := by
  intro p
  induction l with
  | nil =>
    have : ∀ p, upTo ([] : List KV) parts p = 0 := by
      intro p
      induction p with
      | zero => rfl
      | succ p ih => show upTo [] parts p + 0 = 0; omega
    rw [this]
    exact Nat.le_refl _
  | cons x l ih =>
    rw [upTo_cons, List.length_cons]
    split <;> omega
/-- All parts together have all. -/
theorem upTo_all (l : List KV) (q : Nat) (h : 1 ≤ q) : upTo l q q = l.length := by
  induction l with
  | nil => have := upTo_le [] (q : Int) q; simpa using this
  | cons x l ih =>
    have hb := ofK_bd (s := x.1) (parts := (q : Int)) (by omega)
    rw [upTo_cons, ih, if_pos hb]
    rfl
end Go.Proofs.Ytafbofcenbfkeaa
