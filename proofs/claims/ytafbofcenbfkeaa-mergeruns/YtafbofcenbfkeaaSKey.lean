/- How the program holds two pairs against each other: byKey. -/
import Derived.Test.YtafbofcenbfkeaaSMerge
import Derived.Test.YtafbofcenbfkeaaTOver
import Derived.Test.YtafbofcenbfkeaaShelfC
import Derived.Lib.Bytealg
namespace Go.Proofs.Ytafbofcenbfkeaa
open Go.RowKit
set_option linter.unusedVariables false

theorem cmp_range : ∀ a b : List UInt8, Lib.compareBytes a b = -1 ∨ Lib.compareBytes a b = 0 ∨ Lib.compareBytes a b = 1
  | [], [] => .inr (.inl rfl)
  | [], _ :: _ => .inl rfl
  | _ :: _, [] => .inr (.inr rfl)
  | a :: x, b :: y => by
    unfold Lib.compareBytes
    split
    · exact .inl rfl
    · split
      · exact .inr (.inr rfl)
      · exact cmp_range x y
theorem cmp_less : ∀ a b : List UInt8, decide (Lib.compareBytes a b < 0) = Op.bytesLess a b
  | [], [] => rfl
  | [], _ :: _ => rfl
  | _ :: _, [] => rfl
  | a :: x, b :: y => by
    unfold Lib.compareBytes Op.bytesLess
    by_cases h : a < b
    · rw [if_pos h]; simp [h]
    · rw [if_neg h]
      by_cases k : b < a
      · rw [if_pos k]
        have hne : a ≠ b := by rintro rfl; exact h k
        simp [h, hne]
      · rw [if_neg k, cmp_less x y]
        have : a = b := UInt8.le_antisymm (UInt8.not_lt.1 k) (UInt8.not_lt.1 h)
        subst this
        simp

abbrev keyFn : Value := .func (.func 27) #[] #[]
/-- What byKey answers: a number that is below 0 just where the first key is below the second one. -/
def KeyIs (x y : ByteArray) (w : World) (e : Ending) (w' : World) : Prop := ∃ c : Int, e = .returned (.int .i64 c) ∧ decide (c < 0) = kLt x y ∧ Below w.heap.size w w'
set_option maxHeartbeats 1000000 in
theorem byKey_calls (x y : KV) (w : World) : Calls Try.prog 27 #[prV x, prV y] w (KeyIs x.1 y.1 w) := by
  have hb : Below w.heap.size w ((w.alloc (Obj.cells #[Value.string x.fst, Value.string x.snd] 45)).alloc (Obj.cells #[Value.string y.fst, Value.string y.snd] 45)) := ((Below.refl _ w).alloc (Nat.le_refl _) _).alloc (by simp) _
  have HB := hid hb
  clear hb
  go_enter Try.func27, Try.ntmps27
  go_wp2_with fail
  refine (Any.strings_Compare lays106 _ _ _).mono ?_
  rintro e w1 ⟨rfl, rfl⟩
  obtain ⟨c, hc⟩ : ∃ c, Lib.compareBytes x.1.data.toList y.1.data.toList = c := ⟨_, rfl⟩
  have HC := hid (show decide (c < 0) = kLt x.1 y.1 by rw [← hc]; exact cmp_less _ _)
  rw [hc]
  clear hc
  go_wp2
  go_ret
  exact ⟨_, rfl, HC.out, HB.out⟩
end Go.Proofs.Ytafbofcenbfkeaa
