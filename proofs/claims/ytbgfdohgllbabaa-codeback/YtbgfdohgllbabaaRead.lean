/- What ReadNum and ReadText tell, as plain functions of the bytes and the place. -/
import Derived.Test.YtbgfdohgllbabaaAwake
namespace Go.Proofs.Ytbgfdohgllbabaa
open Go.RowKit
set_option linter.unusedVariables false

/-- There is no number at that place. -/
def noNum (l : List Int) (i : Int) : Prop := i < 0 ∨ (l.length : Int) - 8 < i
instance (l : List Int) (i : Int) : Decidable (noNum l i) := by unfold noNum; exact inferInstance
def numAt (l : List Int) (i : Int) : Int := num8 ((l.drop i.toNat).take 8)
def rdNum (l : List Int) (i : Int) : Int × Int × Bool := if noNum l i then (0, 0, false) else (numAt l i, i + 8, true)
/-- There is no text at that place. -/
def noText (l : List Int) (i : Int) : Prop := noNum l i ∨ numAt l i < 0 ∨ (l.length : Int) - (i + 8) < numAt l i
instance (l : List Int) (i : Int) : Decidable (noText l i) := by unfold noText; exact inferInstance
def rdText (l : List Int) (i : Int) : ByteArray × Int × Bool := if noText l i then (⟨#[]⟩, 0, false) else (strOfNums ((l.drop (i.toNat + 8)).take (numAt l i).toNat), i + 8 + numAt l i, true)

theorem readnum_any (b : Value) (l : List Int) (i : Int) (w : World) (hb : Bs w b l) (hB : Byt l) :
    Calls Try.prog 17 #[b, .int .i64 i] w fun e w' => e = .returned (.tuple #[.int .i64 (rdNum l i).1, .int .i64 (rdNum l i).2.1, .bool (rdNum l i).2.2]) ∧ w = w' := by
  by_cases h : noNum l i
  · rw [rdNum, if_pos h]; exact readnum_no b l i w hb h
  · rw [rdNum, if_neg h]
    unfold noNum at h
    obtain ⟨k, rfl⟩ := Int.eq_ofNat_of_zero_le (show 0 ≤ i by omega)
    exact readnum_yes b l k w hb hB (by omega)

theorem readtext_all (b : Value) (l : List Int) (i : Int) (w : World) (hb : Bs w b l) (hB : Byt l) :
    Calls Try.prog 19 #[b, .int .i64 i] w fun e w' => e = .returned (.tuple #[.string (rdText l i).1, .int .i64 (rdText l i).2.1, .bool (rdText l i).2.2]) ∧ w = w' := by
  by_cases h : noText l i
  · rw [rdText, if_pos h]
    by_cases h0 : noNum l i
    · exact readtext_no b l i w hb h0
    · unfold noText at h
      have h2 := h.resolve_left h0
      unfold noNum at h0
      obtain ⟨k, rfl⟩ := Int.eq_ofNat_of_zero_le (show 0 ≤ i by omega)
      exact readtext_short b l k w hb hB (by omega) h2
  · rw [rdText, if_neg h]
    unfold noText noNum at h
    obtain ⟨k, rfl⟩ := Int.eq_ofNat_of_zero_le (show 0 ≤ i by omega)
    obtain ⟨n, hn⟩ := Int.eq_ofNat_of_zero_le (show 0 ≤ numAt l k by omega)
    rw [hn]
    exact readtext_yes b l k n w hb hB (by omega) hn

theorem Bs.take {w : World} {ao : Option Addr} {n cap : Nat} {l : List Int} (h : Bs w (.slice ao n cap) l) (k : Nat) (hk : k ≤ n) : Bs w (.slice ao k cap) (l.take k) := by
  obtain ⟨ao', ca, hv, a1, a2, a3, a4⟩ := h
  cases hv
  have hl : (l.take k).length = k := by rw [List.length_take]; omega
  refine ⟨ao, cap, by rw [hl], by rw [hl]; omega, a2, fun e => ⟨by rw [(a3 e).1]; simp, (a3 e).2⟩, fun hne => ?_⟩
  obtain ⟨b, off, rfl, hb, hc⟩ := a4 (by intro e; rw [e] at hne; simp at hne)
  refine ⟨b, off, rfl, hb, fun j hj => ?_⟩
  rw [hl] at hj
  rw [hc j (by omega)]
  simp [List.getD, hj]

end Go.Proofs.Ytbgfdohgllbabaa
