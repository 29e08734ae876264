/- What the program's ReadNum and ReadText tell, as plain functions of the bytes and the place. -/
import Derived.Test.YtpkobobandcclaaSame
import Derived.Test.YtpkobobandcclaaRdMath
namespace Go.Proofs.Ytpkobobandcclaa
open Go.RowKit
set_option linter.unusedVariables false

theorem readnum_any (b : Value) (l : List Int) (i : Int) (w : World) (hb : Bs w b l) (hB : Byt l) :
    Calls Try.prog 53 #[b, .int .i64 i] w fun e w' => e = .returned (.tuple #[.int .i64 (rdNum l i).1, .int .i64 (rdNum l i).2.1, .bool (rdNum l i).2.2]) ∧ w = w' := by
  by_cases h : noNum l i
  · rw [rdNum, if_pos h]; exact readnum_no b l i w hb h
  · rw [rdNum, if_neg h]
    unfold noNum at h
    obtain ⟨k, rfl⟩ := Int.eq_ofNat_of_zero_le (show 0 ≤ i by omega)
    exact readnum_yes b l k w hb hB (by omega)

theorem readtext_all (b : Value) (l : List Int) (i : Int) (w : World) (hb : Bs w b l) (hB : Byt l) :
    Calls Try.prog 70 #[b, .int .i64 i] w fun e w' => e = .returned (.tuple #[.string (rdText l i).1, .int .i64 (rdText l i).2.1, .bool (rdText l i).2.2]) ∧ w = w' := by
  by_cases h : noText l i
  · rw [rdText, if_pos h]
    by_cases h0 : noNum l i
    · exact readtext_no b l i w hb h0
    · unfold noText at h
      have h2 := h.resolve_left h0
      unfold noNum at h0
      obtain ⟨k, rfl⟩ := Int.eq_ofNat_of_zero_le (show 0 ≤ i by omega)
      exact readtext_short b l k w hb hB (by omega) h2
  · rw [rdText, if_neg h]
    unfold noText noNum at h
    obtain ⟨k, rfl⟩ := Int.eq_ofNat_of_zero_le (show 0 ≤ i by omega)
    obtain ⟨n, hn⟩ := Int.eq_ofNat_of_zero_le (show 0 ≤ numAt l k by omega)
    rw [hn]
    exact readtext_yes b l k n w hb hB (by omega) hn

end Go.Proofs.Ytpkobobandcclaa
