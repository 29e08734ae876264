/- What the document's own Tally does (chapter 2). -/
import Derived.Test.YtpaglpcponkabaaTal
import Derived.RegionTactic
import Derived.BigRegion
namespace Go.Proofs.Ytpaglpcponkabaa
open Go.RowKit
set_option linter.unusedVariables false
theorem Tl.drewN {w : World} {b : Nat} {c : List Int} (h : Tl w b c) (n : Nat) : Tl (w.drewN n) b c := h
theorem Tl.drew {w : World} {b : Nat} {c : List Int} (h : Tl w b c) : Tl w.drew b c := h

set_option maxHeartbeats 1000000 in
theorem rraise_any (b : Nat) (i n : Int) (c : List Int) (w : World) (hc : Tl w b c) : Calls Try.prog 10 #[.pointer (some ⟨b, 0, none⟩), .int .i64 i, .int .i64 n] w fun e w' => e = .returned (.int .i64 (vl (raiseC c i n) i)) ∧ Tl w' b (raiseC c i n) ∧ But b w w' := by
  have hb := hc.2.1
  have hl := hc.1
  by_cases hi : 0 ≤ i ∧ i < 8
  · obtain ⟨hi0, hi8⟩ := hi
    obtain ⟨k, rfl⟩ := Int.eq_ofNat_of_zero_le hi0
    have hk : k < 8 := by omega
    have h7 : ¬ (7 : Int) < k := by omega
    have hcell := (hc.2.2 k hk).1
    have hfz := (hc.2.2 k hk).2
    have HT := hid (fun x => hc.set k hk x)
    by_cases h1 : n ≤ 1099511627776
    · rw [raiseC_yes k hk h1, vl_set hl k _ hk]
      clear hc hl
      generalize c.getD k 0 = x at *
      by_cases hxn : x < n
      · rw [show max x n = n by omega]
        go_enter Try.func10, Try.ntmps10
        go_wp2
        go_region
        go_wp2
        go_ret
        exact ⟨rfl, (HT.out _).drew, (But.setCell _ _ _).drew⟩
      · rw [show max x n = x by omega]
        go_enter Try.func10, Try.ntmps10
        go_wp2
        go_region
        go_wp2
        go_ret
        exact ⟨rfl, (HT.out _).drew, (But.setCell _ _ _).drew⟩
    · rw [raiseC_no (fun h => h1 h.2), vl_at k hk]
      have HC := hid hc
      clear hc hl
      generalize c.getD k 0 = x at *
      go_enter Try.func10, Try.ntmps10
      go_wp2
      go_ret
      exact ⟨rfl, HC.out, But.refl _ _⟩
  · rw [raiseC_no (fun h => hi h.1), vl_no hi]
    have HC := hid hc
    clear hc hl
    by_cases h0 : i < 0
    · go_enter Try.func10, Try.ntmps10
      go_wp2
      go_ret
      exact ⟨rfl, HC.out, But.refl _ _⟩
    · have h7 : (7 : Int) < i := by omega
      go_enter Try.func10, Try.ntmps10
      go_wp2
      go_ret
      exact ⟨rfl, HC.out, But.refl _ _⟩

set_option maxHeartbeats 1000000 in
theorem radd_any (b : Nat) (i n : Int) (c : List Int) (w : World) (hc : Tl w b c) (hC : Cts c) : Calls Try.prog 12 #[.pointer (some ⟨b, 0, none⟩), .int .i64 i, .int .i64 n] w fun e w' => e = .returned (.int .i64 (vl (addC c i n) i)) ∧ Tl w' b (addC c i n) ∧ But b w w' := by
  have hb := hc.2.1
  have hl := hc.1
  by_cases hi : 0 ≤ i ∧ i < 8
  · obtain ⟨hi0, hi8⟩ := hi
    obtain ⟨k, rfl⟩ := Int.eq_ofNat_of_zero_le hi0
    have hk : k < 8 := by omega
    have h7 : ¬ (7 : Int) < k := by omega
    have hcell := (hc.2.2 k hk).1
    have hfz := (hc.2.2 k hk).2
    have HT := hid (fun x => hc.set k hk x)
    obtain ⟨hx0, hx1⟩ := hC k
    by_cases h0 : 0 < n
    · by_cases h1 : n ≤ 1099511627776
      · rw [addC_yes k hk (by omega) h1, vl_set hl k _ hk]
        clear hc hl hC
        generalize c.getD k 0 = x at *
        by_cases hxn : 1099511627776 < x + n
        · rw [show min (x + n) 1099511627776 = 1099511627776 by omega]
          go_enter Try.func12, Try.ntmps12
          go_wp2
          go_region
          go_wp2
          go_ret
          exact ⟨rfl, (HT.out _).drew, (But.setCell _ _ _).drew⟩
        · rw [show min (x + n) 1099511627776 = x + n by omega]
          go_enter Try.func12, Try.ntmps12
          go_wp2
          go_region
          go_wp2
          go_ret
          exact ⟨rfl, (HT.out _).drew, (But.setCell _ _ _).drew⟩
      · rw [addC_no (fun h => h1 h.2.2), vl_at k hk]
        have HC := hid hc
        clear hc hl hC
        generalize c.getD k 0 = x at *
        go_enter Try.func12, Try.ntmps12
        go_wp2
        go_ret
        exact ⟨rfl, HC.out, But.refl _ _⟩
    · have e : addC c k n = c := by
        by_cases hn : n = 0
        · subst hn
          rw [addC_yes k hk (by omega) (by omega), show min (c.getD k 0 + 0) 1099511627776 = c.getD k 0 by omega]
          simp [List.getD, List.getElem?_eq_getElem (show k < c.length by omega)]
        · exact addC_no (by omega)
      rw [e, vl_at k hk]
      have HC := hid hc
      clear hc hl hC e
      generalize c.getD k 0 = x at *
      go_enter Try.func12, Try.ntmps12
      go_wp2
      go_ret
      exact ⟨rfl, HC.out, But.refl _ _⟩
  · rw [addC_no (fun h => hi h.1), vl_no hi]
    have HC := hid hc
    clear hc hl hC
    by_cases h0 : i < 0
    · go_enter Try.func12, Try.ntmps12
      go_wp2
      go_ret
      exact ⟨rfl, HC.out, But.refl _ _⟩
    · have h7 : (7 : Int) < i := by omega
      go_enter Try.func12, Try.ntmps12
      go_wp2
      go_ret
      exact ⟨rfl, HC.out, But.refl _ _⟩
end Go.Proofs.Ytpaglpcponkabaa
