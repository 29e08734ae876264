/- What GreatTexts answers. -/
import Derived.Test.YtbgfdohgllbabaaOpen
import Derived.Test.YtbgfdohgllbabaaLays
namespace Go.Proofs.Ytbgfdohgllbabaa
open Go.RowKit
set_option linter.unusedVariables false

/-- Texts as a slice. -/
def Ss (w : World) (v : Value) (ts : List ByteArray) : Prop := Sl (fun j => .string (ts.getD j ByteArray.empty)) w v ts.length
/-- Numbers as a slice. -/
def Is (w : World) (v : Value) (ns : List Int) : Prop := Sl (fun j => .int .i64 (ns.getD j 0)) w v ns.length

set_option maxHeartbeats 400000 in
theorem great_yes (v : Value) (ts : List ByteArray) (most : Nat) (w : World) (hv : Ss w v ts) (hm : most ≤ 1000) (h : most < ts.length ∨ ∃ j, j < ts.length ∧ 100 < (ts.getD j ByteArray.empty).size) (hsz : ∀ s ∈ ts, s.size ≤ maxLen) :
    Calls Try.prog 21 #[v, .int .i64 most] w fun e w' => e = .returned (.bool true) ∧ w = w' := by
  obtain ⟨ao, cap, rfl, h1, h2, h3, h4⟩ := hv
  unfold maxLen at h2
  by_cases hlen : most < ts.length
  · clear h3 h4 h hsz
    have e1 : decide ((ts.length : Int) ≤ (most : Int)) = false := by simp; omega
    have e2 : decide ((most : Int) < (ts.length : Int)) = true := by simp; omega
    go_enter Try.func21, Try.ntmps21
    go_wp2
    go_loop [5] (fun i => i = .int .i64 0) (fun _ => 0)
    case atStart => rfl
    case round =>
      subst hrel
      have e0 : decide ((0 : Int) < (ts.length : Int)) = true := by simp; omega
      go_wp2
      go_ret
      exact ⟨rfl, rfl⟩
  · obtain ⟨j0, hj0, hj1⟩ := h.resolve_left hlen
    obtain ⟨b, off, rfl, hb, hc⟩ := h4 (by omega)
    have e1 : decide ((ts.length : Int) ≤ (most : Int)) = true := by simp; omega
    have hts : ts.length ≤ 1000 := by omega
    have HS := hid hsz
    have HJ := hid hj1
    clear h3 h4 h hsz hj1
    go_enter Try.func21, Try.ntmps21
    go_wp2
    go_loop [5] (fun i => ∃ k : Nat, k ≤ j0 ∧ i = .int .i64 k) (fun i => j0 + 1 - (intOf i).toNat)
    case atStart => exact ⟨0, by omega, rfl⟩
    case round =>
      obtain ⟨k, hk, rfl⟩ := hrel
      obtain ⟨s, hs⟩ : ∃ s, ts.getD k ByteArray.empty = s := ⟨_, rfl⟩
      have hss : s.size ≤ maxLen := by
        rw [← hs]
        have hk' : k < ts.length := by omega
        rw [List.getD, List.getElem?_eq_getElem hk']
        exact HS.out _ (List.getElem_mem hk')
      unfold maxLen at hss
      have c1 : w.cell? ⟨b, off + k, none⟩ = some (.string s) := by rw [← hs]; exact hc k (by omega)
      have HX := hid hs
      have hkl : k < ts.length := by omega
      clear hs hc
      by_cases hg : 100 < s.size
      · go_wp2
        go_ret
        exact ⟨rfl, rfl⟩
      · have hne : k ≠ j0 := by intro e; subst e; have := HJ.out; rw [HX.out] at this; omega
        go_wp2
        go_round
        case rel => exact ⟨k + 1, by omega, by go_num⟩
        case measure => simp [intOf]; omega

set_option maxHeartbeats 400000 in
theorem great_no (v : Value) (ts : List ByteArray) (most : Nat) (w : World) (hv : Ss w v ts) (hm : most ≤ 1000) (hlen : ts.length ≤ most) (hsz : ∀ s ∈ ts, s.size ≤ 100) :
    Calls Try.prog 21 #[v, .int .i64 most] w fun e w' => e = .returned (.bool false) ∧ w = w' := by
  obtain ⟨ao, cap, rfl, h1, h2, h3, h4⟩ := hv
  unfold maxLen at h2
  have e1 : decide ((ts.length : Int) ≤ (most : Int)) = true := by simp; omega
  have H2 : Hid (decide (most < ts.length) = false) := by show decide (most < ts.length) = false; simp; omega
  have H4 := hid h4
  have HS := hid hsz
  clear h3 h4 hsz
  go_enter Try.func21, Try.ntmps21
  go_wp2
  go_loop [5] (fun i => ∃ k : Nat, k ≤ ts.length ∧ i = .int .i64 k) (fun i => ts.length - (intOf i).toNat)
  case atStart => exact ⟨0, by omega, rfl⟩
  case round =>
    obtain ⟨k, hk, rfl⟩ := hrel
    by_cases hlt : k < ts.length
    · obtain ⟨b, off, hao, hb, hc⟩ := H4.out (by omega)
      obtain ⟨s, hs⟩ : ∃ s, ts.getD k ByteArray.empty = s := ⟨_, rfl⟩
      have hss : s.size ≤ 100 := by
        rw [← hs, List.getD, List.getElem?_eq_getElem hlt]
        exact HS.out _ (List.getElem_mem hlt)
      have c1 : w.cell? ⟨b, off + k, none⟩ = some (.string s) := by rw [← hs]; exact hc k (by omega)
      clear hs hc
      subst hao
      go_wp2
      go_round
      case rel => exact ⟨k + 1, by omega, by go_num⟩
      case measure => simp [intOf]; omega
    · go_wp2
      go_ret
      exact ⟨by rw [H2.out]; rfl, rfl⟩
end Go.Proofs.Ytbgfdohgllbabaa
