/- Ack of a window, of the program and of the document's own. -/
import Derived.Test.YtaobiohdhdklaaaWnOps
namespace Go.Proofs.Ytaobiohdhdklaaa
open Go.RowKit
set_option linter.unusedVariables false
/-- How a walk spells it. -/
theorem clip_is (x : WinV) (n : Int) : ∃ m k : Int, (if n < 0 then (0 : Int) else n) = m ∧ (if x.count < m then x.count else m) = k ∧ clipW x n = k := by
  refine ⟨_, _, rfl, rfl, ?_⟩
  unfold clipW
  split <;> split <;> omega
/-- Its block, turned. -/
theorem Wn.turn {T b : Nat} {x : WinV} {w : World} (h : Wn T b x w) (e n : Int) : Wn T b { x with epoch := e, next := n } ((w.setCell ⟨b, 2, none⟩ (.int .i64 e)).setCell ⟨b, 3, none⟩ (.int .i64 n)) := set_same (set_same h)
theorem Wn.turn1 {T b : Nat} {x : WinV} {w : World} (h : Wn T b x w) (n : Int) : Wn T b { x with next := n } (w.setCell ⟨b, 3, none⟩ (.int .i64 n)) := set_same h
set_option maxHeartbeats 2000000 in
theorem ack_any (b : Nat) (x : WinV) (e n : Int) (w : World) (h : Wn 47 b x w) (hx : WinOk x) :
    Calls Try.prog 11 #[.pointer (some ⟨b, 0, none⟩), .int .i64 e, .int .i64 n] w fun r w' => r = .returned (.bool (ackB x e n)) ∧ Wn 47 b (ackW x e n) w' ∧ Sav (Just b) w w' := by
  have H := hid h
  have c0 := h.c0
  have c2 := h.c2
  have c3 := h.c3
  have f2 := h.free 2
  have f3 := h.free 3
  obtain ⟨m, k, hm, hk, hc⟩ := clip_is x n
  have HC := hid hc
  clear h hc
  by_cases h1 : e < 1
  · have HB := hid (ackB_old (w := x) (e := e) (n := n) (.inl h1))
    have d1 : decide (e < 1) = true := by simp; omega
    clear h1 hx
    go_enter Try.func11, Try.ntmps11
    go_wp2
    go_ret
    rw [HB.out.1, HB.out.2]
    exact ⟨rfl, H.out, Sav.refl _ _⟩
  · have d1 : decide (e < 1) = false := by simp; omega
    by_cases h2 : e < x.epoch
    · have HB := hid (ackB_old (w := x) (e := e) (n := n) (.inr h2))
      have d2 : decide (e < x.epoch) = true := by simp; omega
      clear h1 h2 hx
      go_enter Try.func11, Try.ntmps11
      go_wp2
      go_ret
      rw [HB.out.1, HB.out.2]
      exact ⟨rfl, H.out, Sav.refl _ _⟩
    · have d2 : decide (e < x.epoch) = false := by simp; omega
      by_cases h3 : e = x.epoch
      · have HB := hid (ackB_same (w := x) (e := e) (n := n) (by omega) h3.symm)
        rw [HC.out] at HB
        have d3 : (e == x.epoch) = true := by simpa using h3
        have d5 : decide (x.epoch < e) = false := by simp; omega
        have HE := hid h3
        clear h1 h2 h3 hx
        by_cases h4 : x.next < k
        · have HB2 := hid (show ackB x e n = true ∧ ackW x e n = { x with next := k } from by have h5 := HB.out; rw [if_pos h4] at h5; exact ⟨h5.1.trans (by simpa using h4), h5.2⟩)
          have d4 : decide (k ≤ x.next) = false := by simp; omega
          clear h4
          go_enter Try.func11, Try.ntmps11
          go_wp2
          go_ret
          rw [HB2.out.1, HB2.out.2]
          refine ⟨rfl, ?_, ((Sav.refl _ _).setCell (just b) 2 _).setCell (just b) 3 _⟩
          have := H.out.turn e k
          rw [HE.out] at this ⊢
          exact this
        · have HB2 := hid (show ackB x e n = false ∧ ackW x e n = x from by have h5 := HB.out; rw [if_neg h4] at h5; exact ⟨h5.1.trans (by simpa using h4), h5.2⟩)
          have d4 : decide (k ≤ x.next) = true := by simp; omega
          clear h4
          go_enter Try.func11, Try.ntmps11
          go_wp2
          go_ret
          rw [HB2.out.1, HB2.out.2]
          exact ⟨rfl, H.out, Sav.refl _ _⟩
      · have HB := hid (ackB_new (w := x) (e := e) (n := n) (by omega) (by omega))
        rw [HC.out] at HB
        have d3 : (e == x.epoch) = false := by simpa using h3
        have d5 : decide (x.epoch < e) = true := by simp; omega
        clear h1 h2 h3 hx
        go_enter Try.func11, Try.ntmps11
        go_wp2
        go_ret
        rw [HB.out.1, HB.out.2]
        exact ⟨rfl, H.out.turn e k, ((Sav.refl _ _).setCell (just b) 2 _).setCell (just b) 3 _⟩
set_option maxHeartbeats 2000000 in
theorem refAck_any (b : Nat) (x : WinV) (e n : Int) (w : World) (h : Wn 40 b x w) (hx : WinOk x) :
    Calls Try.prog 12 #[.pointer (some ⟨b, 0, none⟩), .int .i64 e, .int .i64 n] w fun r w' => r = .returned (.bool (ackB x e n)) ∧ Wn 40 b (ackW x e n) w' ∧ Sav (Just b) w w' := by
  have H := hid h
  have c0 := h.c0
  have c2 := h.c2
  have c3 := h.c3
  have f2 := h.free 2
  have f3 := h.free 3
  obtain ⟨m, k, hm, hk, hc⟩ := clip_is x n
  have HC := hid hc
  clear h hc
  by_cases h1 : e < 1
  · have HB := hid (ackB_old (w := x) (e := e) (n := n) (.inl h1))
    have d1 : decide (e < 1) = true := by simp; omega
    clear h1 hx
    go_enter Try.func12, Try.ntmps12
    go_wp2
    go_ret
    rw [HB.out.1, HB.out.2]
    exact ⟨rfl, H.out, Sav.refl _ _⟩
  · have d1 : decide (e < 1) = false := by simp; omega
    by_cases h2 : e < x.epoch
    · have HB := hid (ackB_old (w := x) (e := e) (n := n) (.inr h2))
      have d2 : decide (e < x.epoch) = true := by simp; omega
      clear h1 h2 hx
      go_enter Try.func12, Try.ntmps12
      go_wp2
      go_ret
      rw [HB.out.1, HB.out.2]
      exact ⟨rfl, H.out, Sav.refl _ _⟩
    · have d2 : decide (e < x.epoch) = false := by simp; omega
      by_cases h3 : e = x.epoch
      · have HB := hid (ackB_same (w := x) (e := e) (n := n) (by omega) h3.symm)
        rw [HC.out] at HB
        have d3 : (e == x.epoch) = true := by simpa using h3
        have d5 : decide (x.epoch < e) = false := by simp; omega
        have HE := hid h3
        clear h1 h2 h3 hx
        by_cases h4 : x.next < k
        · have HB2 := hid (show ackB x e n = true ∧ ackW x e n = { x with next := k } from by have h5 := HB.out; rw [if_pos h4] at h5; exact ⟨h5.1.trans (by simpa using h4), h5.2⟩)
          have d4 : decide (k ≤ x.next) = false := by simp; omega
          clear h4
          go_enter Try.func12, Try.ntmps12
          go_wp2
          go_ret
          rw [HB2.out.1, HB2.out.2]
          exact ⟨rfl, H.out.turn1 k, (Sav.refl _ _).setCell (just b) 3 _⟩
        · have HB2 := hid (show ackB x e n = false ∧ ackW x e n = x from by have h5 := HB.out; rw [if_neg h4] at h5; exact ⟨h5.1.trans (by simpa using h4), h5.2⟩)
          have d4 : decide (k ≤ x.next) = true := by simp; omega
          clear h4
          go_enter Try.func12, Try.ntmps12
          go_wp2
          go_ret
          rw [HB2.out.1, HB2.out.2]
          exact ⟨rfl, H.out, Sav.refl _ _⟩
      · have HB := hid (ackB_new (w := x) (e := e) (n := n) (by omega) (by omega))
        rw [HC.out] at HB
        have d3 : (e == x.epoch) = false := by simpa using h3
        have d5 : decide (x.epoch < e) = true := by simp; omega
        clear h1 h2 h3 hx
        go_enter Try.func12, Try.ntmps12
        go_wp2
        go_ret
        rw [HB.out.1, HB.out.2]
        exact ⟨rfl, H.out.turn e k, ((Sav.refl _ _).setCell (just b) 2 _).setCell (just b) 3 _⟩
end Go.Proofs.Ytaobiohdhdklaaa
