/- What SameInts and OverInts do. -/
import Derived.Test.YtpnjjiibcllgiaaIntsP
namespace Go.Proofs.Ytpnjjiibcllgiaa
open Go.RowKit
set_option linter.unusedVariables false
theorem take_step {l m : List Int} {k : Nat} (h : l.take k = m.take k) (hl : l.length = m.length) (hk : k < l.length) (he : l.getD k 0 = m.getD k 0) : l.take (k + 1) = m.take (k + 1) := by
  rw [List.take_succ_eq_append_getElem hk, List.take_succ_eq_append_getElem (by omega), h]
  simp [List.getD, List.getElem?_eq_getElem hk, List.getElem?_eq_getElem (show k < m.length by omega)] at he
  rw [he]
set_option maxHeartbeats 400000 in
theorem sameInts_any (a b : Value) (l m : List Int) (w : World) (ha : Is w a l) (hb : Is w b m) :
    Calls Try.prog 21 #[a, b] w fun e w' => e = .returned (.bool (decide (l = m))) ∧ ∃ n, w' = w.drewN n := by
  obtain ⟨ao, ca, rfl, a1, a2, a3, a4⟩ := ha
  obtain ⟨bo, cb, rfl, b1, b2, b3, b4⟩ := hb
  unfold maxLen at a2 b2
  by_cases hlen : l.length = m.length
  · by_cases hl : l = []
    · subst hl
      have hm0 : m = [] := List.eq_nil_of_length_eq_zero (by simpa using hlen.symm)
      subst hm0
      clear a3 a4 b3 b4
      go_enter Try.func21, Try.ntmps21
      go_wp2
      go_loop [5] (fun i => i = .int .i64 0) (fun _ => 0)
      case atStart => rfl
      case round =>
        subst hrel
        go_wp2
        go_ret
        exact ⟨by simp, 0, rfl⟩
    · have hm : m ≠ [] := by intro e; rw [e] at hlen; exact hl (List.eq_nil_of_length_eq_zero (by simpa using hlen))
      obtain ⟨p, po, rfl, hp, hpc⟩ := a4 hl
      obtain ⟨q, qo, rfl, hq, hqc⟩ := b4 hm
      have HL : Hid (l.length = m.length) := hlen
      have e1 : ((l.length : Int) != (m.length : Int)) = false := by simp; omega
      have hle : l.length ≤ m.length := by omega
      clear a3 b3 a4 b4 hl hm hlen
      go_enter Try.func21, Try.ntmps21
      go_wp2
      go_loopw [5] (fun i wr => ∃ k : Nat, k ≤ l.length ∧ i = .int .i64 k ∧ l.take k = m.take k ∧ ∃ t, wr = w.drewN t) (fun i _ => l.length - (intOf i).toNat)
      case atStart => exact ⟨0, by omega, rfl, rfl, 0, rfl⟩
      case round =>
        obtain ⟨k, hk, rfl, htk, t, rfl⟩ := hrel
        have HT : Hid (l.take k = m.take k) := htk
        clear htk
        by_cases hlt : k < l.length
        · obtain ⟨x, hx⟩ : ∃ x, l.getD k 0 = x := ⟨_, rfl⟩
          obtain ⟨y, hy⟩ : ∃ y, m.getD k 0 = y := ⟨_, rfl⟩
          have c1 : w.cell? ⟨p, po + k, none⟩ = some (.int .i64 x) := by rw [← hx]; exact hpc k hlt
          have c2 : w.cell? ⟨q, qo + k, none⟩ = some (.int .i64 y) := by rw [← hy]; exact hqc k (by omega)
          have HX : Hid (l.getD k 0 = x) := hx
          have HY : Hid (m.getD k 0 = y) := hy
          clear hx hy hpc hqc
          have hlm : k < m.length := by omega
          by_cases hxy : x = y
          · have e2 : (x != y) = false := by simpa using hxy
            have HE : Hid (x = y) := hxy
            clear hxy
            go_wp2
            go_quiet (fail)
            go_wp2
            go_roundw
            case rel => exact ⟨k + 1, by omega, by go_num, take_step HT.out HL.out hlt (by rw [HX.out, HY.out, HE.out]), _, rfl⟩
            case measure => simp [intOf]; omega
          · have e2 : (x != y) = true := by simpa using hxy
            have e3 : decide (l = m) = false := by simp; intro e; apply hxy; rw [← HX.out, ← HY.out, e]
            have H3 : Hid (decide (l = m) = false) := e3
            clear hxy e3
            go_wp2
            go_quiet (fail)
            go_wp2
            go_ret
            exact ⟨by rw [H3.out]; rfl, _, World.drewN_drewN ..⟩
        · obtain rfl : k = l.length := by omega
          have e3 : decide (l = m) = true := by
            have h1 := HT.out
            rw [List.take_length, HL.out, List.take_length] at h1
            simpa using h1
          have H3 : Hid (decide (l = m) = true) := e3
          clear e3 hpc hqc
          go_wp2
          go_ret
          exact ⟨by rw [H3.out]; rfl, _, rfl⟩
  · have e0 : decide (l = m) = false := by simp; intro e; exact hlen (by rw [e])
    have e1 : ((l.length : Int) != (m.length : Int)) = true := by simp; omega
    rw [e0]
    clear e0 a3 a4 b3 b4
    go_enter Try.func21, Try.ntmps21
    go_wp2
    go_ret
    exact ⟨rfl, 0, rfl⟩

theorem own_cell {w : World} {base e g n cap : Nat} {xs : List Value} (h : w.ownsRow base e 1 (.slice (some ⟨g, 0, none⟩) n cap) n xs) {j : Nat} (hj : j < n) : ∃ x, w.cell? ⟨g, j, none⟩ = some x := by
  have hl : xs.length = n := by have := h.1; omega
  exact ⟨xs[j]'(by omega), by rw [h.cellAt j (by omega), List.getElem?_eq_getElem (by omega)]⟩

theorem grown_trans {w w1 w2 : World} {r : Option Nat} (h : w.grownBy w1 r) (k : w1.grownBy w2 r) : w.grownBy w2 r :=
  ⟨k.os.trans h.os, k.tape.trans h.tape, k.output.trans h.output, Nat.le_trans h.size k.size, fun i hi hr => (k.block i (Nat.lt_of_lt_of_le hi h.size) hr).trans (h.block i hi hr)⟩
theorem grown_alloc (w : World) (o : Obj) (r : Option Nat) : w.grownBy (w.alloc o) r :=
  ⟨rfl, rfl, rfl, by simp, fun k hk _ => Below.heap_alloc _ _ _ hk⟩

end Go.Proofs.Ytpnjjiibcllgiaa
