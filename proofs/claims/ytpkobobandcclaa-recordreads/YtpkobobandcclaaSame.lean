/- What SameBytes, ReadNum and ReadText do. -/
import Derived.Test.YtpkobobandcclaaNum
import Derived.Deep.QuietTactic
import Derived.BigQuiet
namespace Go.Proofs.Ytpkobobandcclaa
open Go.RowKit
set_option linter.unusedVariables false
theorem take_step {l m : List Int} {k : Nat} (h : l.take k = m.take k) (hl : l.length = m.length) (hk : k < l.length) (he : l.getD k 0 = m.getD k 0) : l.take (k + 1) = m.take (k + 1) := by
  rw [List.take_succ_eq_append_getElem hk, List.take_succ_eq_append_getElem (by omega), h]
  simp [List.getD, List.getElem?_eq_getElem hk, List.getElem?_eq_getElem (show k < m.length by omega)] at he
  rw [he]
set_option maxHeartbeats 400000 in
theorem same_any (a b : Value) (l m : List Int) (w : World) (ha : Bs w a l) (hb : Bs w b m) :
    Calls Try.prog 10 #[a, b] w fun e w' => e = .returned (.bool (decide (l = m))) ∧ ∃ n, w' = w.drewN n := by
  obtain ⟨ao, ca, rfl, a1, a2, a3, a4⟩ := ha
  obtain ⟨bo, cb, rfl, b1, b2, b3, b4⟩ := hb
  unfold maxLen at a2 b2
  by_cases hlen : l.length = m.length
  · by_cases hl : l = []
    · subst hl
      have hm0 : m = [] := List.eq_nil_of_length_eq_zero (by simpa using hlen.symm)
      subst hm0
      clear a3 a4 b3 b4
      go_enter Try.func10, Try.ntmps10
      go_wp2
      go_loop [5] (fun i => i = .int .i64 0) (fun _ => 0)
      case atStart => rfl
      case round =>
        subst hrel
        go_wp2
        go_ret
        exact ⟨by simp, 0, rfl⟩
    · have hm : m ≠ [] := by intro e; rw [e] at hlen; exact hl (List.eq_nil_of_length_eq_zero (by simpa using hlen))
      obtain ⟨p, po, rfl, hp, hpc⟩ := a4 hl
      obtain ⟨q, qo, rfl, hq, hqc⟩ := b4 hm
      have HL : Hid (l.length = m.length) := hlen
      have e1 : ((l.length : Int) != (m.length : Int)) = false := by simp; omega
      have hle : l.length ≤ m.length := by omega
      clear a3 b3 a4 b4 hl hm hlen
      go_enter Try.func10, Try.ntmps10
      go_wp2
      go_loopw [5] (fun i wr => ∃ k : Nat, k ≤ l.length ∧ i = .int .i64 k ∧ l.take k = m.take k ∧ ∃ t, wr = w.drewN t) (fun i _ => l.length - (intOf i).toNat)
      case atStart => exact ⟨0, by omega, rfl, rfl, 0, rfl⟩
      case round =>
        obtain ⟨k, hk, rfl, htk, t, rfl⟩ := hrel
        have HT : Hid (l.take k = m.take k) := htk
        clear htk
        by_cases hlt : k < l.length
        · obtain ⟨x, hx⟩ : ∃ x, l.getD k 0 = x := ⟨_, rfl⟩
          obtain ⟨y, hy⟩ : ∃ y, m.getD k 0 = y := ⟨_, rfl⟩
          have c1 : w.cell? ⟨p, po + k, none⟩ = some (.int .u8 x) := by rw [← hx]; exact hpc k hlt
          have c2 : w.cell? ⟨q, qo + k, none⟩ = some (.int .u8 y) := by rw [← hy]; exact hqc k (by omega)
          have HX : Hid (l.getD k 0 = x) := hx
          have HY : Hid (m.getD k 0 = y) := hy
          clear hx hy hpc hqc
          have hlm : k < m.length := by omega
          by_cases hxy : x = y
          · have e2 : (x != y) = false := by simpa using hxy
            have HE : Hid (x = y) := hxy
            clear hxy
            go_wp2
            go_quiet (fail)
            go_wp2
            go_roundw
            case rel => exact ⟨k + 1, by omega, by go_num, take_step HT.out HL.out hlt (by rw [HX.out, HY.out, HE.out]), _, rfl⟩
            case measure => simp [intOf]; omega
          · have e2 : (x != y) = true := by simpa using hxy
            have e3 : decide (l = m) = false := by simp; intro e; apply hxy; rw [← HX.out, ← HY.out, e]
            have H3 : Hid (decide (l = m) = false) := e3
            clear hxy e3
            go_wp2
            go_quiet (fail)
            go_wp2
            go_ret
            exact ⟨by rw [H3.out]; rfl, _, World.drewN_drewN ..⟩
        · obtain rfl : k = l.length := by omega
          have e3 : decide (l = m) = true := by
            have h1 := HT.out
            rw [List.take_length, HL.out, List.take_length] at h1
            simpa using h1
          have H3 : Hid (decide (l = m) = true) := e3
          clear e3 hpc hqc
          go_wp2
          go_ret
          exact ⟨by rw [H3.out]; rfl, _, rfl⟩
  · have e0 : decide (l = m) = false := by simp; intro e; exact hlen (by rw [e])
    have e1 : ((l.length : Int) != (m.length : Int)) = true := by simp; omega
    rw [e0]
    clear e0 a3 a4 b3 b4
    go_enter Try.func10, Try.ntmps10
    go_wp2
    go_ret
    exact ⟨rfl, 0, rfl⟩

set_option maxHeartbeats 400000 in
theorem readnum_no (b : Value) (l : List Int) (at_ : Int) (w : World) (hb : Bs w b l) (h : at_ < 0 ∨ (l.length : Int) - 8 < at_) :
    Calls Try.prog 53 #[b, .int .i64 at_] w fun e w' => e = .returned (.tuple #[.int .i64 0, .int .i64 0, .bool false]) ∧ w = w' := by
  obtain ⟨ao, ca, rfl, a1, a2, a3, a4⟩ := hb
  unfold maxLen at a2
  clear a3 a4
  by_cases h0 : at_ < 0
  · go_enter Try.func53, Try.ntmps53
    go_wp2
    go_ret3
    exact ⟨rfl, rfl⟩
  · have h1 : (l.length : Int) - 8 < at_ := by omega
    go_enter Try.func53, Try.ntmps53
    go_wp2
    go_ret3
    exact ⟨rfl, rfl⟩

set_option maxHeartbeats 400000 in
theorem readnum_yes (b : Value) (l : List Int) (at_ : Nat) (w : World) (hb : Bs w b l) (hB : Byt l) (h : at_ + 8 ≤ l.length) :
    Calls Try.prog 53 #[b, .int .i64 at_] w fun e w' => e = .returned (.tuple #[.int .i64 (num8 ((l.drop at_).take 8)), .int .i64 (at_ + 8), .bool true]) ∧ w = w' := by
  obtain ⟨ao, ca, rfl, a1, a2, a3, a4⟩ := hb
  unfold maxLen at a2
  obtain ⟨p, po, rfl, hp, hpc⟩ := a4 (by intro e; rw [e] at h; simp at h)
  clear a3 a4
  have h0 : ¬ ((at_ : Int) < 0) := by omega
  have h1 : ¬ ((l.length : Int) - 8 < at_) := by omega
  go_enter Try.func53, Try.ntmps53
  go_wp2
  go_loop [7, 25] (fun v i => ∃ k : Nat, k ≤ 8 ∧ i = .int .i64 k ∧ v = .int .u64 (acc ((l.drop at_).take k))) (fun _ i => 8 - (intOf i).toNat)
  case atStart => exact ⟨0, by omega, rfl, rfl⟩
  case round =>
    obtain ⟨k, hk, rfl, rfl⟩ := hrel
    obtain ⟨x, hx⟩ : ∃ x, acc ((l.drop at_).take k) = x := ⟨_, rfl⟩
    rw [hx]
    have HX : Hid (acc ((l.drop at_).take k) = x) := hx
    clear hx
    by_cases hlt : k < 8
    · obtain ⟨y, hy⟩ : ∃ y, l.getD (at_ + k) 0 = y := ⟨_, rfl⟩
      have c1 : w.cell? ⟨p, po + at_ + k, none⟩ = some (.int .u8 y) := by rw [← hy, Nat.add_assoc]; exact hpc (at_ + k) (by omega)
      have HY : Hid (l.getD (at_ + k) 0 = y) := hy
      clear hy hpc
      go_wp2
      go_round
      case rel => exact ⟨k + 1, by omega, by go_num, by rw [← HX.out, ← HY.out, acc_step l hB at_ k hlt h]⟩
      case measure => simp [intOf]; omega
    · obtain rfl : k = 8 := by omega
      go_wp2
      go_ret3
      exact ⟨by rw [← HX.out]; rfl, rfl⟩

set_option maxHeartbeats 400000 in
theorem readtext_no (b : Value) (l : List Int) (at_ : Int) (w : World) (hb : Bs w b l) (h : at_ < 0 ∨ (l.length : Int) - 8 < at_) :
    Calls Try.prog 70 #[b, .int .i64 at_] w fun e w' => e = .returned (.tuple #[.string ⟨#[]⟩, .int .i64 0, .bool false]) ∧ w = w' := by
  go_enter Try.func70, Try.ntmps70
  go_wp2_with fail
  refine (readnum_no b l at_ w hb h).mono ?_
  rintro e w1 ⟨rfl, rfl⟩
  go_wp2
  go_ret3
  exact ⟨rfl, rfl⟩

set_option maxHeartbeats 400000 in
theorem readtext_short (b : Value) (l : List Int) (at_ : Nat) (w : World) (hb : Bs w b l) (hB : Byt l) (h : at_ + 8 ≤ l.length) (hn : num8 ((l.drop at_).take 8) < 0 ∨ (l.length : Int) - (at_ + 8) < num8 ((l.drop at_).take 8)) :
    Calls Try.prog 70 #[b, .int .i64 at_] w fun e w' => e = .returned (.tuple #[.string ⟨#[]⟩, .int .i64 0, .bool false]) ∧ w = w' := by
  have hb0 := hb
  obtain ⟨ao, ca, rfl, a1, a2, a3, a4⟩ := hb
  unfold maxLen at a2
  have HB : Hid (Bs w (.slice ao l.length ca) l) := hb0
  clear hb0 a3 a4
  obtain ⟨z, hz⟩ : ∃ z, num8 ((l.drop at_).take 8) = z := ⟨_, rfl⟩
  rw [hz] at hn
  have HZ : Hid (num8 ((l.drop at_).take 8) = z) := hz
  clear hz
  by_cases h0 : z < 0
  · go_enter Try.func70, Try.ntmps70
    go_wp2_with fail
    refine (readnum_yes _ l at_ w HB.out hB h).mono ?_
    rintro e w1 ⟨rfl, rfl⟩
    rw [HZ.out]
    go_wp2
    go_ret3
    exact ⟨rfl, rfl⟩
  · have h1 : (l.length : Int) - (at_ + 8) < z := by omega
    go_enter Try.func70, Try.ntmps70
    go_wp2_with fail
    refine (readnum_yes _ l at_ w HB.out hB h).mono ?_
    rintro e w1 ⟨rfl, rfl⟩
    rw [HZ.out]
    go_wp2
    go_ret3
    exact ⟨rfl, rfl⟩

set_option maxHeartbeats 400000 in
theorem readtext_yes (b : Value) (l : List Int) (at_ n : Nat) (w : World) (hb : Bs w b l) (hB : Byt l) (h : at_ + 8 + n ≤ l.length) (hn : num8 ((l.drop at_).take 8) = n) :
    Calls Try.prog 70 #[b, .int .i64 at_] w fun e w' => e = .returned (.tuple #[.string (strOfNums ((l.drop (at_ + 8)).take n)), .int .i64 (at_ + 8 + n), .bool true]) ∧ w = w' := by
  have hb0 := hb
  obtain ⟨ao, ca, rfl, a1, a2, a3, a4⟩ := hb
  unfold maxLen at a2
  obtain ⟨p, po, rfl, hp, hpc⟩ := a4 (by intro e; rw [e] at h; simp at h)
  have HB : Hid (Bs w (.slice (some ⟨p, po, none⟩) l.length ca) l) := hb0
  clear hb0 a3 a4
  have HN : Hid (num8 ((l.drop at_).take 8) = n) := hn
  clear hn
  have hlen : ((l.drop (at_ + 8)).take n).length = n := by simp; omega
  have hcell : ∀ i, i < n → w.cell? ⟨p, po + (at_ + 8) + i, none⟩ = some (.int .u8 (((l.drop (at_ + 8)).take n).getD i 0)) := by
    intro i hi
    have := hpc (at_ + 8 + i) (by omega)
    rw [Nat.add_assoc, this]
    simp [List.getD, hi]
  have hcv : Sem.run Try.prog (convert 25 9 (.slice (some ⟨p, po + (at_ + 8), none⟩) n (ca - (at_ + 8)))) w = .ok (.string (strOfNums ((l.drop (at_ + 8)).take n))) w :=
    run_convert_bytes_arg (P := Try.prog) w 25 5 Try.underlying25 Try.underlying5 p (po + (at_ + 8)) n (ca - (at_ + 8)) _ hlen hcell 9 Try.underlying9
  have hcv0 : n = 0 → Sem.run Try.prog (convert 25 9 (.slice (some ⟨p, po, none⟩) n 0)) w = .ok (.string (strOfNums ((l.drop (at_ + 8)).take n))) w := by
    intro e
    exact run_convert_bytes_arg (P := Try.prog) w 25 5 Try.underlying25 Try.underlying5 p po n 0 _ hlen (fun i hi => by omega) 9 Try.underlying9
  generalize strOfNums ((l.drop (at_ + 8)).take n) = str at *
  clear hcell hpc hlen
  by_cases hca : ca = at_ + 8
  · have hn0 : n = 0 := by omega
    have hcv1 := hcv0 hn0
    clear hcv0 hcv
    have h0 : decide ((n : Int) < 0) = false := by simp
    have h1 : decide ((l.length : Int) - (at_ + 8) < n) = false := by simp; omega
    subst hca
    have HN0 : Hid (n = 0) := hn0
    clear hn0
    go_enter Try.func70, Try.ntmps70
    go_wp2_with fail
    refine (readnum_yes _ l at_ w HB.out hB (by omega)).mono ?_
    rintro e w1 ⟨rfl, rfl⟩
    rw [HN.out]
    go_wp2
    go_ret3
    exact ⟨rfl, rfl⟩
  · clear hcv0
    have h0 : decide ((n : Int) < 0) = false := by simp
    have h1 : decide ((l.length : Int) - (at_ + 8) < n) = false := by simp; omega
    go_enter Try.func70, Try.ntmps70
    go_wp2_with fail
    refine (readnum_yes _ l at_ w HB.out hB (by omega)).mono ?_
    rintro e w1 ⟨rfl, rfl⟩
    rw [HN.out]
    go_wp2
    go_ret3
    exact ⟨rfl, rfl⟩
end Go.Proofs.Ytpkobobandcclaa
