/- What the document's own ReadNum and ReadText (chapter 1) tell: the same plain functions of the bytes and the place. -/
import Derived.Test.YtpkobobandcclaaRdProg
namespace Go.Proofs.Ytpkobobandcclaa
open Go.RowKit
set_option linter.unusedVariables false

set_option maxHeartbeats 400000 in
theorem rreadnum_no (b : Value) (l : List Int) (at_ : Int) (w : World) (hb : Bs w b l) (h : at_ < 0 ∨ (l.length : Int) - 8 < at_) :
    Calls Try.prog 55 #[b, .int .i64 at_] w fun e w' => e = .returned (.tuple #[.int .i64 0, .int .i64 0, .bool false]) ∧ w = w' := by
  obtain ⟨ao, ca, rfl, a1, a2, a3, a4⟩ := hb
  unfold maxLen at a2
  clear a3 a4
  by_cases h0 : at_ < 0
  · go_enter Try.func55, Try.ntmps55
    go_wp2
    go_ret3
    exact ⟨rfl, rfl⟩
  · have h0' : decide (at_ < 0) = false := by simpa using h0
    by_cases h2 : (l.length : Int) < at_
    · go_enter Try.func55, Try.ntmps55
      go_wp2
      go_ret3
      exact ⟨rfl, rfl⟩
    · have h1 : (l.length : Int) - at_ < 8 := by omega
      have h2' : decide ((l.length : Int) < at_) = false := by simpa using h2
      go_enter Try.func55, Try.ntmps55
      go_wp2
      go_ret3
      exact ⟨rfl, rfl⟩

set_option maxHeartbeats 400000 in
theorem rreadnum_yes (b : Value) (l : List Int) (at_ : Nat) (w : World) (hb : Bs w b l) (hB : Byt l) (h : at_ + 8 ≤ l.length) :
    Calls Try.prog 55 #[b, .int .i64 at_] w fun e w' => e = .returned (.tuple #[.int .i64 (num8 ((l.drop at_).take 8)), .int .i64 (at_ + 8), .bool true]) ∧ w = w' := by
  obtain ⟨ao, ca, rfl, a1, a2, a3, a4⟩ := hb
  unfold maxLen at a2
  obtain ⟨p, po, rfl, hp, hpc⟩ := a4 (by intro e; rw [e] at h; simp at h)
  clear a3 a4
  have h0 : decide ((at_ : Int) < 0) = false := by simp
  have h1 : decide ((l.length : Int) < at_) = false := by simp; omega
  have h2 : decide ((l.length : Int) - at_ < 8) = false := by simp; omega
  go_enter Try.func55, Try.ntmps55
  go_wp2
  go_loop [7, 8] (fun v i => ∃ k : Nat, k ≤ 8 ∧ i = .int .i64 k ∧ v = .int .u64 (acc ((l.drop at_).take k))) (fun _ i => 8 - (intOf i).toNat)
  case atStart => exact ⟨0, by omega, rfl, rfl⟩
  case round =>
    obtain ⟨k, hk, rfl, rfl⟩ := hrel
    obtain ⟨x, hx⟩ : ∃ x, acc ((l.drop at_).take k) = x := ⟨_, rfl⟩
    rw [hx]
    have HX : Hid (acc ((l.drop at_).take k) = x) := hx
    clear hx
    by_cases hlt : k < 8
    · obtain ⟨y, hy⟩ : ∃ y, l.getD (at_ + k) 0 = y := ⟨_, rfl⟩
      have c1 : w.cell? ⟨p, po + (at_ + k), none⟩ = some (.int .u8 y) := by rw [← hy]; exact hpc (at_ + k) (by omega)
      have HY : Hid (l.getD (at_ + k) 0 = y) := hy
      clear hy hpc
      go_wp2
      go_round
      case rel => exact ⟨k + 1, by omega, by go_num, by rw [← HX.out, ← HY.out, acc_step l hB at_ k hlt h]⟩
      case measure => simp [intOf]; omega
    · obtain rfl : k = 8 := by omega
      go_wp2
      go_ret3
      exact ⟨by rw [← HX.out]; rfl, rfl⟩

set_option maxHeartbeats 400000 in
theorem rreadtext_no (b : Value) (l : List Int) (at_ : Int) (w : World) (hb : Bs w b l) (h : at_ < 0 ∨ (l.length : Int) - 8 < at_) :
    Calls Try.prog 56 #[b, .int .i64 at_] w fun e w' => e = .returned (.tuple #[.string ⟨#[]⟩, .int .i64 0, .bool false]) ∧ w = w' := by
  go_enter Try.func56, Try.ntmps56
  go_wp2_with fail
  refine (rreadnum_no b l at_ w hb h).mono ?_
  rintro e w1 ⟨rfl, rfl⟩
  go_wp2
  go_ret3
  exact ⟨rfl, rfl⟩

set_option maxHeartbeats 400000 in
theorem rreadtext_short (b : Value) (l : List Int) (at_ : Nat) (w : World) (hb : Bs w b l) (hB : Byt l) (h : at_ + 8 ≤ l.length) (hn : num8 ((l.drop at_).take 8) < 0 ∨ (l.length : Int) - (at_ + 8) < num8 ((l.drop at_).take 8)) :
    Calls Try.prog 56 #[b, .int .i64 at_] w fun e w' => e = .returned (.tuple #[.string ⟨#[]⟩, .int .i64 0, .bool false]) ∧ w = w' := by
  have hb0 := hb
  obtain ⟨ao, ca, rfl, a1, a2, a3, a4⟩ := hb
  unfold maxLen at a2
  have HB : Hid (Bs w (.slice ao l.length ca) l) := hb0
  clear hb0 a3 a4
  obtain ⟨z, hz⟩ : ∃ z, num8 ((l.drop at_).take 8) = z := ⟨_, rfl⟩
  rw [hz] at hn
  have HZ : Hid (num8 ((l.drop at_).take 8) = z) := hz
  clear hz
  by_cases h0 : z < 0
  · go_enter Try.func56, Try.ntmps56
    go_wp2_with fail
    refine (rreadnum_yes _ l at_ w HB.out hB h).mono ?_
    rintro e w1 ⟨rfl, rfl⟩
    rw [HZ.out]
    go_wp2
    go_ret3
    exact ⟨rfl, rfl⟩
  · have h1 : (l.length : Int) - (at_ + 8) < z := by omega
    go_enter Try.func56, Try.ntmps56
    go_wp2_with fail
    refine (rreadnum_yes _ l at_ w HB.out hB h).mono ?_
    rintro e w1 ⟨rfl, rfl⟩
    rw [HZ.out]
    go_wp2
    go_ret3
    exact ⟨rfl, rfl⟩

set_option maxHeartbeats 400000 in
theorem rreadtext_yes (b : Value) (l : List Int) (at_ n : Nat) (w : World) (hb : Bs w b l) (hB : Byt l) (h : at_ + 8 + n ≤ l.length) (hn : num8 ((l.drop at_).take 8) = n) :
    Calls Try.prog 56 #[b, .int .i64 at_] w fun e w' => e = .returned (.tuple #[.string (strOfNums ((l.drop (at_ + 8)).take n)), .int .i64 (at_ + 8 + n), .bool true]) ∧ w = w' := by
  have hb0 := hb
  obtain ⟨ao, ca, rfl, a1, a2, a3, a4⟩ := hb
  unfold maxLen at a2
  obtain ⟨p, po, rfl, hp, hpc⟩ := a4 (by intro e; rw [e] at h; simp at h)
  have HB : Hid (Bs w (.slice (some ⟨p, po, none⟩) l.length ca) l) := hb0
  clear hb0 a3 a4
  have HN : Hid (num8 ((l.drop at_).take 8) = n) := hn
  clear hn
  have hlen : ((l.drop (at_ + 8)).take n).length = n := by simp; omega
  have hcell : ∀ i, i < n → w.cell? ⟨p, po + (at_ + 8) + i, none⟩ = some (.int .u8 (((l.drop (at_ + 8)).take n).getD i 0)) := by
    intro i hi
    have := hpc (at_ + 8 + i) (by omega)
    rw [Nat.add_assoc, this]
    simp [List.getD, hi]
  have hcv : Sem.run Try.prog (convert 25 9 (.slice (some ⟨p, po + (at_ + 8), none⟩) n (ca - (at_ + 8)))) w = .ok (.string (strOfNums ((l.drop (at_ + 8)).take n))) w :=
    run_convert_bytes_arg (P := Try.prog) w 25 5 Try.underlying25 Try.underlying5 p (po + (at_ + 8)) n (ca - (at_ + 8)) _ hlen hcell 9 Try.underlying9
  have hcv0 : n = 0 → Sem.run Try.prog (convert 25 9 (.slice (some ⟨p, po, none⟩) n 0)) w = .ok (.string (strOfNums ((l.drop (at_ + 8)).take n))) w := by
    intro e
    exact run_convert_bytes_arg (P := Try.prog) w 25 5 Try.underlying25 Try.underlying5 p po n 0 _ hlen (fun i hi => by omega) 9 Try.underlying9
  generalize strOfNums ((l.drop (at_ + 8)).take n) = str at *
  clear hcell hpc hlen
  by_cases hca : ca = at_ + 8
  · have hn0 : n = 0 := by omega
    have hcv1 := hcv0 hn0
    clear hcv0 hcv
    have h0 : decide ((n : Int) < 0) = false := by simp
    have h1 : decide ((l.length : Int) - (at_ + 8) < n) = false := by simp; omega
    subst hca
    have HN0 : Hid (n = 0) := hn0
    clear hn0
    go_enter Try.func56, Try.ntmps56
    go_wp2_with fail
    refine (rreadnum_yes _ l at_ w HB.out hB (by omega)).mono ?_
    rintro e w1 ⟨rfl, rfl⟩
    rw [HN.out]
    go_wp2
    go_ret3
    exact ⟨rfl, rfl⟩
  · clear hcv0
    have h0 : decide ((n : Int) < 0) = false := by simp
    have h1 : decide ((l.length : Int) - (at_ + 8) < n) = false := by simp; omega
    go_enter Try.func56, Try.ntmps56
    go_wp2_with fail
    refine (rreadnum_yes _ l at_ w HB.out hB (by omega)).mono ?_
    rintro e w1 ⟨rfl, rfl⟩
    rw [HN.out]
    go_wp2
    go_ret3
    exact ⟨rfl, rfl⟩
theorem rreadnum_any (b : Value) (l : List Int) (i : Int) (w : World) (hb : Bs w b l) (hB : Byt l) :
    Calls Try.prog 55 #[b, .int .i64 i] w fun e w' => e = .returned (.tuple #[.int .i64 (rdNum l i).1, .int .i64 (rdNum l i).2.1, .bool (rdNum l i).2.2]) ∧ w = w' := by
  by_cases h : noNum l i
  · rw [rdNum, if_pos h]; exact rreadnum_no b l i w hb h
  · rw [rdNum, if_neg h]
    unfold noNum at h
    obtain ⟨k, rfl⟩ := Int.eq_ofNat_of_zero_le (show 0 ≤ i by omega)
    exact rreadnum_yes b l k w hb hB (by omega)

theorem rreadtext_all (b : Value) (l : List Int) (i : Int) (w : World) (hb : Bs w b l) (hB : Byt l) :
    Calls Try.prog 56 #[b, .int .i64 i] w fun e w' => e = .returned (.tuple #[.string (rdText l i).1, .int .i64 (rdText l i).2.1, .bool (rdText l i).2.2]) ∧ w = w' := by
  by_cases h : noText l i
  · rw [rdText, if_pos h]
    by_cases h0 : noNum l i
    · exact rreadtext_no b l i w hb h0
    · unfold noText at h
      have h2 := h.resolve_left h0
      unfold noNum at h0
      obtain ⟨k, rfl⟩ := Int.eq_ofNat_of_zero_le (show 0 ≤ i by omega)
      exact rreadtext_short b l k w hb hB (by omega) h2
  · rw [rdText, if_neg h]
    unfold noText noNum at h
    obtain ⟨k, rfl⟩ := Int.eq_ofNat_of_zero_le (show 0 ≤ i by omega)
    obtain ⟨n, hn⟩ := Int.eq_ofNat_of_zero_le (show 0 ≤ numAt l k by omega)
    rw [hn]
    exact rreadtext_yes b l k n w hb hB (by omega) hn

end Go.Proofs.Ytpkobobandcclaa
