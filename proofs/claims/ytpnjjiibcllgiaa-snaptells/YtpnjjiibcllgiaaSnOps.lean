/- What Due and Reached do, of the program and of the document's own, and the document's own Has and Grows. -/
import Derived.Test.YtpnjjiibcllgiaaIntsSameP
import Derived.Test.YtpnjjiibcllgiaaSnMath
namespace Go.Proofs.Ytpnjjiibcllgiaa
open Go.RowKit
set_option linter.unusedVariables false
theorem below_drewNW (w : World) (t : Nat) : Below w.heap.size w (w.drewN t) := ⟨rfl, rfl, rfl, Nat.le_refl _, fun _ _ => rfl⟩
theorem getD_some {l : List Int} {k : Nat} {x : Int} (h : k < l.length) (e : l.getD k 0 = x) : l[k]? = some x := by
  rw [← e, List.getD_eq_getElem?_getD, List.getElem?_eq_getElem h]
  rfl
theorem not_nil {l : List Int} {k : Nat} (h : k < l.length) : l ≠ [] := by
  intro e
  rw [e] at h
  exact absurd h (Nat.not_lt_zero _)
set_option maxHeartbeats 400000 in
theorem refDue_any (v : Value) (l : List Int) (n : Int) (w : World) (h : Is w v l) :
    Calls Try.prog 9 #[v, .int .i64 n] w fun e w' => e = .returned (.bool (dueL l n)) ∧ ∃ t, w' = w.drewN t := by
  obtain ⟨ao, ca, rfl, a1, a2, a3, a4⟩ := h
  unfold maxLen at a2
  have HA := hid a4
  clear a3 a4
  go_enter Try.func9, Try.ntmps9
  go_wp2
  go_loopw [5] (fun i wr => ∃ k : Nat, k ≤ l.length ∧ i = .int .i64 k ∧ dueL (l.take k) n = false ∧ ∃ t, wr = w.drewN t) (fun i _ => l.length - (intOf i).toNat)
  case atStart => exact ⟨0, by omega, rfl, rfl, 0, rfl⟩
  case round =>
    obtain ⟨k, hk, rfl, htk, t, rfl⟩ := hrel
    have HT := hid htk
    clear htk
    by_cases hlt : k < l.length
    · obtain ⟨p, po, rfl, hp, hpc⟩ := HA.out (not_nil hlt)
      obtain ⟨x, hx⟩ : ∃ x, l.getD k 0 = x := ⟨_, rfl⟩
      have c1 : w.cell? ⟨p, po + k, none⟩ = some (.int .i64 x) := by rw [← hx]; exact hpc k hlt
      have HX := hid (getD_some hlt hx)
      clear hx hpc
      by_cases hxy : x = n
      · have e2 : (x == n) = true := by simpa using hxy
        have HD := hid (show dueL l n = true from dueL_hit (by rw [← hxy]; exact HX.out))
        clear hxy
        go_wp2
        go_ret
        exact ⟨by rw [HD.out]; rfl, _, rfl⟩
      · have e2 : (x == n) = false := by simpa using hxy
        have HD := hid (dueL_step HX.out HT.out hxy)
        clear hxy
        go_wp2
        go_roundw
        case rel => exact ⟨k + 1, by omega, by go_num, HD.out, _, rfl⟩
        case measure => simp [intOf]; omega
    · obtain rfl : k = l.length := by omega
      have HD := hid (show dueL l n = false by have := HT.out; rwa [List.take_length] at this)
      go_wp2
      go_ret
      exact ⟨by rw [HD.out]; rfl, _, rfl⟩
set_option maxHeartbeats 400000 in
theorem refHas_any (v : Value) (l : List Int) (n : Int) (w : World) (h : Is w v l) :
    Calls Try.prog 20 #[v, .int .i64 n] w fun e w' => e = .returned (.bool (dueL l n)) ∧ ∃ t, w' = w.drewN t := by
  obtain ⟨ao, ca, rfl, a1, a2, a3, a4⟩ := h
  unfold maxLen at a2
  have HA := hid a4
  clear a3 a4
  go_enter Try.func20, Try.ntmps20
  go_wp2
  go_loopw [5] (fun i wr => ∃ k : Nat, k ≤ l.length ∧ i = .int .i64 k ∧ dueL (l.take k) n = false ∧ ∃ t, wr = w.drewN t) (fun i _ => l.length - (intOf i).toNat)
  case atStart => exact ⟨0, by omega, rfl, rfl, 0, rfl⟩
  case round =>
    obtain ⟨k, hk, rfl, htk, t, rfl⟩ := hrel
    have HT := hid htk
    clear htk
    by_cases hlt : k < l.length
    · obtain ⟨p, po, rfl, hp, hpc⟩ := HA.out (not_nil hlt)
      obtain ⟨x, hx⟩ : ∃ x, l.getD k 0 = x := ⟨_, rfl⟩
      have c1 : w.cell? ⟨p, po + k, none⟩ = some (.int .i64 x) := by rw [← hx]; exact hpc k hlt
      have HX := hid (getD_some hlt hx)
      clear hx hpc
      by_cases hxy : x = n
      · have e2 : (x == n) = true := by simpa using hxy
        have HD := hid (show dueL l n = true from dueL_hit (by rw [← hxy]; exact HX.out))
        clear hxy
        go_wp2
        go_ret
        exact ⟨by rw [HD.out]; rfl, _, rfl⟩
      · have e2 : (x == n) = false := by simpa using hxy
        have HD := hid (dueL_step HX.out HT.out hxy)
        clear hxy
        go_wp2
        go_roundw
        case rel => exact ⟨k + 1, by omega, by go_num, HD.out, _, rfl⟩
        case measure => simp [intOf]; omega
    · obtain rfl : k = l.length := by omega
      have HD := hid (show dueL l n = false by have := HT.out; rwa [List.take_length] at this)
      go_wp2
      go_ret
      exact ⟨by rw [HD.out]; rfl, _, rfl⟩
/-- slices.Index: from 0 on just if the number stands there. -/
theorem index_any (v : Value) (l : List Int) (n : Int) (w : World) (h : Is w v l) :
    Calls Try.prog 22 #[v, .int .i64 n] w fun e w' => (∃ i : Int, e = .returned (.int .i64 i) ∧ decide (0 ≤ i) = dueL l n) ∧ ∃ t, w' = w.drewN t := by
  obtain ⟨ao, ca, rfl, a1, a2, a3, a4⟩ := h
  unfold maxLen at a2
  have HA := hid a4
  clear a3 a4
  go_enter Try.func22, Try.ntmps22
  go_wp2
  go_loopw [5, 8] (fun u i wr => ∃ k : Nat, k ≤ l.length ∧ i = .int .i64 k ∧ dueL (l.take k) n = false ∧ ∃ t, wr = w.drewN t) (fun _ i _ => l.length - (intOf i).toNat)
  case atStart => exact ⟨0, by omega, rfl, rfl, 0, rfl⟩
  case round =>
    obtain ⟨k, hk, rfl, htk, t, rfl⟩ := hrel
    have HT := hid htk
    clear htk
    by_cases hlt : k < l.length
    · obtain ⟨p, po, rfl, hp, hpc⟩ := HA.out (not_nil hlt)
      obtain ⟨x, hx⟩ : ∃ x, l.getD k 0 = x := ⟨_, rfl⟩
      have c1 : w.cell? ⟨p, po + k, none⟩ = some (.int .i64 x) := by rw [← hx]; exact hpc k hlt
      have HX := hid (getD_some hlt hx)
      clear hx hpc
      by_cases hxy : x = n
      · have e2 : (n == x) = true := by simpa using hxy.symm
        have HD := hid (show dueL l n = true from dueL_hit (by rw [← hxy]; exact HX.out))
        clear hxy
        go_wp2
        go_ret
        exact ⟨⟨_, rfl, by rw [HD.out]; simp⟩, _, rfl⟩
      · have e2 : (n == x) = false := by simpa using fun e => hxy e.symm
        have HD := hid (dueL_step HX.out HT.out hxy)
        clear hxy
        go_wp2
        go_roundw
        case rel => exact ⟨k + 1, by omega, by go_num, HD.out, _, rfl⟩
        case measure => simp [intOf]; omega
    · obtain rfl : k = l.length := by omega
      have HD := hid (show dueL l n = false by have := HT.out; rwa [List.take_length] at this)
      go_wp2
      go_ret
      exact ⟨⟨_, rfl, by rw [HD.out]; rfl⟩, _, rfl⟩
theorem due_any (v : Value) (l : List Int) (n : Int) (w : World) (h : Is w v l) :
    Calls Try.prog 8 #[v, .int .i64 n] w fun e w' => e = .returned (.bool (dueL l n)) ∧ ∃ t, w' = w.drewN t := by
  have HI := hid h
  obtain ⟨ao, ca, rfl, a1, a2, a3, a4⟩ := h
  clear a1 a2 a3 a4
  have hc : Calls Try.prog 16 #[.slice ao l.length ca, .int .i64 n] w fun e w' => e = .returned (.bool (dueL l n)) ∧ ∃ t, w' = w.drewN t := by
    go_enter Try.func16, Try.ntmps16
    go_wp2_with fail
    refine (index_any _ l n w HI.out).mono ?_
    rintro e w1 ⟨⟨i, rfl, hi⟩, t, rfl⟩
    have HD := hid hi
    clear hi
    go_wp2
    go_ret
    exact ⟨by rw [← HD.out]; rfl, _, rfl⟩
  have HC := hid hc
  clear hc
  go_enter Try.func8, Try.ntmps8
  go_wp2_with fail
  refine HC.out.mono ?_
  rintro e w1 ⟨rfl, t, rfl⟩
  go_wp2
  go_ret
  exact ⟨rfl, _, rfl⟩
set_option maxHeartbeats 400000 in
theorem reached_any (v : Value) (l : List Int) (n : Int) (w : World) (h : Is w v l) :
    Calls Try.prog 10 #[v, .int .i64 n] w fun e w' => e = .returned (.int .i64 (reachedL l n)) ∧ ∃ t, w' = w.drewN t := by
  obtain ⟨ao, ca, rfl, a1, a2, a3, a4⟩ := h
  unfold maxLen at a2
  have HA := hid a4
  clear a3 a4
  go_enter Try.func10, Try.ntmps10
  go_wp2
  go_loopw [5, 7, 10] (fun c u i wr => ∃ k : Nat, k ≤ l.length ∧ i = .int .i64 k ∧ c = .int .i64 (reachedL (l.take k) n) ∧ ∃ t, wr = w.drewN t) (fun _ _ i _ => l.length - (intOf i).toNat)
  case atStart => exact ⟨0, by omega, rfl, rfl, 0, rfl⟩
  case round =>
    obtain ⟨k, hk, rfl, rfl, t, rfl⟩ := hrel
    have hle := reachedL_le (l.take k) n
    rw [List.length_take] at hle
    obtain ⟨r, hr⟩ : ∃ r, reachedL (l.take k) n = r := ⟨_, rfl⟩
    rw [hr] at hle ⊢
    by_cases hlt : k < l.length
    · obtain ⟨p, po, rfl, hp, hpc⟩ := HA.out (not_nil hlt)
      obtain ⟨x, hx⟩ : ∃ x, l.getD k 0 = x := ⟨_, rfl⟩
      have c1 : w.cell? ⟨p, po + k, none⟩ = some (.int .i64 x) := by rw [← hx]; exact hpc k hlt
      have hst := reachedL_step (n := n) (getD_some hlt hx)
      clear hx hpc
      by_cases hxy : x ≤ n
      · have HD := hid (show reachedL (l.take (k + 1)) n = r + 1 by rw [hst, hr, if_pos hxy])
        have e2 : decide (x ≤ n) = true := by simpa using hxy
        clear hxy hst hr
        go_wp2
        go_roundw
        case rel => exact ⟨k + 1, by omega, by go_num, by rw [HD.out]; go_num, _, rfl⟩
        case measure => simp [intOf]; omega
      · have HD := hid (show reachedL (l.take (k + 1)) n = r by rw [hst, hr, if_neg hxy, Nat.add_zero])
        have e2 : decide (x ≤ n) = false := by simpa using hxy
        clear hxy hst hr
        go_wp2
        go_roundw
        case rel => exact ⟨k + 1, by omega, by go_num, by rw [HD.out], _, rfl⟩
        case measure => simp [intOf]; omega
    · obtain rfl : k = l.length := by omega
      have HD := hid (show reachedL l n = r by rwa [List.take_length] at hr)
      clear hr
      go_wp2
      go_ret
      exact ⟨by rw [HD.out]; rfl, _, rfl⟩
set_option maxHeartbeats 400000 in
theorem refReached_any (v : Value) (l : List Int) (n : Int) (w : World) (h : Is w v l) :
    Calls Try.prog 11 #[v, .int .i64 n] w fun e w' => e = .returned (.int .i64 (reachedL l n)) ∧ ∃ t, w' = w.drewN t := by
  obtain ⟨ao, ca, rfl, a1, a2, a3, a4⟩ := h
  unfold maxLen at a2
  have HA := hid a4
  clear a3 a4
  go_enter Try.func11, Try.ntmps11
  go_wp2
  go_loopw [5, 6] (fun c i wr => ∃ k : Nat, k ≤ l.length ∧ i = .int .i64 k ∧ c = .int .i64 (reachedL (l.take k) n) ∧ ∃ t, wr = w.drewN t) (fun _ i _ => l.length - (intOf i).toNat)
  case atStart => exact ⟨0, by omega, rfl, rfl, 0, rfl⟩
  case round =>
    obtain ⟨k, hk, rfl, rfl, t, rfl⟩ := hrel
    have hle := reachedL_le (l.take k) n
    rw [List.length_take] at hle
    obtain ⟨r, hr⟩ : ∃ r, reachedL (l.take k) n = r := ⟨_, rfl⟩
    rw [hr] at hle ⊢
    by_cases hlt : k < l.length
    · obtain ⟨p, po, rfl, hp, hpc⟩ := HA.out (not_nil hlt)
      obtain ⟨x, hx⟩ : ∃ x, l.getD k 0 = x := ⟨_, rfl⟩
      have c1 : w.cell? ⟨p, po + k, none⟩ = some (.int .i64 x) := by rw [← hx]; exact hpc k hlt
      have hst := reachedL_step (n := n) (getD_some hlt hx)
      clear hx hpc
      by_cases hxy : x ≤ n
      · have HD := hid (show reachedL (l.take (k + 1)) n = r + 1 by rw [hst, hr, if_pos hxy])
        have e2 : decide (x ≤ n) = true := by simpa using hxy
        clear hxy hst hr
        go_wp2
        go_roundw
        case rel => exact ⟨k + 1, by omega, by go_num, by rw [HD.out]; go_num, _, rfl⟩
        case measure => simp [intOf]; omega
      · have HD := hid (show reachedL (l.take (k + 1)) n = r by rw [hst, hr, if_neg hxy, Nat.add_zero])
        have e2 : decide (x ≤ n) = false := by simpa using hxy
        clear hxy hst hr
        go_wp2
        go_roundw
        case rel => exact ⟨k + 1, by omega, by go_num, by rw [HD.out], _, rfl⟩
        case measure => simp [intOf]; omega
    · obtain rfl : k = l.length := by omega
      have HD := hid (show reachedL l n = r by rwa [List.take_length] at hr)
      clear hr
      go_wp2
      go_ret
      exact ⟨by rw [HD.out]; rfl, _, rfl⟩
theorem Is.drew {w : World} {v : Value} {l : List Int} (h : Is w v l) (t : Nat) : Is (w.drewN t) v l := h.below (below_drewNW w t)
set_option maxHeartbeats 400000 in
theorem refGrows_any (v u : Value) (l m : List Int) (w : World) (h : Is w v l) (hu : Is w u m) :
    Calls Try.prog 13 #[v, u] w fun e w' => e = .returned (.bool (growsL l m)) ∧ ∃ t, w' = w.drewN t := by
  have HU := hid hu
  obtain ⟨bo, cb, rfl, b1, b2, b3, b4⟩ := hu
  obtain ⟨ao, ca, rfl, a1, a2, a3, a4⟩ := h
  unfold maxLen at a2
  have HA := hid a4
  clear a3 a4 b1 b2 b3 b4
  go_enter Try.func13, Try.ntmps13
  go_wp2
  go_loopw [5] (fun i wr => ∃ k : Nat, k ≤ l.length ∧ i = .int .i64 k ∧ growsL (l.take k) m = true ∧ ∃ t, wr = w.drewN t) (fun i _ => l.length - (intOf i).toNat)
  case atStart => exact ⟨0, by omega, rfl, rfl, 0, rfl⟩
  case round =>
    obtain ⟨k, hk, rfl, htk, t, rfl⟩ := hrel
    have HT := hid htk
    clear htk
    by_cases hlt : k < l.length
    · obtain ⟨p, po, rfl, hp, hpc⟩ := HA.out (not_nil hlt)
      obtain ⟨x, hx⟩ : ∃ x, l.getD k 0 = x := ⟨_, rfl⟩
      have c1 : w.cell? ⟨p, po + k, none⟩ = some (.int .i64 x) := by rw [← hx]; exact hpc k hlt
      have HX := hid (getD_some hlt hx)
      have HC := hid (fun t' => refHas_any _ m x _ (HU.out.drew t'))
      clear hx hpc
      cases hxy : dueL m x with
      | false =>
        have HD := hid (growsL_miss HX.out hxy)
        have HY := hid hxy
        clear hxy
        go_wp2_with fail
        refine (HC.out _).mono ?_
        rintro e w1 ⟨rfl, t1, rfl⟩
        rw [HY.out]
        go_wp2
        go_ret
        exact ⟨by rw [HD.out]; rfl, _, rfl⟩
      | true =>
        have HD := hid (growsL_step HX.out HT.out hxy)
        have HY := hid hxy
        clear hxy
        go_wp2_with fail
        refine (HC.out _).mono ?_
        rintro e w1 ⟨rfl, t1, rfl⟩
        rw [HY.out]
        go_wp2
        go_roundw
        case rel => exact ⟨k + 1, by omega, by go_num, HD.out, _, rfl⟩
        case measure => simp [intOf]; omega
    · obtain rfl : k = l.length := by omega
      have HD := hid (show growsL l m = true by have := HT.out; rwa [List.take_length] at this)
      go_wp2
      go_ret
      exact ⟨by rw [HD.out]; rfl, _, rfl⟩
end Go.Proofs.Ytpnjjiibcllgiaa
