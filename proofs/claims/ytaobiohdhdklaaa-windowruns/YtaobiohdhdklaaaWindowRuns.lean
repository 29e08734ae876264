/- WindowRuns: acked one by one, each chunk is open at some time. -/
import Derived.Test.YtaobiohdhdklaaaWnAwake
import Derived.Test.YtaobiohdhdklaaaLowC
namespace Go.Proofs.Ytaobiohdhdklaaa
open Go.RowKit
set_option linter.unusedVariables false
/-- Behind k acks of epoch e. -/
def ranW (c s e : Int) (k : Nat) : WinV := ⟨c, s, if k = 0 then 0 else e, k⟩
theorem ranW_ok {c s e : Int} {k : Nat} (h1 : c ≤ 40) (h2 : 1 ≤ s) (h3 : s ≤ 4) (h4 : 1 ≤ e) (h5 : (k : Int) ≤ c) : WinOk (ranW c s e k) :=
  ⟨by show 0 ≤ c; omega, h1, h2, h3, by show 0 ≤ (if k = 0 then (0 : Int) else e); split <;> omega, by show (0 : Int) ≤ k; omega, h5⟩
theorem ranW_ack {c s e : Int} {k : Nat} (h2 : 1 ≤ e) (h5 : (k : Int) < c) : ackB (ranW c s e k) e ((k : Int) + 1) = true ∧ ackW (ranW c s e k) e ((k : Int) + 1) = ranW c s e (k + 1) := by
  have hclip : clipW (ranW c s e k) ((k : Int) + 1) = (k : Int) + 1 := by show min (max ((k : Int) + 1) 0) c = _; omega
  have hr : ranW c s e (k + 1) = { ranW c s e k with epoch := e, next := (k : Int) + 1 } := by
    unfold ranW
    rw [if_neg (by omega)]
    simp
  by_cases h0 : k = 0
  · have h := ackB_new (w := ranW c s e k) (e := e) (n := (k : Int) + 1) h2 (by show (if k = 0 then (0 : Int) else e) < e; rw [if_pos h0]; omega)
    rw [hclip, ← hr] at h
    exact h
  · have hep : (ranW c s e k).epoch = e := by show (if k = 0 then (0 : Int) else e) = e; rw [if_neg h0]
    have h := ackB_same (w := ranW c s e k) (e := e) (n := (k : Int) + 1) h2 hep
    rw [hclip] at h
    have hlt : (ranW c s e k).next < (k : Int) + 1 := by show (k : Int) < k + 1; omega
    rw [if_pos hlt] at h
    refine ⟨h.1.trans (by simpa using hlt), h.2.trans ?_⟩
    rw [hr]
    show WinV.mk _ _ _ _ = WinV.mk _ _ _ _
    rw [hep]
theorem ranW_twice {c s e : Int} {k : Nat} (h2 : 1 ≤ e) (h5 : (k : Int) < c) : ackB (ranW c s e (k + 1)) e ((k : Int) + 1) = false ∧ ackW (ranW c s e (k + 1)) e ((k : Int) + 1) = ranW c s e (k + 1) := by
  have hclip : clipW (ranW c s e (k + 1)) ((k : Int) + 1) = (k : Int) + 1 := by show min (max ((k : Int) + 1) 0) c = _; omega
  have hep : (ranW c s e (k + 1)).epoch = e := by show (if k + 1 = 0 then (0 : Int) else e) = e; rw [if_neg (by omega)]
  have h := ackB_same (w := ranW c s e (k + 1)) (e := e) (n := (k : Int) + 1) h2 hep
  rw [hclip] at h
  have hlt : ¬ (ranW c s e (k + 1)).next < (k : Int) + 1 := by show ¬ ((k + 1 : Nat) : Int) < k + 1; omega
  rw [if_neg hlt] at h
  exact ⟨h.1.trans (by simpa using hlt), h.2⟩
theorem ranW_less {c s e n : Int} {k : Nat} : ackB (ranW c s e (k + 1)) (e - 1) n = false ∧ ackW (ranW c s e (k + 1)) (e - 1) n = ranW c s e (k + 1) :=
  ackB_old (.inr (by show e - 1 < (if k + 1 = 0 then (0 : Int) else e); rw [if_neg (by omega)]; omega))
/-- The first of those that are open. -/
theorem openIs_first {x : WinV} {w w' : World} {v : Value} (ho : w'.ownsRow w.heap.size 3 1 v (openN x) (ict (openW x))) (h : 0 < openN x) : ∃ g c, v = .slice (some ⟨g, 0, none⟩) (openN x) c ∧ w'.cell? ⟨g, 0, none⟩ = some (.int .i64 x.next) := by
  rcases ho.2 with ⟨rfl, e⟩ | ⟨g, cap, cur, rfl, _⟩
  · omega
  · refine ⟨g, cap, rfl, (ho.cellAt 0 (by omega)).trans ?_⟩
    simp [ict, openW_at h]
set_option maxHeartbeats 4000000 in
theorem windowRuns_walk (w : World) (count : Int) (wc : (Lit.int .i64 count).wf = true) (size : Int) (ws : (Lit.int .i64 size).wf = true) (epoch : Int) (we : (Lit.int .i64 epoch).wf = true) :
    Calls Try.prog 5 #[.int .i64 count, .int .i64 size, .int .i64 epoch] w fun e w' => e = .returned (.bool true) ∧ Below w.heap.size w w' := by
  obtain ⟨c, hc, hc2⟩ := low_nat count 41 (by omega)
  obtain ⟨s, hs, hs2⟩ := low_nat size 4 (by omega)
  obtain ⟨p, hp, hp2⟩ := low_nat epoch 1000 (by omega)
  have HC := hid hc
  have HS := hid hs
  have HP := hid hp
  clear wc ws we hc hs hp
  have hs1 : IntKind.i64.wrap (1 + (s : Int)) = 1 + (s : Int) := by rw [IntKind.wrap_i64]; omega
  have hp1 : IntKind.i64.wrap (1 + (p : Int)) = 1 + (p : Int) := by rw [IntKind.wrap_i64]; omega
  go_enter Try.func5, Try.ntmps5
  go_wp2_with fail
  refine (low_calls count 41 (by omega) (by omega) w).mono ?_
  rintro e w0 ⟨rfl, rfl⟩
  rw [show low count 41 = (c : Int) from HC.out]
  go_wp2_with fail
  refine (low_calls size 4 (by omega) (by omega) w).mono ?_
  rintro e w0 ⟨rfl, rfl⟩
  rw [show low size 4 = (s : Int) from HS.out]
  go_wp2_with fail
  refine (low_calls epoch 1000 (by omega) (by omega) w).mono ?_
  rintro e w0 ⟨rfl, rfl⟩
  rw [show low epoch 1000 = (p : Int) from HP.out]
  obtain ⟨S, hS⟩ : ∃ S : Int, 1 + (s : Int) = S := ⟨_, rfl⟩
  obtain ⟨E, hE⟩ : ∃ E : Int, 1 + (p : Int) = E := ⟨_, rfl⟩
  rw [hS] at hs1
  rw [hE] at hp1
  have hS1 : 1 ≤ S ∧ S ≤ 4 := by omega
  have hE1 : 1 ≤ E ∧ E ≤ 1000 := by omega
  obtain ⟨hSa, hSb⟩ := hS1
  obtain ⟨hEa, hEb⟩ := hE1
  go_wp2_with fail
  refine (new_any _ _ w).mono ?_
  intro e w1 hnew
  have hmay : mayW (c : Int) S = true := by unfold mayW; simp; omega
  obtain ⟨rfl, h1⟩ := new_yes hnew hmay
  have H1 := hid (show OnW 47 w.heap.size w.heap.size (ranW c S E 0) w w1 from h1)
  have hB : w.heap.size ≤ w.heap.size := Nat.le_refl _
  clear hnew h1 hmay hs1 hp1 hS hE HC HS HP
  generalize hbb : w.heap.size = b at H1 hB
  have HBB := hid hbb
  clear hbb
  go_wp2
  go_loopw [9] (fun i wr => ∃ k : Nat, i = .int .i64 k ∧ k ≤ c ∧ OnW 47 b b (ranW c S E k) w wr) (fun i _ => c - (intOf i).toNat)
  case atStart => exact ⟨0, rfl, by omega, H1.out⟩
  case round =>
    obtain ⟨k, rfl, hk, hon⟩ := hrel
    have H2 := hid hon
    clear hon H1
    by_cases hlt : k < c
    · have d1 : decide ((k : Int) < (c : Int)) = true := by simp; omega
      have hkc : (k : Int) < (c : Int) := by omega
      have hNe := openN_eq H2.out.ok
      have hN : 0 < openN (ranW c S E k) := by
        have : (ranW c S E k).size = S := rfl
        have : (ranW c S E k).count = c := rfl
        have : (ranW c S E k).next = k := rfl
        omega
      have hD : doneW (ranW c S E k) = false := by
        have := (doneW_iff H2.out.ok).1
        cases h : doneW (ranW c S E k) with
        | false => rfl
        | true => exact absurd (this h) (by omega)
      have HD := hid hD
      have HA := hid (ranW_ack (s := S) hEa hkc)
      have HA2 := hid (ranW_twice (s := S) hEa hkc)
      have HA3 := hid (ranW_less (c := c) (s := S) (e := E) (n := 40) (k := k))
      have hadd : IntKind.i64.wrap ((k : Int) + 1) = (k : Int) + 1 := by rw [IntKind.wrap_i64]; omega
      have hsub : IntKind.i64.wrap (E - 1) = E - 1 := by rw [IntKind.wrap_i64]; omega
      clear hNe hD hkc
      go_wp2_with fail
      refine (open_any b _ wr H2.out.wn H2.out.ok).mono ?_
      rintro e w2 ⟨ao, cc, rfl, ho, hb⟩
      obtain ⟨g, c', hv, hc0⟩ := openIs_first ho hN
      cases hv
      have hc0 : w2.cell? ⟨g, 0, none⟩ = some (.int .i64 (k : Int)) := hc0
      have H3 := hid (H2.out.below hb)
      clear ho hb H2
      obtain ⟨N, hNN⟩ : ∃ N, openN (ranW c S E k) = N := ⟨_, rfl⟩
      rw [hNN] at hN ⊢
      clear hNN
      have e1 : ((N : Int) == 0) = false := by simp; omega
      have e2 : ((k : Int) != (k : Int)) = false := by simp
      go_wp2_with fail
      refine (done_any b _ w2 H3.out.wn H3.out.ok).mono ?_
      rintro e w3 ⟨rfl, t3, rfl⟩
      rw [HD.out]
      have H4 := hid (H3.out.below (below_drewNW _ t3))
      clear H3
      go_wp2_with fail
      refine (ack_any b _ E ((k : Int) + 1) _ H4.out.wn H4.out.ok).mono ?_
      rintro e w4 ⟨rfl, hw4, hs4⟩
      rw [HA.out.1]
      have hk4 := ackW_ok H4.out.ok E ((k : Int) + 1)
      rw [HA.out.2] at hw4 hk4
      have H5 := hid (H4.out.just hw4 hk4 hs4)
      clear hw4 hk4 hs4 H4
      go_wp2_with fail
      refine (ack_any b _ E ((k : Int) + 1) _ H5.out.wn H5.out.ok).mono ?_
      rintro e w5 ⟨rfl, hw5, hs5⟩
      rw [HA2.out.1]
      rw [HA2.out.2] at hw5
      have H6 := hid (H5.out.just hw5 H5.out.ok hs5)
      clear hw5 hs5 H5
      by_cases hE2 : 1 < E
      · have d2 : decide (1 < E) = true := by simpa using hE2
        clear hE2
        go_wp2_with fail
        refine (ack_any b _ (E - 1) 40 _ H6.out.wn H6.out.ok).mono ?_
        rintro e w6 ⟨rfl, hw6, hs6⟩
        rw [HA3.out.1]
        rw [HA3.out.2] at hw6
        have H7 := hid (H6.out.just hw6 H6.out.ok hs6)
        clear hw6 hs6 H6
        go_wp2
        go_roundw
        case rel => exact ⟨k + 1, by go_num, by omega, H7.out⟩
        case measure => simp [intOf]; omega
      · have d2 : decide (1 < E) = false := by simpa using hE2
        clear hE2
        go_wp2
        go_roundw
        case rel => exact ⟨k + 1, by go_num, by omega, H6.out⟩
        case measure => simp [intOf]; omega
    · obtain rfl : k = c := by omega
      have d1 : decide ((k : Int) < (k : Int)) = false := by simp
      have HN := hid (show openN (ranW k S E k) = 0 from by
        have hNe := openN_eq H2.out.ok
        have : (ranW k S E k).size = S := rfl
        have : (ranW k S E k).count = k := rfl
        have : (ranW k S E k).next = k := rfl
        omega)
      have HD := hid ((doneW_iff H2.out.ok).2 HN.out)
      have e2 : ((k : Int) == (k : Int)) = true := by simp
      go_wp2_with fail
      refine (done_any b _ wr H2.out.wn H2.out.ok).mono ?_
      rintro e w3 ⟨rfl, t3, rfl⟩
      rw [HD.out]
      have H3 := hid (H2.out.below (below_drewNW _ t3))
      clear H2
      go_wp2_with fail
      refine (open_any b _ _ H3.out.wn H3.out.ok).mono ?_
      rintro e w4 ⟨ao, cc, rfl, ho, hb⟩
      have H4 := hid (H3.out.below hb)
      rw [HN.out]
      clear ho hb H3
      go_wp2_with fail
      refine (next_any b _ w4 H4.out.wn).mono ?_
      rintro e w5 ⟨rfl, rfl⟩
      rw [show (ranW k S E k).next = (k : Int) from rfl]
      go_wp2_with fail
      refine (awake_any _).mono ?_
      rintro e w6 ⟨rfl, hb6⟩
      go_wp2
      go_ret
      exact ⟨rfl, by rw [HBB.out]; exact H4.out.bel.trans (hb6.mono H4.out.size)⟩
end Go.Proofs.Ytaobiohdhdklaaa
