/- WindowBounds: never are more open than the size; what never falls. -/
import Derived.Test.YtaobiohdhdklaaaWnActs
import Derived.Test.YtaobiohdhdklaaaLowC
import Derived.Deep.Cut
namespace Go.Proofs.Ytaobiohdhdklaaa
open Go.RowKit
set_option linter.unusedVariables false
/-- The j-th of those that are open. -/
theorem openIs_at {x : WinV} {w' : World} {B c : Nat} {ao : Option Addr} (ho : w'.ownsRow B 3 1 (.slice ao (openN x) c) (openN x) (ict (openW x))) {j : Nat} (h : j < openN x) : ∃ g, ao = some ⟨g, 0, none⟩ ∧ w'.cell? ⟨g, j, none⟩ = some (.int .i64 (x.next + (j : Int))) ∧ openN x ≤ c ∧ c ≤ maxLen := by
  rcases ho.2 with ⟨e1, e⟩ | ⟨g, cap, cur, e, h1, h2, h3, h4, _⟩
  · omega
  · cases e
    refine ⟨g, rfl, (ho.cellAt j (by omega)).trans ?_, h3, h4⟩
    simp [ict, openW_at h]
theorem drew_is (w : World) : w.drew = w.drewN 1 := rfl
theorem OnW.ack {T B b : Nat} {x : WinV} {W w w' : World} {e n : Int} (h : OnW T B b x W w) (k : Wn T b (ackW x e n) w') (hs : Sav (Just b) w w') : OnW T B b (ackW x e n) W w' := h.just k (ackW_ok h.ok e n) hs
set_option maxHeartbeats 8000000 in
set_option maxRecDepth 100000 in
theorem windowBounds_walk (W : World) (count : Int) (wc : (Lit.int .i64 count).wf = true) (size : Int) (ws : (Lit.int .i64 size).wf = true) (v : Value) (l : List ActV) (h : rSlice 2 rAct W [v] l) :
    Calls Try.prog 4 #[.int .i64 count, .int .i64 size, v] W fun e w' => e = .returned (.bool true) ∧ Below W.heap.size W w' := by
  obtain ⟨ao, cap, hv, a1, a2, a3, a4⟩ := h
  obtain rfl : v = _ := by simpa using hv
  have HA := hid a4
  clear hv a3 a4
  unfold maxLen at a2
  by_cases hbig : 100 < l.length
  · have d1 : decide ((100 : Int) < (l.length : Int)) = true := by simp; omega
    clear hbig
    go_enter Try.func4, Try.ntmps4
    go_wp2_with fail
    refine (awake_any _).mono ?_
    rintro e w1 ⟨rfl, hb⟩
    go_wp2
    go_ret
    exact ⟨rfl, hb⟩
  · have d1 : decide ((100 : Int) < (l.length : Int)) = false := by simp; omega
    obtain ⟨c, hc, hc2⟩ := low_nat count 41 (by omega)
    obtain ⟨s, hs, hs2⟩ := low_nat size 4 (by omega)
    have HC := hid hc
    have HS := hid hs
    clear wc ws hc hs hbig
    have hs1 : IntKind.i64.wrap (1 + (s : Int)) = 1 + (s : Int) := by rw [IntKind.wrap_i64]; omega
    go_enter Try.func4, Try.ntmps4
    go_wp2_with fail
    refine (low_calls count 41 (by omega) (by omega) W).mono ?_
    rintro e w0 ⟨rfl, rfl⟩
    rw [show low count 41 = (c : Int) from HC.out]
    go_wp2_with fail
    refine (low_calls size 4 (by omega) (by omega) W).mono ?_
    rintro e w0 ⟨rfl, rfl⟩
    rw [show low size 4 = (s : Int) from HS.out]
    obtain ⟨S, hS⟩ : ∃ S : Int, 1 + (s : Int) = S := ⟨_, rfl⟩
    rw [hS] at hs1
    have hS1 : 1 ≤ S ∧ S ≤ 4 := by omega
    obtain ⟨hSa, hSb⟩ := hS1
    go_wp2_with fail
    refine (new_any _ _ W).mono ?_
    intro e w1 hnew
    have hmay : mayW (c : Int) S = true := by unfold mayW; simp; omega
    obtain ⟨rfl, h1⟩ := new_yes hnew hmay
    have H1 := hid h1
    clear hnew h1 hmay hs1 hS HC HS
    generalize hbb : W.heap.size = b at H1
    have HBB := hid hbb
    clear hbb
    obtain ⟨z, hz⟩ : ∃ z, doneW (newW c S) = z := ⟨_, rfl⟩
    have d3 : ((c : Int) == 0) = z := by
      rw [← hz]
      show _ = decide ((c : Int) ≤ 0)
      rw [Bool.eq_iff_iff, decide_eq_true_eq, beq_iff_eq]
      omega
    have HZ := hid hz
    clear hz
    go_wp2_with fail
    refine (done_any b _ w1 H1.out.wn H1.out.ok).mono ?_
    rintro e w2 ⟨rfl, t2, rfl⟩
    have H2 := hid (H1.out.below (below_drewNW _ t2))
    rw [HZ.out]
    clear H1 HZ
    generalize w1.drewN t2 = w3 at *
    go_wp2
    clear d3
    go_loopw [9] (fun i wr => ∃ k : Nat, k ≤ l.length ∧ i = .int .i64 k ∧ ∃ x : WinV, x.count = c ∧ x.size = S ∧ OnW 47 b b x W wr) (fun i _ => l.length - (intOf i).toNat)
    case atStart => exact ⟨0, by omega, rfl, _, rfl, rfl, H2.out⟩
    case round =>
      obtain ⟨k, hk, rfl, x, hxc, hxs, hon⟩ := hrel
      have H3 := hid hon
      have HXC := hid hxc
      have HXS := hid hxs
      clear hon hxc hxs H2
      by_cases hlt : k < l.length
      · obtain ⟨q, off, rfl, hbl, hcc⟩ := HA.out (by intro e; rw [e] at hlt; simp at hlt)
        obtain ⟨x0, x1⟩ := Acts.at hcc hlt
        rcases hact : l[k] with ⟨ep, nx⟩
        rw [hact] at x0 x1
        simp only at x0 x1
        have hqb : q < b := by rw [← HBB.out]; exact hbl
        replace x0 := (H3.out.bel.cell (p := ⟨q, off + k * 2, none⟩) hqb).trans x0
        replace x1 := (H3.out.bel.cell (p := ⟨q, off + k * 2 + 1, none⟩) hqb).trans x1
        clear hact hcc hbl
        have d4 : decide ((k : Int) < (l.length : Int)) = true := by simp; omega
        go_wp2_with fail
        refine (epoch_any b _ wr H3.out.wn).mono ?_
        rintro e w4 ⟨rfl, rfl⟩
        go_wp2_with fail
        refine (next_any b _ w4 H3.out.wn).mono ?_
        rintro e w6 ⟨rfl, rfl⟩
        go_upto_region 11 with fail
        have H4 := hid (H3.out.below (below_drewNW _ 1))
        rw [← drew_is] at H4
        go_region_held3 (fun w' => w'.cell? ⟨q, off + k * 2, none⟩ = some (.int .i64 ep) ∧ w'.cell? ⟨q, off + k * 2 + 1, none⟩ = some (.int .i64 nx)) (go_keep) (first | (go_at_call 11; refine (ack_any b x ep nx w6.drew H4.out.wn H4.out.ok).mono ?_; rintro e w5 ⟨rfl, hw5, hs5⟩; have H5 := hid (H4.out.ack hw5 hs5); have y0 : w5.cell? ⟨q, off + k * 2, none⟩ = some (.int .i64 ep) := (hs5.cell (a := ⟨q, off + k * 2, none⟩) (Nat.lt_trans hqb H4.out.wn.lt) (by show ¬ q = b; omega)).trans x0; have y1 : w5.cell? ⟨q, off + k * 2 + 1, none⟩ = some (.int .i64 nx) := (hs5.cell (a := ⟨q, off + k * 2 + 1, none⟩) (Nat.lt_trans hqb H4.out.wn.lt) (by show ¬ q = b; omega)).trans x1; clear hw5 hs5))
        obtain ⟨y, hy⟩ : ∃ y, ackW x ep nx = y := ⟨_, rfl⟩
        have hyc : y.count = c := by rw [← hy, ackW_count, HXC.out]
        have hys : y.size = S := by rw [← hy, ackW_size, HXS.out]
        have hr := ackW_rises (w := x) ep nx
        rw [hy] at hr H5
        obtain ⟨hr1, hr2⟩ := hr
        clear hy y0 y1 x0 x1 H4 H3
        go_wp2_with fail
        refine (open_any b y w5 H5.out.wn H5.out.ok).mono ?_
        rintro e w7 ⟨uo, uc, rfl, ho, hb⟩
        have H7 := hid (H5.out.below hb)
        have hNe := openN_eq H5.out.ok
        have hn0 := H5.out.ok.n0
        have hn1 := H5.out.ok.n1
        rw [hys, hyc] at hNe
        rw [hyc] at hn1
        obtain ⟨N, hN⟩ : ∃ N, openN y = N := ⟨_, rfl⟩
        have HN := hid hN
        have HO := hid ho
        rw [hN] at hNe
        rw [hN]
        generalize w5.heap.size = P at HO
        have hsub : IntKind.i64.wrap ((c : Int) - y.next) = (c : Int) - y.next := by rw [IntKind.wrap_i64]; omega
        have hmin : (if (c : Int) - y.next < S then (c : Int) - y.next else S) = (N : Int) := by split <;> omega
        obtain ⟨z2, hz2⟩ : ∃ z, doneW y = z := ⟨_, rfl⟩
        have d9 : ((N : Int) == 0) = z2 := by
          have h5 := doneW_iff H5.out.ok
          rw [← hz2, Bool.eq_iff_iff, beq_iff_eq, h5]
          omega
        have HZ2 := hid hz2
        have HNE := hid hNe
        have HYC := hid hyc
        have HYS := hid hys
        clear hN hNe hz2 hyc hys ho hb H5
        have d5 : decide (y.epoch < x.epoch) = false := by simp; omega
        have d10 : ((N : Int) != (N : Int)) = false := by simp
        obtain ⟨yn, hyn⟩ : ∃ yn, y.next = yn := ⟨_, rfl⟩
        rw [hyn] at hsub hmin hn0 hn1 hr2
        have HYN := hid hyn
        have HNE2 := HNE.out
        rw [hyn] at HNE2
        clear HNE
        have HNE := hid HNE2
        clear HNE2 hyn
        by_cases heq : y.epoch = x.epoch
        · have hxy := hr2 heq
          have d6 : (y.epoch == x.epoch) = true := by simpa using heq
          have d7 : decide (yn < x.next) = false := by simp; omega
          clear heq hr2 hxy hr1
          go_wp2_with fail
          refine (epoch_any b y w7 H7.out.wn).mono ?_
          rintro e w8 ⟨rfl, rfl⟩
          go_wp2_with fail
          refine (epoch_any b y w8 H7.out.wn).mono ?_
          rintro e w9 ⟨rfl, rfl⟩
          go_wp2_with fail
          refine (next_any b y w9 H7.out.wn).mono ?_
          rintro e w7 ⟨rfl, rfl⟩
          rw [HYN.out]
          go_wp2_with fail
          refine (next_any b y w7 H7.out.wn).mono ?_
          rintro e w8 ⟨rfl, rfl⟩
          rw [HYN.out]
          go_wp2_with fail
          refine (done_any b y w8 H7.out.wn H7.out.ok).mono ?_
          rintro e w9 ⟨rfl, t9, rfl⟩
          rw [HZ2.out]
          have H9 := hid (H7.out.below (below_drewNW _ t9))
          have HO9 := hid (owns_below HO.out (below_drewNW _ t9))
          clear H7 HO hmin d10 d5
          generalize w8.drewN t9 = w10 at *
          go_wp2
          clear d9
          go_loopw [13] (fun i wx => ∃ j : Nat, j ≤ N ∧ i = .int .i64 j ∧ OnW 47 b b y W wx ∧ wx.ownsRow P 3 1 (.slice uo (openN y) uc) (openN y) (ict (openW y))) (fun i _ => N - (intOf i).toNat)
          case atStart => exact ⟨0, by omega, rfl, H9.out, HO9.out⟩
          case round =>
            obtain ⟨j, hj, rfl, hon, hox⟩ := hrel
            clear H9 HO9
            by_cases hltj : j < N
            · obtain ⟨g, rfl, cj, hNc, hcm⟩ := openIs_at hox (j := j) (by rw [HN.out]; exact hltj)
              rw [HYN.out] at cj
              rw [HN.out] at hNc
              unfold maxLen at hcm
              have hNE := HNE.out
              have HX := hid (hon.below (below_drewNW _ 1))
              have HOX := hid (owns_below hox (below_drewNW _ 1))
              rw [← drew_is] at HX HOX
              have d8 : decide ((j : Int) < (N : Int)) = true := by simp; omega
              have hadd : IntKind.i64.wrap (yn + (j : Int)) = yn + (j : Int) := by rw [IntKind.wrap_i64]; omega
              have e1 : ((yn + (j : Int)) != (yn + (j : Int))) = false := by simp
              have e2 : decide ((c : Int) ≤ yn + (j : Int)) = false := by simp; omega
              clear hon hox hNE
              go_upto_region 18 with fail
              go_region_held3 (fun w' => w'.cell? ⟨g, j, none⟩ = some (.int .i64 (yn + (j : Int)))) (go_keep) (first | (go_at_call 16; refine (next_any b y _ HX.out.wn).mono ?_; rintro e w11 ⟨rfl, rfl⟩; rw [HYN.out]))
              go_wp2
              go_roundw
              case rel => exact ⟨j + 1, by omega, by go_num, HX.out, HOX.out⟩
              case measure => simp [intOf]; omega
            · obtain rfl : j = N := by omega
              have d8 : decide ((j : Int) < (j : Int)) = false := by simp
              have HX := hid hon
              clear hon hox
              go_wp2
              go_roundw
              case rel => exact ⟨k + 1, by omega, by go_num, y, HYC.out, HYS.out, HX.out⟩
              case measure => simp [intOf]; omega
        · have d6 : (y.epoch == x.epoch) = false := by simpa using heq
          clear heq hr2 hr1
          go_wp2_with fail
          refine (epoch_any b y w7 H7.out.wn).mono ?_
          rintro e w8 ⟨rfl, rfl⟩
          go_wp2_with fail
          refine (epoch_any b y w8 H7.out.wn).mono ?_
          rintro e w7 ⟨rfl, rfl⟩
          go_wp2_with fail
          refine (next_any b y w7 H7.out.wn).mono ?_
          rintro e w8 ⟨rfl, rfl⟩
          rw [HYN.out]
          go_wp2_with fail
          refine (done_any b y w8 H7.out.wn H7.out.ok).mono ?_
          rintro e w9 ⟨rfl, t9, rfl⟩
          rw [HZ2.out]
          have H9 := hid (H7.out.below (below_drewNW _ t9))
          have HO9 := hid (owns_below HO.out (below_drewNW _ t9))
          clear H7 HO hmin d10 d5
          generalize w8.drewN t9 = w10 at *
          go_wp2
          clear d9
          go_loopw [13] (fun i wx => ∃ j : Nat, j ≤ N ∧ i = .int .i64 j ∧ OnW 47 b b y W wx ∧ wx.ownsRow P 3 1 (.slice uo (openN y) uc) (openN y) (ict (openW y))) (fun i _ => N - (intOf i).toNat)
          case atStart => exact ⟨0, by omega, rfl, H9.out, HO9.out⟩
          case round =>
            obtain ⟨j, hj, rfl, hon, hox⟩ := hrel
            clear H9 HO9
            by_cases hltj : j < N
            · obtain ⟨g, rfl, cj, hNc, hcm⟩ := openIs_at hox (j := j) (by rw [HN.out]; exact hltj)
              rw [HYN.out] at cj
              rw [HN.out] at hNc
              unfold maxLen at hcm
              have hNE := HNE.out
              have HX := hid (hon.below (below_drewNW _ 1))
              have HOX := hid (owns_below hox (below_drewNW _ 1))
              rw [← drew_is] at HX HOX
              have d8 : decide ((j : Int) < (N : Int)) = true := by simp; omega
              have hadd : IntKind.i64.wrap (yn + (j : Int)) = yn + (j : Int) := by rw [IntKind.wrap_i64]; omega
              have e1 : ((yn + (j : Int)) != (yn + (j : Int))) = false := by simp
              have e2 : decide ((c : Int) ≤ yn + (j : Int)) = false := by simp; omega
              clear hon hox hNE
              go_upto_region 18 with fail
              go_region_held3 (fun w' => w'.cell? ⟨g, j, none⟩ = some (.int .i64 (yn + (j : Int)))) (go_keep) (first | (go_at_call 16; refine (next_any b y _ HX.out.wn).mono ?_; rintro e w11 ⟨rfl, rfl⟩; rw [HYN.out]))
              go_wp2
              go_roundw
              case rel => exact ⟨j + 1, by omega, by go_num, HX.out, HOX.out⟩
              case measure => simp [intOf]; omega
            · obtain rfl : j = N := by omega
              have d8 : decide ((j : Int) < (j : Int)) = false := by simp
              have HX := hid hon
              clear hon hox
              go_wp2
              go_roundw
              case rel => exact ⟨k + 1, by omega, by go_num, y, HYC.out, HYS.out, HX.out⟩
              case measure => simp [intOf]; omega
      · obtain rfl : k = l.length := by omega
        have d4 : decide ((l.length : Int) < (l.length : Int)) = false := by simp
        go_wp2_with fail
        refine (awake_any _).mono ?_
        rintro e w6 ⟨rfl, hb6⟩
        go_wp2
        go_ret
        exact ⟨rfl, by rw [HBB.out]; exact H3.out.bel.trans (hb6.mono H3.out.size)⟩
end Go.Proofs.Ytaobiohdhdklaaa
