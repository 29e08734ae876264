/- StageApart: what is put of one attempt changes nothing of another one. -/
import Derived.Test.YtejkboahjfcdcaaSgLaw
namespace Go.Proofs.Ytejkboahjfcdcaa
open Go.RowKit
set_option linter.unusedVariables false

/-- One more chunk of the attempt, or of another one. -/
theorem put_yes {α : Type} {R : RowsS α} {k q : Int × Int} {seq : Int} {ps : List α} (hk : maySt k = true) (e : q = k) (h1 : seq = ((getS R k).length : Int)) (h2 : seq < 40) : getS (putS R q seq ps) k = getS R k ++ [ps] := by
  rw [getS_put, e, if_pos ⟨(takesS_iff _ _ _).2 ⟨hk, h1, h2⟩, rfl⟩]
theorem put_none {α : Type} {R : RowsS α} {k q : Int × Int} {seq : Int} {ps : List α} (h : ¬ (q = k ∧ seq = ((getS R k).length : Int) ∧ seq < 40)) : getS (putS R q seq ps) k = getS R k := by
  rw [getS_put, if_neg]
  rintro ⟨h1, h2⟩
  subst h2
  exact h ⟨rfl, ((takesS_iff _ _ _).1 h1).2⟩
set_option maxHeartbeats 4000000 in
set_option maxRecDepth 100000 in
theorem stageApart_walk (W : World) (v : Value) (l : List ActV) (hv : rSlice 5 rAct W [v] l) (s0 : Int) (ws : (Lit.int .i64 s0).wf = true) (t0 : Int) (wt : (Lit.int .i64 t0).wf = true) :
    Calls Try.prog 4 #[v, .int .i64 s0, .int .i64 t0] W fun e w' => e = .returned (.bool true) ∧ Below W.heap.size W w' := by
  have HV := hid hv
  obtain ⟨ao, ca, hv, a1, a2, a3, a4⟩ := hv
  obtain rfl : v = _ := by simpa using hv
  have HC := hid a4
  clear hv a4 a3
  unfold maxLen at a2
  obtain ⟨i0, hi, hz0, hz1, hz2⟩ := info_parts Try.infoP
  go_enter Try.func4, Try.ntmps4
  go_wp2_with fail
  refine (great_any _ l 100 W HV.out (by decide)).mono ?_
  rintro e w1 ⟨⟨g, rfl, hg⟩, hw1⟩
  obtain rfl := hw1.symm
  have HGR := hid hg
  clear hg
  cases g with
  | true =>
    go_wp2_with fail
    refine (awake_calls _).mono ?_
    rintro e w2 ⟨rfl, hb2⟩
    have HB2 := hid hb2
    clear hb2
    go_wp2
    go_ret
    exact ⟨rfl, HB2.out⟩
  | false =>
    obtain ⟨hl, hsm⟩ := HGR.out rfl
    have HSM := hid hsm
    clear hsm HGR
    obtain ⟨sp, hsp, hsp6⟩ := low_nat s0 6 (by decide)
    obtain ⟨tp, htp, htp3⟩ := low_nat t0 3 (by decide)
    have HSP := hid hsp
    have HTP := hid htp
    clear hsp htp
    go_wp2_with fail
    refine (low_calls s0 6 (by decide) (by decide) _).mono ?_
    rintro e w1 ⟨rfl, rfl⟩
    rw [show low s0 6 = (sp : Int) from HSP.out]
    go_wp2_with fail
    refine (low_calls t0 3 (by decide) (by decide) _).mono ?_
    rintro e w1 ⟨rfl, rfl⟩
    rw [show low t0 3 = (tp : Int) from HTP.out]
    go_wp2_with fail
    refine (new_stage _).mono ?_
    rintro e w1 ⟨rfl, hw1⟩
    have H1 := hid (show OnG W.heap.size W.heap.size (.map none) [] W w1 by rw [hw1]; exact OnG.new W)
    clear hw1
    have HKM := hid (show maySt ((sp : Int), 1 + (tp : Int)) = true by rw [maySt_iff]; omega)
    have HKW := hid (show W64 ((sp : Int), 1 + (tp : Int)) from ⟨wf_small (by omega) (by omega), wf_small (by omega) (by omega)⟩)
    clear HSP HTP
    go_wp2
    generalize hks : (sp : Int) = ks at *
    generalize hkt : (1 : Int) + (tp : Int) = kt at *
    clear hks hkt
    go_loopw [8, 9, 10] (fun u n i wr => ∃ (j N : Nat) (mv : Value) (X : List ((Int × Int) × Pay)) (ps : List KV), j ≤ l.length ∧ i = .int .i64 j ∧ n = .int .i64 N ∧ Hid (OnG W.heap.size W.heap.size mv X W wr) ∧ Hid (WantG W.heap.size W.heap.size mv X u ps wr) ∧ Hid ((getS (chS X) (ks, kt)).length = N) ∧ Hid (ps = (getS (chS X) (ks, kt)).flatten) ∧ Hid (Short 20 (chS X))) (fun _ _ i _ => l.length - (intOf i).toNat)
    case atStart => exact ⟨0, 0, _, _, [], by omega, rfl, rfl, H1, hid (WantG.nil _ _ _ _ _), hid rfl, hid rfl, hid (Short.nil _)⟩
    case round =>
      obtain ⟨j, N, mv, X, ps, hj, rfl, rfl, H, HWN, HN, HPS, HSH⟩ := hrel
      by_cases hlt : j < l.length
      · obtain ⟨b, off, rfl, hb, hc⟩ := HC.out (by intro e; rw [e] at hlt; simp at hlt)
        obtain ⟨xo, xc, c0, c1, c2, c3, c4, hp, hw64⟩ := acts_later hc hb H.out.bel hlt
        have hx20 := HSM.out _ (List.getElem_mem hlt)
        have HXP := hid (hp.below H.out.bel)
        have HPW := hid hp
        have HXW := hid hw64
        have hd4 : decide ((j : Int) < (l.length : Int)) = true := by simp; omega
        generalize l[j].1 = xd at c0
        generalize l[j].2.1 = xs at c1 HXW
        generalize l[j].2.2.1 = xt at c2 HXW
        generalize l[j].2.2.2.1 = xq at c3
        generalize l[j].2.2.2.2 = xp at c4 hx20 HXP HPW
        clear hp hw64 hc
        have hbx := alloc_one wr (.cells #[.int .i64 xd, .int .i64 xs, .int .i64 xt, .int .i64 xq, .slice xo xp.length xc] 33)
        have HX := hid (H.out.below hbx)
        have HWX := hid (HWN.out.below hbx)
        have HXQ := hid (HXP.out.below hbx)
        have HXB := hid (new_block wr (.cells #[.int .i64 xd, .int .i64 xs, .int .i64 xt, .int .i64 xq, .slice xo xp.length xc] 33))
        have HXL := hid (fun (h : InG W.heap.size mv X wr.heap.size) => Nat.lt_irrefl _ (H.out.sg.lt h).2)
        clear hbx
        go_wp2_with fail
        refine (put_any W.heap.size W.heap.size mv X (xs, xt) HXW.out xq _ xp _ HX.out.sg HXQ.out (by omega)).mono ?_
        rintro e w2 ⟨rfl, mv2, X2, s2, r2, v2, n2⟩
        have H2 := hid (HX.out.turn s2 v2)
        have HWN2 := hid (HWX.out.turn v2 n2)
        have hx2 := v2.at HXB.out HXL.out
        have HP2 := hid (show Prs w2 (.slice xo xp.length xc) xp from HPW.out.below H2.out.bel)
        have HR2 := hid r2
        have HS2 := hid (show Short 20 (chS X2) from by rw [r2]; exact HSH.out.put _ _ hx20)
        have d1 : w2.cell? ⟨wr.heap.size, 1, none⟩ = some (.int .i64 xs) := cell_of_cells hx2
        have d2 : w2.cell? ⟨wr.heap.size, 2, none⟩ = some (.int .i64 xt) := cell_of_cells hx2
        have d3 : w2.cell? ⟨wr.heap.size, 3, none⟩ = some (.int .i64 xq) := cell_of_cells hx2
        have d4 : w2.cell? ⟨wr.heap.size, 4, none⟩ = some (.slice xo xp.length xc) := cell_of_cells hx2
        generalize putN (chS X) (xs, xt) xq = pn
        clear c0 c1 c2 c3 c4 s2 r2 v2 n2 hx2 HX HWX HXQ HXB HXL H HWN HXP
        by_cases e1 : xs = ks
        case neg =>
          have HE := hid (show getS (chS X2) (ks, kt) = getS (chS X) (ks, kt) from by
            rw [HR2.out]
            exact put_none (fun e => e1 (congrArg Prod.fst e.1)))
          have H3 := H2
          have HW3 := HWN2
          have HL3 := hid (show (getS (chS X2) (ks, kt)).length = N from by rw [HE.out]; exact HN.out)
          have HP3 := hid (show ps = (getS (chS X2) (ks, kt)).flatten from by rw [HE.out]; exact HPS.out)
          clear HE
          have hL18 := okS_few H3.out.sg.ok
          obtain ⟨L, hL⟩ : ∃ L, (chS X2).length = L := ⟨_, rfl⟩
          rw [hL] at hL18
          have HLL := hid hL
          have hd8 : decide ((18 : Int) < (L : Int)) = false := by simp; omega
          clear hL
          go_wp2_with fail
          refine (next_any W.heap.size W.heap.size mv2 X2 (ks, kt) HKW.out w2 H3.out.sg).mono ?_
          rintro e w4 ⟨rfl, rfl⟩
          rw [HL3.out]
          go_wp2_with fail
          refine (count_any W.heap.size W.heap.size mv2 X2 w2 H3.out.sg).mono ?_
          rintro e w4 ⟨rfl, rfl⟩
          rw [HLL.out]
          go_wp2
          go_roundw
          case rel => exact ⟨j + 1, N, mv2, X2, ps, by omega, by go_num, by go_num, H3, HW3, HL3, HP3, HS2⟩
          case measure => simp [intOf]; omega
        by_cases e2 : xt = kt
        case neg =>
          have HE := hid (show getS (chS X2) (ks, kt) = getS (chS X) (ks, kt) from by
            rw [HR2.out]
            exact put_none (fun e => e2 (congrArg Prod.snd e.1)))
          have H3 := H2
          have HW3 := HWN2
          have HL3 := hid (show (getS (chS X2) (ks, kt)).length = N from by rw [HE.out]; exact HN.out)
          have HP3 := hid (show ps = (getS (chS X2) (ks, kt)).flatten from by rw [HE.out]; exact HPS.out)
          clear HE
          have hL18 := okS_few H3.out.sg.ok
          obtain ⟨L, hL⟩ : ∃ L, (chS X2).length = L := ⟨_, rfl⟩
          rw [hL] at hL18
          have HLL := hid hL
          have hd8 : decide ((18 : Int) < (L : Int)) = false := by simp; omega
          clear hL
          go_wp2_with fail
          refine (next_any W.heap.size W.heap.size mv2 X2 (ks, kt) HKW.out w2 H3.out.sg).mono ?_
          rintro e w4 ⟨rfl, rfl⟩
          rw [HL3.out]
          go_wp2_with fail
          refine (count_any W.heap.size W.heap.size mv2 X2 w2 H3.out.sg).mono ?_
          rintro e w4 ⟨rfl, rfl⟩
          rw [HLL.out]
          go_wp2
          go_roundw
          case rel => exact ⟨j + 1, N, mv2, X2, ps, by omega, by go_num, by go_num, H3, HW3, HL3, HP3, HS2⟩
          case measure => simp [intOf]; omega
        by_cases e3 : xq = (N : Int)
        case neg =>
          have HE := hid (show getS (chS X2) (ks, kt) = getS (chS X) (ks, kt) from by
            rw [HR2.out]
            exact put_none (fun e => e3 (by rw [HN.out] at e; exact e.2.1)))
          have H3 := H2
          have HW3 := HWN2
          have HL3 := hid (show (getS (chS X2) (ks, kt)).length = N from by rw [HE.out]; exact HN.out)
          have HP3 := hid (show ps = (getS (chS X2) (ks, kt)).flatten from by rw [HE.out]; exact HPS.out)
          clear HE
          have hL18 := okS_few H3.out.sg.ok
          obtain ⟨L, hL⟩ : ∃ L, (chS X2).length = L := ⟨_, rfl⟩
          rw [hL] at hL18
          have HLL := hid hL
          have hd8 : decide ((18 : Int) < (L : Int)) = false := by simp; omega
          clear hL
          go_wp2_with fail
          refine (next_any W.heap.size W.heap.size mv2 X2 (ks, kt) HKW.out w2 H3.out.sg).mono ?_
          rintro e w4 ⟨rfl, rfl⟩
          rw [HL3.out]
          go_wp2_with fail
          refine (count_any W.heap.size W.heap.size mv2 X2 w2 H3.out.sg).mono ?_
          rintro e w4 ⟨rfl, rfl⟩
          rw [HLL.out]
          go_wp2
          go_roundw
          case rel => exact ⟨j + 1, N, mv2, X2, ps, by omega, by go_num, by go_num, H3, HW3, HL3, HP3, HS2⟩
          case measure => simp [intOf]; omega
        by_cases e4 : (N : Int) < 40
        case neg =>
          have HE := hid (show getS (chS X2) (ks, kt) = getS (chS X) (ks, kt) from by
            rw [HR2.out]
            exact put_none (fun e => e4 (by have h1 := e.2.1; have h2 := e.2.2; rw [HN.out] at h1; omega)))
          have H3 := H2
          have HW3 := HWN2
          have HL3 := hid (show (getS (chS X2) (ks, kt)).length = N from by rw [HE.out]; exact HN.out)
          have HP3 := hid (show ps = (getS (chS X2) (ks, kt)).flatten from by rw [HE.out]; exact HPS.out)
          clear HE
          have hL18 := okS_few H3.out.sg.ok
          obtain ⟨L, hL⟩ : ∃ L, (chS X2).length = L := ⟨_, rfl⟩
          rw [hL] at hL18
          have HLL := hid hL
          have hd8 : decide ((18 : Int) < (L : Int)) = false := by simp; omega
          clear hL
          go_wp2_with fail
          refine (next_any W.heap.size W.heap.size mv2 X2 (ks, kt) HKW.out w2 H3.out.sg).mono ?_
          rintro e w4 ⟨rfl, rfl⟩
          rw [HL3.out]
          go_wp2_with fail
          refine (count_any W.heap.size W.heap.size mv2 X2 w2 H3.out.sg).mono ?_
          rintro e w4 ⟨rfl, rfl⟩
          rw [HLL.out]
          go_wp2
          go_roundw
          case rel => exact ⟨j + 1, N, mv2, X2, ps, by omega, by go_num, by go_num, H3, HW3, HL3, HP3, HS2⟩
          case measure => simp [intOf]; omega
        have HE := hid (show getS (chS X2) (ks, kt) = getS (chS X) (ks, kt) ++ [xp] from by
          rw [HR2.out]
          exact put_yes HKM.out (by rw [e1, e2]) (by rw [HN.out]; exact e3) (by rw [e3]; exact e4))
        subst e1 e2 e3
        have hps8 : ps.length ≤ 800 := by
          rw [HPS.out]
          have h1 := flat_le (HSH.out.get (xs, xt))
          have h2 : (getS (chS X) (xs, xt)).length ≤ 40 := by rw [HN.out]; omega
          omega
        have hd9 : decide ((N : Int) < 40) = true := by simpa using e4
        obtain ⟨-, -, -, hx1, -, hx3, -⟩ := id HP2.out
        have hxn : xo = none → xp.length = 0 ∧ xc = 0 := HP2.out.noneOf
        go_wp2_with (at_builtin; refine wpList_append_at_any _ rfl _ _ 31 rfl W.heap.size 53 i0 (.agg #[.string ⟨#[]⟩, .string ⟨#[]⟩]) 2 32 Try.underlying31 hi hz0 hz1 hz2 rfl (by decide) _ ps.length (fl encP ps) rfl HWN2.out.row xo xp.length xc (fl encP xp) rfl (fl_length encP_len xp) hxn (Reads.news encP_len (by decide) HP2.out (Below.refl _ _)) (fl_one encP_one xp) (by unfold maxLen; omega) (by omega) H2.out.sg.low ?_; intro v3 w3 ho3 hg3 hat3)
        obtain ⟨w1', w2'⟩ := WantG.more (qs := xp) HWN2.out H2.out ho3 hg3 hat3
        have HW3 := hid w1'
        have H3 := hid w2'
        have HL3 := hid (show (getS (chS X2) (xs, xt)).length = N + 1 from by rw [HE.out, List.length_append, HN.out]; rfl)
        have HP3 := hid (show ps ++ xp = (getS (chS X2) (xs, xt)).flatten from by rw [HE.out, List.flatten_append, ← HPS.out]; simp)
        clear ho3 hg3 hat3 w1' w2' HE H2 HWN2 HPW
        have hL18 := okS_few H3.out.sg.ok
        obtain ⟨L, hL⟩ : ∃ L, (chS X2).length = L := ⟨_, rfl⟩
        rw [hL] at hL18
        have HLL := hid hL
        have hd8 : decide ((18 : Int) < (L : Int)) = false := by simp; omega
        clear hL
        refine (next_any W.heap.size W.heap.size mv2 X2 (xs, xt) HKW.out w3 H3.out.sg).mono ?_
        rintro e w4 ⟨rfl, rfl⟩
        rw [HL3.out]
        go_wp2_with fail
        refine (count_any W.heap.size W.heap.size mv2 X2 w3 H3.out.sg).mono ?_
        rintro e w4 ⟨rfl, rfl⟩
        rw [HLL.out]
        go_wp2
        go_roundw
        case rel => exact ⟨j + 1, N + 1, mv2, X2, ps ++ xp, by omega, by go_num, by go_num, H3, HW3, HL3, HP3, HS2⟩
        case measure => simp [intOf]; omega
      · obtain rfl : j = l.length := by omega
        have hd4 : decide ((l.length : Int) < (l.length : Int)) = false := by simp
        have hfl := HSH.out.flat H.out.sg.ok (ks, kt)
        have hN40 : N ≤ 40 := by
          rw [← HN.out]
          by_cases e : getS (chS X) (ks, kt) = []
          · rw [e]; simp
          · exact H.out.sg.ok.few _ (getS_mem e)
        go_wp2_with fail
        refine (take_yes W.heap.size W.heap.size mv X (ks, kt) HKW.out N wr H.out.sg HN.out hfl).mono ?_
        rintro e w2 ⟨u2, rfl, ho2, hb2⟩
        rw [← HPS.out] at ho2
        have HO2 := hid ho2
        have H2 := hid (H.out.below hb2)
        have HW2 := hid (HWN.out.below hb2)
        clear ho2 hb2 hfl H HWN
        go_wp2_with fail
        refine (take_no W.heap.size W.heap.size mv X (ks, kt) HKW.out ((N : Int) + 1) w2 H2.out.sg (by rw [HN.out]; omega)).mono ?_
        rintro e w3 ⟨rfl, rfl⟩
        go_wp2_with fail
        refine (samePairs_dec _ _ ps ps w2 (Reads.own encP_len (by decide) HO2.out) (Reads.own encP_len (by decide) HW2.out.row)).mono ?_
        rintro e w3 ⟨rfl, n3, rfl⟩
        have H3 := hid (H2.out.below (below_drew w2 n3))
        rw [decide_eq_true rfl]
        generalize w2.drewN n3 = w3 at *
        clear HO2 HW2 H2
        go_wp2_with fail
        refine (next_any W.heap.size W.heap.size mv X (ks, kt) HKW.out w3 H3.out.sg).mono ?_
        rintro e w4 ⟨rfl, rfl⟩
        rw [HN.out]
        go_wp2_with fail
        refine (awake_calls _).mono ?_
        rintro e w4 ⟨rfl, hb4⟩
        have HB4 := hid (H3.out.bel.trans (hb4.mono H3.out.sg.low))
        clear hb4
        go_wp2
        go_ret
        exact ⟨rfl, HB4.out⟩
end Go.Proofs.Ytejkboahjfcdcaa
