/- The walk of DiskScript. -/
import Derived.Test.YtnbikfgbjfcenaaDkTwo
import Derived.Deep.DeepCutAuto
namespace Go.Proofs.Ytnbikfgbjfcenaa
open Go.RowKit
set_option linter.unusedVariables false

set_option maxHeartbeats 4000000 in
set_option maxRecDepth 100000 in
theorem diskScript_walk (W : World) (v : Value) (l : List ActV) (h : rSlice 3 rAct W [v] l) : Calls Try.prog 3 #[v] W fun e W' => e = .returned (.bool true) ∧ Below W.heap.size W W' := by
  have HR := hid h
  obtain ⟨ao, cap, hv, a1, a2, a3, a4⟩ := h
  obtain rfl : v = _ := by simpa using hv
  have HA := hid a4
  clear hv a3 a4
  unfold maxLen at a2
  go_enter Try.func3, Try.ntmps3
  go_wp2_with fail
  refine (great_any _ l 80 W HR.out (by decide)).mono ?_
  rintro e w0 ⟨⟨g, rfl, hg⟩, rfl⟩
  cases g with
  | true =>
    clear hg
    go_wp2_with fail
    refine (awake_any _).mono ?_
    rintro e w1 ⟨rfl, hb⟩
    go_wp2
    go_ret
    exact ⟨rfl, hb⟩
  | false =>
    have HG := hid (hg rfl)
    clear hg
    have hle : l.length ≤ 80 := HG.out.1
    go_wp2_with fail
    refine (new_any _).mono ?_
    rintro e w1 ⟨rfl, hw1⟩
    have hs1 : w1.heap.size = w0.heap.size + 1 := by rw [hw1]; simp
    have H1 := On.new w0 w1 (by rw [hw1]; exact below_alloc _ _) hw1
    clear hw1
    have H2 := H1.below (below_alloc w1 (.cells #[.slice none 0 0, .int .i64 0] 30))
    have D2 := Dk.new w1 30 w0.heap.size (by omega)
    obtain ⟨p, hp⟩ : ∃ p, w0.heap.size = p := ⟨_, rfl⟩
    obtain ⟨q, hq⟩ : ∃ q, w1.heap.size = q := ⟨_, rfl⟩
    have HP := hid hp
    have HQ := hid (show p < q by omega)
    go_wp2
    try rw [hp]
    try rw [hq]
    try rw [show p + 1 = q by omega]
    rw [hp] at H2 D2
    rw [hq] at D2
    clear hp hq hs1 H1
    generalize w1.alloc (.cells #[.slice none 0 0, .int .i64 0] 30) = w2 at *
    have HD := hid D2
    have HO := hid H2
    clear D2 H2
    go_loopw [5] (fun iv wr => ∃ k : Nat, k ≤ l.length ∧ iv = .int .i64 k ∧ ∃ v u L n, Dk 42 p p v L n wr ∧ Dk 30 p q u L n wr ∧ Apart v u ∧ Below p w0 wr ∧ L.length ≤ 60 * k) (fun i _ => l.length - (intOf i).toNat)
    case atStart => exact ⟨0, by omega, rfl, .slice none 0 0, .slice none 0 0, [], 0, HO.out.dk, HD.out, (fun k hk => by cases hk), HO.out.bel, by simp⟩
    case round =>
      obtain ⟨k, hk, rfl, v, u, L, n, hdp, hdq, hap, hbel, hL⟩ := hrel
      clear HO HD
      have HDP := hid hdp
      have HDQ := hid hdq
      have HAP := hid hap
      clear hdp hdq hap
      by_cases hlt : k < l.length
      · have H60 := HG.out.2 l[k] (List.getElem_mem hlt)
        obtain ⟨b, off, rfl, hbl, hc⟩ := HA.out (by intro e; rw [e] at hlt; simp at hlt)
        obtain ⟨bo, bc, x0, x1, x2, hbs⟩ := Acts.at hc hlt
        rcases hact : l[k] with ⟨i, nn, m⟩
        rw [hact] at x0 x1 x2 hbs H60
        simp only at x0 x1 x2 hbs H60
        rw [HP.out] at hbl
        replace x0 := (hbel.cell (p := ⟨b, off + k * 3, none⟩) hbl).trans x0
        replace x1 := (hbel.cell (p := ⟨b, off + k * 3 + 1, none⟩) hbl).trans x1
        replace x2 := (hbel.cell (p := ⟨b, off + k * 3 + 2, none⟩) hbl).trans x2
        have HB := hid hbs
        clear hact hc hbs HA
        go_upto_region 11 with fail
        go_step
        iterate 9 (first | go_values | go_skip | go_guarded | go_step | go_upon | go_back)
        have HT := hid (Two.mk (act := #[.int .i64 i, .int .i64 nn, .slice bo m.length bc]) (HDP.out.below (below_alloc wr _)) (HDQ.out.below (below_alloc wr _)) (new_block wr _) (Nat.le_refl p) (Nat.le_of_lt HQ.out) HAP.out (hbel.alloc HDP.out.low (.cells #[.int .i64 i, .int .i64 nn, .slice bo m.length bc] 32)))
        clear HDP HDQ HAP x0 x1 x2 hbel
        generalize wr.alloc (.cells #[.int .i64 i, .int .i64 nn, .slice bo m.length bc] 32) = w3 at *
        generalize wr.heap.size = g at *
        go_cut [7] (fun ok wx => ok = .bool true ∧ ∃ v' u' L' n', Two p p q g #[.int .i64 i, .int .i64 nn, .slice bo m.length bc] v' u' L' n' L' n' w0 wx ∧ L'.length ≤ 60 * (k + 1))
        case first => as_aux_lemma =>
          have g0 : w3.cell? ⟨g, 0, none⟩ = some (.int .i64 i) := cell_of_cells HT.out.ga
          by_cases h0 : i = 0
          · subst h0
            have hsm := HB.out.below (HT.out.bel.mono (by rw [HP.out]; exact Nat.le_refl _))
            have g2 : w3.cell? ⟨g, 2, none⟩ = some (.slice bo m.length bc) := cell_of_cells HT.out.ga
            go_wp2_with fail
            refine (lend_any _ m w3 hsm (by omega)).mono ?_
            rintro e w4 ⟨rfl, ho4, hb4⟩
            have T4 := hid (HT.out.far hb4)
            have K4 := hid (Lent.mk0 HT.out ho4)
            have hr4 := HT.out.dp.low
            clear HT ho4 hb4 g0 g2
            generalize w3.heap.size = r at *
            go_wp2_with fail
            refine (append_any p p n v _ L m w4 T4.out.dp K4.out.bs (by omega)).mono ?_
            rintro e w5 ⟨rfl, v5, hd5, hs5, hn5⟩
            have T5 := hid (T4.out.atP hd5 hs5 hn5)
            have K5 := hid (K4.out.atP T4.out hs5 hn5)
            clear hd5 hs5 hn5 T4 K4
            have hsm5 := HB.out.below (T5.out.bel.mono (by rw [HP.out]; exact Nat.le_refl _))
            have g2 : w5.cell? ⟨g, 2, none⟩ = some (.slice bo m.length bc) := cell_of_cells T5.out.ga
            go_wp2_with fail
            refine (rappend_any p q n u _ L m w5 T5.out.dq hsm5 (by omega)).mono ?_
            rintro e w6 ⟨rfl, u6, hd6, hs6, hn6⟩
            have T6 := hid (T5.out.atQ hd6 hs6 hn6)
            have K6 := hid (K5.out.atQ T5.out hs6 hn6)
            clear hd6 hs6 hn6 T5 K5 hsm5 g2 hsm
            have hsm6 := hid (HB.out.below (T6.out.bel.mono (by rw [HP.out]; exact Nat.le_refl _)))
            have g2 : w6.cell? ⟨g, 2, none⟩ = some (.slice bo m.length bc) := cell_of_cells T6.out.ga
            go_wp2_with fail
            refine (kept_any r _ m m w6 K6.out.full hsm6.out (by omega)).mono ?_
            rintro e w7 ⟨rfl, t7, rfl⟩
            rw [decide_eq_true rfl]
            have T7 := hid (T6.out.far (below_drewN1 _ t7))
            have K7 := hid (K6.out.far (below_drewN1 _ t7))
            clear T6 K6 hsm6 g2
            generalize w6.drewN t7 = w7 at *
            obtain ⟨ys, hys⟩ := K7.out.cut
            have HY := hid hys
            clear hys
            go_wp2_with fail
            refine (over_any r m.length (m.length + 3) r ys w7 HY.out (Nat.le_of_lt K7.out.lt) (by omega)).mono ?_
            rintro e w8 ⟨rfl, hg8⟩
            have T8 := hid (T7.out.lent K7.out hr4 hg8)
            clear T7 K7 HY hg8
            go_wp2
            go_meet
            case rel => exact ⟨rfl, v5, u6, L ++ m, n, T8.out, by rw [List.length_append]; omega⟩
          · by_cases h1 : i = 1
            · subst h1
              obtain ⟨uo, uc, rfl⟩ := owns_slice HT.out.dq.own
              go_wp2_with fail
              refine (sync_any p p n v L w3 HT.out.dp).mono ?_
              rintro e w4 ⟨rfl, hd4, hs4⟩
              have T4 := hid (HT.out.justP hd4 hs4 rfl)
              clear hd4 hs4 HT g0
              have q0 := T4.out.dq.c0
              have q1 := T4.out.dq.c1
              have f1 := T4.out.dq.free 1
              have T5 := hid (T4.out.markQ (m' := L.length) (Nat.le_refl _))
              clear T4
              go_wp2
              go_meet
              case rel => exact ⟨rfl, v, _, L, L.length, T5.out, by omega⟩
            · by_cases h2 : i = 2
              · subst h2
                have g1 : w3.cell? ⟨g, 1, none⟩ = some (.int .i64 nn) := cell_of_cells HT.out.ga
                go_wp2_with fail
                refine (crash_any p p n v L nn w3 HT.out.dp).mono ?_
                rintro e w4 ⟨rfl, v4, hd4, hs4, hv4⟩
                have T4 := hid (HT.out.justP hd4 hs4 hv4)
                clear hd4 hs4 hv4 HT g0 g1
                have g1 : w4.cell? ⟨g, 1, none⟩ = some (.int .i64 nn) := cell_of_cells T4.out.ga
                go_wp2_with fail
                refine (rcrash_any p q n u L nn w4 T4.out.dq).mono ?_
                rintro e w5 ⟨rfl, u5, hd5, hs5, hv5⟩
                have T5 := hid (T4.out.atQ hd5 hs5 hv5)
                clear hd5 hs5 hv5 T4 g1
                go_wp2
                go_meet
                case rel => exact ⟨rfl, v4, u5, _, _, T5.out, by rw [List.length_take]; omega⟩
              · by_cases h3 : i = 3
                · subst h3
                  have g1 : w3.cell? ⟨g, 1, none⟩ = some (.int .i64 nn) := cell_of_cells HT.out.ga
                  by_cases hy : 0 ≤ nn ∧ nn ≤ L.length
                  · obtain ⟨hy0, hy1⟩ := hy
                    obtain ⟨c, rfl⟩ := Int.eq_ofNat_of_zero_le hy0
                    have hc : c ≤ L.length := by omega
                    clear hy0 hy1
                    have TD := HT.out.far ((Below.refl _ _).drew)
                    go_upto_region 25 with fail
                    go_region_held3 (fun w' => w'.cell? ⟨g, 1, none⟩ = some (.int .i64 c)) (go_keep) (first | (go_at_call 17; refine (cut_yes p p n c v L _ TD.dp hc).mono ?_; rintro e w4 ⟨rfl, v4, hd4, hs4, hv4⟩; have T4 := hid (TD.justP hd4 hs4 hv4); have g4 : w4.cell? ⟨g, 1, none⟩ = some (.int .i64 c) := cell_of_cells T4.out.ga; clear hd4 hs4 hv4) | (go_at_call 18; refine (rcut_yes p q n c u L _ T4.out.dq hc).mono ?_; rintro e w5 ⟨rfl, u5, hd5, hs5, hv5⟩; have T5 := hid (T4.out.atQ hd5 hs5 hv5); have g5 : w5.cell? ⟨g, 1, none⟩ = some (.int .i64 c) := cell_of_cells T5.out.ga; clear hd5 hs5 hv5))
                    go_wp2
                    go_meet
                    case rel => exact ⟨rfl, v4, u5, _, _, T5.out, by rw [List.length_take]; omega⟩
                  · have hn : nn < 0 ∨ (L.length : Int) < nn := by omega
                    clear hy
                    have TD := HT.out.far ((Below.refl _ _).drew)
                    go_upto_region 25 with fail
                    go_region_held3 (fun w' => w'.cell? ⟨g, 1, none⟩ = some (.int .i64 nn)) (go_keep) (first | (go_at_call 17; refine (cut_no p p n nn v L _ TD.dp hn).mono ?_; rintro e w4 ⟨rfl, rfl⟩) | (go_at_call 18; refine (rcut_no p q n nn u L _ TD.dq hn).mono ?_; rintro e w5 ⟨rfl, rfl⟩))
                    go_wp2
                    go_meet
                    case rel => exact ⟨rfl, v, u, L, n, TD, by omega⟩
                · have d0 : decide (i = 0) = false := by simpa using h0
                  have d1 : decide (i = 1) = false := by simpa using h1
                  have d2 : decide (i = 2) = false := by simpa using h2
                  have d3 : decide (i = 3) = false := by simpa using h3
                  go_wp2
                  go_meet
                  case rel => exact ⟨rfl, v, u, L, n, HT.out, by omega⟩
        case rest => as_aux_lemma =>
          obtain ⟨rfl, v2, u2, L2, n2, hT, hL2⟩ := hcut
          have T := hid hT
          clear hT HT HB
          go_wp2_with fail
          refine (bytes_any p p n2 v2 L2 _ T.out.dp).mono ?_
          rintro e w4 ⟨bo4, bc4, rfl, ho4, hb4⟩
          have T4 := hid (T.out.far hb4)
          have B4 := hid (Bs.owned ho4)
          have O4 := hid (owns_low ho4 T.out.dp.low)
          have A4 := hid (Apart.new T.out.dp.own ho4)
          have E4 := hid (Apart.new T.out.dq.own ho4)
          obtain ⟨uo, uc, hu2⟩ := owns_slice T.out.dq.own
          subst hu2
          clear ho4 hb4 T
          have q0 := T4.out.dq.c0
          have q1 := T4.out.dq.c1
          have hle2 := T4.out.dq.le
          have hbit := T4.out.dq.bit
          have hsub : ((L2.length - n2 : Nat) : Int) = (L2.length : Int) - n2 := by omega
          have HS := hid hsub
          clear hsub
          have dn : ((n2 : Int) != (n2 : Int)) = false := by simp
          have dl : ((L2.length : Int) - (n2 : Int) != (L2.length : Int) - (n2 : Int)) = false := by simp
          have hw : IntKind.i64.wrap ((L2.length : Int) - (n2 : Int)) = (L2.length : Int) - (n2 : Int) := by rw [i64w]; unfold wrap64; omega
          go_upto_region 27 with fail
          go_region_held3 (fun w' => w'.cell? ⟨q, 0, none⟩ = some (.slice uo L2.length uc) ∧ w'.cell? ⟨q, 1, none⟩ = some (.int .i64 n2)) (go_keep) (first | (go_at_call 20; refine (same_any _ _ L2 L2 _ ?_ ?_).mono ?_; (exact B4.out.heap rfl); (exact T4.out.dq.reads.heap rfl); rintro e w5 ⟨rfl, n5, rfl⟩; rw [decide_eq_true rfl]) | (go_at_call 21; refine (synced_any p p n2 v2 L2 _ ?_).mono ?_; (exact T4.out.dp.heap rfl); rintro e w6 ⟨rfl, rfl⟩) | (go_at_call 22; refine (unsynced_any p p n2 v2 L2 _ ?_).mono ?_; (exact T4.out.dp.heap rfl); rintro e w7 ⟨rfl, n7, rfl⟩; rw [HS.out]))
          have T5 := hid (T4.out.far (below_drewN1 w4 (1 + n5 + n7)))
          have O5 := hid (owns_far O4.out (below_drewN1 w4 (1 + n5 + n7)))
          clear T4 B4 O4 q0 q1 HS
          generalize w4.drewN (1 + n5 + n7) = w5 at *
          go_wp2_with fail
          refine (over_row p L2.length bo4 bc4 _ w5 O5.out T5.out.dp.low (by omega)).mono ?_
          rintro e w6 ⟨rfl, hs6⟩
          have T6 := hid (T5.out.row O5.out A4.out E4.out hs6)
          clear hs6 T5 O5
          go_wp2
          go_roundw
          case rel => exact ⟨k + 1, by omega, by go_num, v2, _, L2, n2, T6.out.dp, T6.out.dq, T6.out.ap, T6.out.bel, hL2⟩
          case measure => simp [intOf]; omega
      · obtain ⟨uo, uc, hu2⟩ := owns_slice HDQ.out.own
        subst hu2
        have q0 := HDQ.out.c0
        go_upto_region 30 with fail
        go_region_held3 (fun w' => w'.cell? ⟨q, 0, none⟩ = some (.slice uo L.length uc)) (first | exact k7 | exact k4 | go_keep) (first | (go_at_call 19; refine (bytes_any p p n v L _ ?_).mono ?_; (exact HDP.out.heap rfl); rintro e w4 ⟨bo4, bc4, rfl, ho4, hb4⟩; have B4 := hid (Bs.owned ho4); have D4 := hid ((HDQ.out.heap (w' := wr.drew) rfl).below hb4); have k4 := D4.out.c0; have N4 := hid (hbel.drew.trans (hb4.mono HDP.out.low))) | (go_at_call 20; refine (same_any _ _ L L _ B4.out D4.out.reads).mono ?_; rintro e w5 ⟨rfl, n5, rfl⟩; rw [decide_eq_true rfl]) | (go_at_call 7; refine (awake_any _).mono ?_; rintro e w7 ⟨rfl, hb7⟩; have k7 : w7.cell? ⟨q, 0, none⟩ = some (.slice uo L.length uc) := ((D4.out.heap (w' := w4.drewN n5) rfl).below hb7).c0))
        have hf : Below p w0 w7 := (N4.out.trans ((below_drewN1 w4 n5).mono D4.out.low)).trans (hb7.mono D4.out.low)
        clear hb7 k7 k4 D4 N4 B4
        go_wp2
        go_ret
        exact ⟨rfl, by rw [HP.out]; exact hf⟩
end Go.Proofs.Ytnbikfgbjfcenaa
