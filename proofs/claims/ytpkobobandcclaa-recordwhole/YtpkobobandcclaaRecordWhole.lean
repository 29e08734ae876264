/- RecordWhole: of records' bytes all is read again; of a beginning of these just the whole ones. -/
import Derived.Test.YtpkobobandcclaaRcAwake
namespace Go.Proofs.Ytpkobobandcclaa
open Go.RowKit
set_option linter.unusedVariables false

/-- Where the first k records end. -/
def endsL (rs : List RecV) (k : Nat) : List Int := (List.range k).map fun j => ((flatR (rs.take (j + 1))).length : Int)
theorem endsL_length (rs : List RecV) (k : Nat) : (endsL rs k).length = k := by simp [endsL]
theorem endsL_step (rs : List RecV) (k : Nat) : endsL rs (k + 1) = endsL rs k ++ [((flatR (rs.take (k + 1))).length : Int)] := by
  unfold endsL
  rw [List.range_succ, List.map_append]
  rfl
theorem endsL_at {rs : List RecV} {k j : Nat} (h : j < k) : (endsL rs k)[j]? = some ((flatR (rs.take (j + 1))).length : Int) := by
  unfold endsL
  rw [List.getElem?_map, List.getElem?_range h]
  rfl
set_option maxRecDepth 100000 in
set_option maxHeartbeats 16000000 in
theorem recordWhole_plain (w : World) (u : Value) (rs : List RecV) (cut : Int) (hu : Recs w u rs) :
    Calls Try.prog 5 #[u, .int .i64 cut] w fun e w' => e = .returned (.bool true) ∧ Below w.heap.size w w' := by
  have HU := hid hu
  obtain ⟨ao, ca, rfl, a1, a2, -⟩ := hu.slice
  obtain ⟨i0, hi, hz0, hz1, hz2⟩ := info_parts Try.info5
  obtain ⟨i1, hj, hw0, hw1, hw2⟩ := info_parts Try.info3
  unfold maxLen at a2
  clear hu
  go_enter Try.func5, Try.ntmps5
  go_wp2_with fail
  refine (greatRecs_any _ rs 10 w HU.out).mono ?_
  rintro e w1 ⟨⟨g, rfl, hg⟩, rfl⟩
  have HG1 := hid hg
  clear hg
  cases g
  rotate_left
  · go_wp2_with fail
    refine (awake_any w1).mono ?_
    rintro e w2 ⟨rfl, hb2⟩
    go_wp2
    go_ret
    exact ⟨rfl, hb2⟩
  have h10 := HG1.out (by first | rfl | trivial)
  clear HG1
  go_wp2
  go_loopw [5, 6, 7] (fun b es i wr => ∃ k : Nat, k ≤ rs.length ∧ (rs.take k).all mayR = true ∧ i = .int .i64 k ∧ OB w1.heap.size b (flatR (rs.take k)) wr ∧ wr.ownsRow w1.heap.size 3 1 es k (ict (endsL rs k)) ∧ Below w1.heap.size w1 wr) (fun _ _ i _ => rs.length - (intOf i).toNat)
  case atStart => exact ⟨0, by omega, rfl, rfl, OB.nil _ _, World.ownsRow_nil _ _ _ _, Below.refl _ _⟩
  case round =>
    obtain ⟨k, hk, hm, rfl, hx, hes, hbr⟩ := hrel
    have HX := hid hx
    have HE := hid hes
    have HM := hid hm
    have hlow := hbr.size
    clear hx hes hm
    by_cases hlt : k < rs.length
    · have hd5 : decide ((k : Int) < (rs.length : Int)) = true := by simp; omega
      obtain ⟨p, po1, r, so, sc, po, pc, hr, rfl, hp, hir, c0, c1, c2, c3, c4, c5, c6⟩ := (HU.out.below hbr).cell hlt
      have HI := hid hir
      have HR := hid hr
      clear hr hir
      go_wp2_with fail
      refine (recMay_any r so sc po pc wr HI.out).mono ?_
      rintro e w2 ⟨rfl, hb2⟩
      have HB2 := hid (below_then hbr hb2 hlow)
      obtain ⟨g, hg⟩ : ∃ g, mayR r = g := ⟨_, rfl⟩
      have HG := hid hg
      rw [hg]
      clear hg
      cases g
      · clear c0 c1 c2 c3 c4 c5 c6
        go_wp2_with fail
        refine (awake_any w2).mono ?_
        rintro e w3 ⟨rfl, hb3⟩
        go_wp2
        go_ret
        exact ⟨rfl, below_then HB2.out hb3 HB2.out.size⟩
      have d0 := (hb2.cell (p := ⟨p, po1 + k * 7, none⟩) hp).trans c0
      have d1 := (hb2.cell (p := ⟨p, po1 + k * 7 + 1, none⟩) hp).trans c1
      have d2 := (hb2.cell (p := ⟨p, po1 + k * 7 + 2, none⟩) hp).trans c2
      have d3 := (hb2.cell (p := ⟨p, po1 + k * 7 + 3, none⟩) hp).trans c3
      have d4 := (hb2.cell (p := ⟨p, po1 + k * 7 + 4, none⟩) hp).trans c4
      have d5 := (hb2.cell (p := ⟨p, po1 + k * 7 + 5, none⟩) hp).trans c5
      have d6 := (hb2.cell (p := ⟨p, po1 + k * 7 + 6, none⟩) hp).trans c6
      have HA3 := hid (alloc_one w2 (.cells #[.int .i64 r.kind, .int .i64 r.part, .int .i64 r.split, .int .i64 r.attempt, .int .i64 r.reason, .slice so r.set.length sc, .slice po r.prs.length pc] 33))
      have HB3 := hid (below_then HB2.out HA3.out HB2.out.size)
      have HR3 := hid (Recs.made ⟨r, so, sc, po, pc⟩ w2 (HI.out.below hb2))
      have HX3 := hid ((HX.out.below hb2).below HA3.out)
      have HE3 := hid (owns_below (owns_below HE.out hb2) HA3.out)
      clear c0 c1 c2 c3 c4 c5 c6 hb2 HI HX HE
      go_wp2_with fail
      refine (recLay_any _ [r] _ HR3.out (by simp)).mono ?_
      rintro e w4 ⟨x4, rfl, hx4, hb4⟩
      have hl1 : layL [r] = layR r := by simp [layL, flatR, HG.out]
      rw [hl1] at hx4
      have HB4 := hid (below_then HB3.out hb4 HB3.out.size)
      have HX4 := hid (HX3.out.below hb4)
      have HE4 := hid (owns_below HE3.out hb4)
      obtain ⟨xo, xc, n, hn, rfl⟩ : ∃ xo xc n, (layR r).length = n ∧ x4 = .slice xo n xc := by
        obtain ⟨a, c, e⟩ := hx4.form
        exact ⟨a, c, _, rfl, e⟩
      obtain ⟨hnone, hnews, -⟩ := Bs.news2 hx4.bs
      have hbd := take_bd HM.out h10
      have hb9 := body_bd (may_fit HG.out)
      have hll := layR_length r
      have hcl : (cel (layR r)).length = n * 1 := by rw [cel_length]; omega
      have hx1 : (flatR (rs.take k)).length + n ≤ maxLen := by unfold maxLen; omega
      have hx2 : ((flatR (rs.take k)).length + n) * 1 ≤ 140737488355328 := by omega
      have ho4 : w4.ownsRow w1.heap.size 5 1 u5 (flatR (rs.take k)).length (cel (flatR (rs.take k))) := HX4.out
      have hsz4 := HB4.out.size
      have HN := hid hn
      have HM2 := hid (may_step HM.out HR.out HG.out)
      have hsum : (flatR (rs.take k)).length + n ≤ 50000 := by omega
      clear hx4 hb4 d0 d1 d2 d3 d4 d5 d6 hn hbd hb9 hll hl1 HX3 HE3 HR3
      obtain ⟨t, ht⟩ : ∃ t, (flatR (rs.take k)).length + n = t := ⟨_, rfl⟩
      have HT := hid ht
      have ht5 : t ≤ 50000 := by omega
      clear ht hsum
      go_wp2_with (first | (at_builtin; refine wpList_append_own_any _ rfl _ _ 25 rfl w1.heap.size 5 i0 (.int .u8 0) 1 1 Try.underlying25 hi hz0 hz1 hz2 rfl (by decide) _ (flatR (rs.take k)).length (cel (flatR (rs.take k))) rfl ho4 xo n xc (cel (layR r)) rfl hcl hnone hnews (cel_oneCell _) hx1 hx2 hsz4 ?_; intro v5 w5 ho5 hg5; rw [HT.out] at ho5; obtain ⟨ao5, cp5, hv5⟩ := owns_slice ho5; subst hv5; have HE5 := hid (owns_grown HE4.out ho4 (by decide) hg5); have hsz5 := hg5.size) | (at_builtin; refine wpList_append_own _ rfl _ _ 30 rfl w1.heap.size 3 i1 (.int .i64 0) 1 8 Try.underlying30 hj hw0 hw1 hw2 rfl (by decide) _ k (ict (endsL rs k)) rfl (owns_below HE5.out (alloc_one w5 (.cells #[.int .i64 (t : Int)] 3))) ⟨w5.heap.size, 0, none⟩ 1 1 [.int .i64 (t : Int)] rfl rfl (one_new w5 _ _) (by intro u hu; simp at hu; subst hu; rfl) (by unfold maxLen; omega) (by omega) (by simp; omega) ?_; intro v6 w6 ho6 hg6 _))
      have HX5 := hid (show OB w1.heap.size (.slice ao5 t cp5) (flatR (rs.take (k + 1))) w5 by
        unfold OB
        rw [flat_step HR.out, List.length_append, cel_append, HN.out, HT.out]
        exact ho5)
      have HB5 := hid (HX4.out.grown hg5 HB4.out HB4.out.size (Nat.le_refl _))
      have hA5 := alloc_one w5 (.cells #[.int .i64 (t : Int)] 3)
      have hE5a := owns_below HE5.out hA5
      have HX6 := hid (show OB w1.heap.size (.slice ao5 t cp5) (flatR (rs.take (k + 1))) w6 from owns_grown (owns_below HX5.out hA5) hE5a (by decide) hg6)
      have HB6 := hid ((below_then HB5.out hA5 HB5.out.size).grown hg6 (below_then HB5.out hA5 HB5.out.size).size (fun j hj => (hE5a.lt j hj).1))
      have HE6 := hid (show w6.ownsRow w1.heap.size 3 1 v6 (k + 1) (ict (endsL rs (k + 1))) by
        rw [endsL_step, ict_append]
        have : (flatR (rs.take (k + 1))).length = t := by
          rw [flat_step HR.out, List.length_append, HN.out, HT.out]
        rw [this]
        exact ho6)
      clear ho5 hg5 ho6 hg6 hA5 hE5a ho4 hnews hnone
      go_roundw
      case rel => exact ⟨k + 1, by omega, HM2.out, by go_num, HX6.out, HE6.out, HB6.out⟩
      case measure => simp [intOf]; omega
    · have hd5 : decide ((k : Int) < (rs.length : Int)) = false := by simp; omega
      obtain rfl : k = rs.length := by omega
      have HMA := hid (show rs.all mayR = true by have h := HM.out; rwa [List.take_length] at h)
      have hx := HX.out
      rw [List.take_length] at hx
      have HX1 := hid hx
      obtain ⟨bo, bc, N, hN, rfl⟩ : ∃ bo bc N, (flatR rs).length = N ∧ u5 = .slice bo N bc := by
        obtain ⟨a, c, e⟩ := hx.form
        exact ⟨a, c, _, rfl, e⟩
      obtain ⟨eo, ec, rfl⟩ : ∃ eo ec, u6 = .slice eo rs.length ec := owns_slice HE.out
      have HN := hid hN
      have hN5 : N ≤ 50000 := by have := flat_bd rs HMA.out; omega
      have hbs := hx.bs
      obtain ⟨bo', bc', hbe, hbc, hbm, -, -⟩ := id hbs
      have hbc2 : N ≤ bc := by cases hbe; omega
      unfold maxLen at hbm
      have hbm2 : bc ≤ 9223372036854775807 := by cases hbe; omega
      have HMR := hid (fun r hr => List.all_eq_true.1 HMA.out r hr)
      have HYF := hid (Byt.flatR rs)
      clear hx hbs hbe hbc hbm HX HM hN
      go_wp2_with fail
      refine (recLay_any _ rs wr (HU.out.below hbr) h10).mono ?_
      rintro e w2 ⟨y, rfl, hy, hb2⟩
      rw [lay_yes HMA.out] at hy
      have HB2 := hid (below_then hbr hb2 hlow)
      have HX2 := hid (HX1.out.below hb2)
      have HE2 := hid (owns_below HE.out hb2)
      have HY2 := hid hy
      clear hy hb2 HX1 HE
      go_wp2_with fail
      refine (same_any _ _ (flatR rs) (flatR rs) w2 HX2.out.bs HY2.out.bs).mono ?_
      rw [decide_eq_true rfl]
      rintro e w3 ⟨rfl, nd, rfl⟩
      have HB3 := hid (below_then HB2.out (drewN_below w2 nd) HB2.out.size)
      have HX3 := hid (HX2.out.below (drewN_below w2 nd))
      have HE3 := hid (owns_below HE2.out (drewN_below w2 nd))
      clear HX2 HY2 HE2
      go_wp2_with fail
      refine (low_any cut ((N : Int) + 1) _ (by omega) (by omega)).mono ?_
      rintro e w4 ⟨rfl, rfl⟩
      obtain ⟨q, hq⟩ := Int.eq_ofNat_of_zero_le (low_bd cut ((N : Int) + 1) (by omega)).1
      have hqN : q ≤ N := by have := (low_bd cut ((N : Int) + 1) (by omega)).2; omega
      rw [hq]
      clear hq
      have HI3' := hid (show Is (w2.drewN nd) (.slice eo rs.length ec) (endsL rs rs.length) by
        rcases HE3.out.2 with ⟨h', h0⟩ | ⟨g', cap', cur', h', _⟩
        · simp only [Value.slice.injEq] at h'
          obtain ⟨rfl, e0, rfl⟩ := h'
          rw [e0]
          exact Is.nil _
        · simp only [Value.slice.injEq] at h'
          obtain ⟨rfl, -, rfl⟩ := h'
          exact Is.own HE3.out)
      go_wp2
      go_loop [9] (fun i => ∃ j : Nat, j ≤ rs.length ∧ i = .int .i64 j ∧ (flatR (rs.take j)).length ≤ q) (fun i => rs.length - (intOf i).toNat)
      case atStart => exact ⟨0, by omega, rfl, by simp [flatR]⟩
      case round =>
        obtain ⟨j, hj2, rfl, hjq⟩ := hrel
        have HJQ := hid hjq
        clear hjq
        by_cases hlt2 : j < rs.length
        · have hdj : decide ((j : Int) < (rs.length : Int)) = true := by simp; omega
          obtain ⟨p, off, x, hx, rfl, hp, cx⟩ := HI3'.out.cell (show j < (endsL rs rs.length).length by rw [endsL_length]; exact hlt2)
          rw [endsL_at hlt2] at hx
          obtain ⟨t, ht⟩ : ∃ t, (flatR (rs.take (j + 1))).length = t := ⟨_, rfl⟩
          rw [ht] at hx
          cases hx
          have HT := hid ht
          clear ht
          by_cases htq : t ≤ q
          · have hdt : decide ((t : Int) ≤ (q : Int)) = true := by simp; omega
            go_wp2
            go_round
            case rel => exact ⟨j + 1, by omega, by go_num, by rw [HT.out]; exact htq⟩
            case measure => simp [intOf]; omega
          · have hdt : decide ((t : Int) ≤ (q : Int)) = false := by simp; omega
            have hdt2 : decide (t ≤ q) = false := by simp; omega
            have hdt3 : ¬ t ≤ q := by omega
            have H2 := hid (show j = rs.length ∨ q < (flatR (rs.take (j + 1))).length from .inr (by rw [HT.out]; omega))
            clear htq
            have hjn : (j : Int) ≤ (rs.length : Int) := by omega
            have hja : j ≤ ca := by omega
            go_wp2_with fail
            refine (recRead_any _ ((flatR rs).take q) _ (HX3.out.bs.take q hqN) (HYF.out.take q) (by rw [List.length_take]; omega)).mono ?_
            rintro e w5 ⟨u10, xs, n10, rfl, hr5, hg5, hb5⟩
            obtain ⟨hxs, hn10⟩ := begins_unique _ _ _ _ _ hg5 (begins_whole HMR.out hj2 HJQ.out H2.out (by rw [HN.out]; exact hqN))
            have HB5 := hid hb5
            have HR5 := hid (show Recs w5 u10 (rs.take j) by rw [← hxs]; exact hr5.recs)
            have HN10 := hid hn10
            have HI5 := hid (HI3'.out.below hb5)
            clear hr5 hg5 hb5 hxs hn10
            by_cases hj0 : j = 0
            · have hd0 : decide ((0 : Int) < (j : Int)) = false := by simp; omega
              have hd1 : decide (0 < j) = false := by simp; omega
              have hn0 : n10 = 0 := by rw [HN10.out, hj0]; simp [flatR]
              subst hn0
              clear hj0
              go_wp2_with fail
              refine (recRead_any _ (flatR rs) w5 ((HX3.out.below HB5.out).bs) HYF.out (by rw [HN.out]; omega)).mono ?_
              rintro e w6 ⟨u13, zs, n13, rfl, hr6, hg6, hb6⟩
              have hbegA : Begins (flatR rs) rs N := by
                have h := begins_whole (rs := rs) (k := (flatR rs).length) (j := rs.length) HMR.out (Nat.le_refl _) (by rw [List.take_length]; omega) (.inl rfl) (Nat.le_refl _)
                rw [List.take_length, List.take_length, HN.out] at h
                exact h
              obtain ⟨hzs, rfl⟩ := begins_unique _ _ _ _ _ hg6 hbegA
              have HB6 := hid (below_then (below_then HB3.out HB5.out HB3.out.size) hb6 (below_then HB3.out HB5.out HB3.out.size).size)
              have HR6 := hid (show Recs w6 u10 (rs.take j) from HR5.out.below hb6)
              have HZ6 := hid (show Recs w6 u13 rs by rw [← hzs]; exact hr6.recs)
              clear hr6 hg6 hb6 hzs hbegA
              go_wp2_with fail
              refine (sameRecords_dec _ _ (rs.take j) (rs.take j) w6 HR6.out ((HU.out.below HB6.out).take hj2)).mono ?_
              rw [sameL_self]
              rintro e w7 ⟨rfl, hb7⟩
              have HB7 := hid (below_then HB6.out hb7 HB6.out.size)
              have HZ7 := hid (HZ6.out.below hb7)
              clear hb7 HZ6 HR6
              go_wp2_with fail
              refine (sameRecords_dec _ _ rs rs w7 HZ7.out (HU.out.below HB7.out)).mono ?_
              rw [sameL_self]
              rintro e w8 ⟨rfl, hb8⟩
              have HB8 := hid (below_then HB7.out hb8 HB7.out.size)
              clear hb8 HZ7
              go_wp2_with fail
              refine (awake_any w8).mono ?_
              rintro e w9 ⟨rfl, hb9⟩
              go_wp2
              go_ret
              exact ⟨rfl, below_then HB8.out hb9 HB8.out.size⟩
            · have hd0 : decide ((0 : Int) < (j : Int)) = true := by simp; omega
              have hd1 : decide (0 < j) = true := by simp; omega
              obtain ⟨j1, hj1⟩ : ∃ j1, j = j1 + 1 := ⟨j - 1, by omega⟩
              have hk1 : ((j : Int) - 1) = (j1 : Int) := by omega
              have hk2 : j - 1 = j1 := by omega
              have hqw : IntKind.i64.wrap (j1 : Int) = (j1 : Int) := by rw [IntKind.wrap_i64]; omega
              obtain ⟨p2, off2, y2, hy2, e2, -, cy⟩ := HI5.out.cell (show j1 < (endsL rs rs.length).length by rw [endsL_length]; omega)
              rw [endsL_at (by omega), ← hj1, ← HN10.out] at hy2
              cases hy2
              have hq0 : (0 : Int) ≤ (j1 : Int) := by omega
              have hqn : (j1 : Int) < (rs.length : Int) := by omega
              simp only [Option.some.injEq, Addr.mk.injEq, and_true] at e2
              obtain ⟨rfl, rfl⟩ := e2
              have HJ1 := hid hj1
              clear hj0 hj1
              go_wp2_with fail
              refine (recRead_any _ (flatR rs) w5 ((HX3.out.below HB5.out).bs) HYF.out (by rw [HN.out]; omega)).mono ?_
              rintro e w6 ⟨u13, zs, n13, rfl, hr6, hg6, hb6⟩
              have hbegA : Begins (flatR rs) rs N := by
                have h := begins_whole (rs := rs) (k := (flatR rs).length) (j := rs.length) HMR.out (Nat.le_refl _) (by rw [List.take_length]; omega) (.inl rfl) (Nat.le_refl _)
                rw [List.take_length, List.take_length, HN.out] at h
                exact h
              obtain ⟨hzs, rfl⟩ := begins_unique _ _ _ _ _ hg6 hbegA
              have HB6 := hid (below_then (below_then HB3.out HB5.out HB3.out.size) hb6 (below_then HB3.out HB5.out HB3.out.size).size)
              have HR6 := hid (show Recs w6 u10 (rs.take j) from HR5.out.below hb6)
              have HZ6 := hid (show Recs w6 u13 rs by rw [← hzs]; exact hr6.recs)
              clear hr6 hg6 hb6 hzs hbegA
              go_wp2_with fail
              refine (sameRecords_dec _ _ (rs.take j) (rs.take j) w6 HR6.out ((HU.out.below HB6.out).take hj2)).mono ?_
              rw [sameL_self]
              rintro e w7 ⟨rfl, hb7⟩
              have HB7 := hid (below_then HB6.out hb7 HB6.out.size)
              have HZ7 := hid (HZ6.out.below hb7)
              clear hb7 HZ6 HR6
              go_wp2_with fail
              refine (sameRecords_dec _ _ rs rs w7 HZ7.out (HU.out.below HB7.out)).mono ?_
              rw [sameL_self]
              rintro e w8 ⟨rfl, hb8⟩
              have HB8 := hid (below_then HB7.out hb8 HB7.out.size)
              clear hb8 HZ7
              go_wp2_with fail
              refine (awake_any w8).mono ?_
              rintro e w9 ⟨rfl, hb9⟩
              go_wp2
              go_ret
              exact ⟨rfl, below_then HB8.out hb9 HB8.out.size⟩
        · have hdj : decide ((j : Int) < (rs.length : Int)) = false := by simp; omega
          have H2 := hid (show j = rs.length ∨ q < (flatR (rs.take (j + 1))).length from .inl (by omega))
          have hjn : (j : Int) ≤ (rs.length : Int) := by omega
          have hja : j ≤ ca := by omega
          go_wp2_with fail
          refine (recRead_any _ ((flatR rs).take q) _ (HX3.out.bs.take q hqN) (HYF.out.take q) (by rw [List.length_take]; omega)).mono ?_
          rintro e w5 ⟨u10, xs, n10, rfl, hr5, hg5, hb5⟩
          obtain ⟨hxs, hn10⟩ := begins_unique _ _ _ _ _ hg5 (begins_whole HMR.out hj2 HJQ.out H2.out (by rw [HN.out]; exact hqN))
          have HB5 := hid hb5
          have HR5 := hid (show Recs w5 u10 (rs.take j) by rw [← hxs]; exact hr5.recs)
          have HN10 := hid hn10
          have HI5 := hid (HI3'.out.below hb5)
          clear hr5 hg5 hb5 hxs hn10
          by_cases hj0 : j = 0
          · have hd0 : decide ((0 : Int) < (j : Int)) = false := by simp; omega
            have hd1 : decide (0 < j) = false := by simp; omega
            have hn0 : n10 = 0 := by rw [HN10.out, hj0]; simp [flatR]
            subst hn0
            clear hj0
            go_wp2_with fail
            refine (recRead_any _ (flatR rs) w5 ((HX3.out.below HB5.out).bs) HYF.out (by rw [HN.out]; omega)).mono ?_
            rintro e w6 ⟨u13, zs, n13, rfl, hr6, hg6, hb6⟩
            have hbegA : Begins (flatR rs) rs N := by
              have h := begins_whole (rs := rs) (k := (flatR rs).length) (j := rs.length) HMR.out (Nat.le_refl _) (by rw [List.take_length]; omega) (.inl rfl) (Nat.le_refl _)
              rw [List.take_length, List.take_length, HN.out] at h
              exact h
            obtain ⟨hzs, rfl⟩ := begins_unique _ _ _ _ _ hg6 hbegA
            have HB6 := hid (below_then (below_then HB3.out HB5.out HB3.out.size) hb6 (below_then HB3.out HB5.out HB3.out.size).size)
            have HR6 := hid (show Recs w6 u10 (rs.take j) from HR5.out.below hb6)
            have HZ6 := hid (show Recs w6 u13 rs by rw [← hzs]; exact hr6.recs)
            clear hr6 hg6 hb6 hzs hbegA
            go_wp2_with fail
            refine (sameRecords_dec _ _ (rs.take j) (rs.take j) w6 HR6.out ((HU.out.below HB6.out).take hj2)).mono ?_
            rw [sameL_self]
            rintro e w7 ⟨rfl, hb7⟩
            have HB7 := hid (below_then HB6.out hb7 HB6.out.size)
            have HZ7 := hid (HZ6.out.below hb7)
            clear hb7 HZ6 HR6
            go_wp2_with fail
            refine (sameRecords_dec _ _ rs rs w7 HZ7.out (HU.out.below HB7.out)).mono ?_
            rw [sameL_self]
            rintro e w8 ⟨rfl, hb8⟩
            have HB8 := hid (below_then HB7.out hb8 HB7.out.size)
            clear hb8 HZ7
            go_wp2_with fail
            refine (awake_any w8).mono ?_
            rintro e w9 ⟨rfl, hb9⟩
            go_wp2
            go_ret
            exact ⟨rfl, below_then HB8.out hb9 HB8.out.size⟩
          · have hd0 : decide ((0 : Int) < (j : Int)) = true := by simp; omega
            have hd1 : decide (0 < j) = true := by simp; omega
            obtain ⟨j1, hj1⟩ : ∃ j1, j = j1 + 1 := ⟨j - 1, by omega⟩
            have hk1 : ((j : Int) - 1) = (j1 : Int) := by omega
            have hk2 : j - 1 = j1 := by omega
            have hqw : IntKind.i64.wrap (j1 : Int) = (j1 : Int) := by rw [IntKind.wrap_i64]; omega
            obtain ⟨p2, off2, y2, hy2, e2, -, cy⟩ := HI5.out.cell (show j1 < (endsL rs rs.length).length by rw [endsL_length]; omega)
            rw [endsL_at (by omega), ← hj1, ← HN10.out] at hy2
            cases hy2
            have hq0 : (0 : Int) ≤ (j1 : Int) := by omega
            have hqn : (j1 : Int) < (rs.length : Int) := by omega
            subst e2
            have HJ1 := hid hj1
            clear hj0 hj1
            go_wp2_with fail
            refine (recRead_any _ (flatR rs) w5 ((HX3.out.below HB5.out).bs) HYF.out (by rw [HN.out]; omega)).mono ?_
            rintro e w6 ⟨u13, zs, n13, rfl, hr6, hg6, hb6⟩
            have hbegA : Begins (flatR rs) rs N := by
              have h := begins_whole (rs := rs) (k := (flatR rs).length) (j := rs.length) HMR.out (Nat.le_refl _) (by rw [List.take_length]; omega) (.inl rfl) (Nat.le_refl _)
              rw [List.take_length, List.take_length, HN.out] at h
              exact h
            obtain ⟨hzs, rfl⟩ := begins_unique _ _ _ _ _ hg6 hbegA
            have HB6 := hid (below_then (below_then HB3.out HB5.out HB3.out.size) hb6 (below_then HB3.out HB5.out HB3.out.size).size)
            have HR6 := hid (show Recs w6 u10 (rs.take j) from HR5.out.below hb6)
            have HZ6 := hid (show Recs w6 u13 rs by rw [← hzs]; exact hr6.recs)
            clear hr6 hg6 hb6 hzs hbegA
            go_wp2_with fail
            refine (sameRecords_dec _ _ (rs.take j) (rs.take j) w6 HR6.out ((HU.out.below HB6.out).take hj2)).mono ?_
            rw [sameL_self]
            rintro e w7 ⟨rfl, hb7⟩
            have HB7 := hid (below_then HB6.out hb7 HB6.out.size)
            have HZ7 := hid (HZ6.out.below hb7)
            clear hb7 HZ6 HR6
            go_wp2_with fail
            refine (sameRecords_dec _ _ rs rs w7 HZ7.out (HU.out.below HB7.out)).mono ?_
            rw [sameL_self]
            rintro e w8 ⟨rfl, hb8⟩
            have HB8 := hid (below_then HB7.out hb8 HB7.out.size)
            clear hb8 HZ7
            go_wp2_with fail
            refine (awake_any w8).mono ?_
            rintro e w9 ⟨rfl, hb9⟩
            go_wp2
            go_ret
            exact ⟨rfl, below_then HB8.out hb9 HB8.out.size⟩
theorem recordWhole_walk (w : World) (u : Value) (a : List RecT) (hu : rSlice 7 rRec w [u] a) (cut : Int) (hc : (Lit.int .i64 cut).wf = true) :
    Calls Try.prog 5 #[u, .int .i64 cut] w fun e w' => e = .returned (.bool true) ∧ Below w.heap.size w w' := by
  obtain ⟨rs, h1⟩ := Recs.arg hu
  exact recordWhole_plain w u rs cut h1
end Go.Proofs.Ytpkobobandcclaa
