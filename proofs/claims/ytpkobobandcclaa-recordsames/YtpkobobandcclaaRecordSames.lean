/- RecordSames: lists are the same just if all fields of all are; their bytes likewise. -/
import Derived.Test.YtpkobobandcclaaRcAwake
namespace Go.Proofs.Ytpkobobandcclaa
open Go.RowKit
set_option linter.unusedVariables false

theorem lay_some {rs : List RecV} (h : 0 < (layL rs).length) : rs.all mayR = true ∧ layL rs = flatR rs := by
  unfold layL at h ⊢
  split at h
  · rename_i hm
    exact ⟨hm, by rw [if_pos hm]⟩
  · simp at h
theorem lay_same {rs qs : List RecV} (h1 : 0 < (layL rs).length) (h2 : 0 < (layL qs).length) : decide (layL rs = layL qs) = sameL rs qs := by
  obtain ⟨a1, a2⟩ := lay_some h1
  obtain ⟨b1, b2⟩ := lay_some h2
  rw [List.all_eq_true] at a1 b1
  by_cases e : rs = qs
  · subst e
    rw [sameL_self]
    simp
  · rw [sameL_no e]
    refine decide_eq_false fun h => e ?_
    rw [a2, b2] at h
    exact flat_inj rs qs (fun r hr => may_fit (a1 r hr)) (fun r hr => may_fit (b1 r hr)) h
set_option maxRecDepth 100000 in
set_option maxHeartbeats 16000000 in
theorem recordSames_plain (w : World) (u v : Value) (rs qs : List RecV) (hu : Recs w u rs) (hv : Recs w v qs) :
    Calls Try.prog 6 #[u, v] w fun e w' => e = .returned (.bool true) ∧ Below w.heap.size w w' := by
  have HU := hid hu
  have HV := hid hv
  clear hu hv
  go_enter Try.func6, Try.ntmps6
  go_wp2_with fail
  refine (greatRecs_any u rs 10 w HU.out).mono ?_
  rintro e w1 ⟨⟨g, rfl, hg⟩, rfl⟩
  have HG1 := hid hg
  clear hg
  cases g
  rotate_left
  · go_wp2_with fail
    refine (awake_any w1).mono ?_
    rintro e w2 ⟨rfl, hb2⟩
    go_wp2
    go_ret
    exact ⟨rfl, hb2⟩
  go_wp2_with fail
  refine (greatRecs_any v qs 10 w1 HV.out).mono ?_
  rintro e w2 ⟨⟨g2, rfl, hg2⟩, rfl⟩
  have HG2 := hid hg2
  clear hg2
  cases g2
  rotate_left
  · go_wp2_with fail
    refine (awake_any w2).mono ?_
    rintro e w3 ⟨rfl, hb3⟩
    go_wp2
    go_ret
    exact ⟨rfl, hb3⟩
  have h10 := HG1.out (by first | rfl | trivial)
  have k10 := HG2.out (by first | rfl | trivial)
  clear HG1 HG2
  go_wp2_with fail
  refine (sameRecords_dec u v rs qs w2 HU.out HV.out).mono ?_
  rintro e w3 ⟨rfl, hb3⟩
  have HB3 := hid hb3
  clear hb3
  go_wp2_with fail
  refine (recLay_any u rs w3 (HU.out.below HB3.out) h10).mono ?_
  rintro e w4 ⟨x, rfl, hx, hb4⟩
  have HB4 := hid (below_then HB3.out hb4 HB3.out.size)
  have HX4 := hid hx
  clear hx hb4
  go_wp2_with fail
  refine (recLay_any v qs w4 (HV.out.below HB4.out) k10).mono ?_
  rintro e w5 ⟨y, rfl, hy, hb5⟩
  have HB5 := hid (below_then HB4.out hb5 HB4.out.size)
  have HX5 := hid (HX4.out.below hb5)
  have HY5 := hid hy
  clear hy hb5 HX4
  obtain ⟨xo, xc, n, hn, rfl⟩ : ∃ xo xc n, (layL rs).length = n ∧ x = .slice xo n xc := by
    obtain ⟨a, c, e⟩ := HX5.out.form
    exact ⟨a, c, _, rfl, e⟩
  obtain ⟨yo, yc, m, hm, rfl⟩ : ∃ yo yc m, (layL qs).length = m ∧ y = .slice yo m yc := by
    obtain ⟨a, c, e⟩ := HY5.out.form
    exact ⟨a, c, _, rfl, e⟩
  have HN := hid hn
  have HM := hid hm
  clear hn hm
  obtain ⟨s, hs⟩ : ∃ s, sameL rs qs = s := ⟨_, rfl⟩
  have HS := hid hs
  rw [hs]
  clear hs
  by_cases hn0 : 0 < n
  · have hd1 : decide ((0 : Int) < (n : Int)) = true := by simp; omega
    by_cases hm0 : 0 < m
    · have hd2 : decide ((0 : Int) < (m : Int)) = true := by simp; omega
      have hsm := lay_same (rs := rs) (qs := qs) (by rw [HN.out]; exact hn0) (by rw [HM.out]; exact hm0)
      rw [HS.out] at hsm
      go_wp2_with fail
      refine (same_any _ _ (layL rs) (layL qs) w5 HX5.out.bs HY5.out.bs).mono ?_
      rw [hsm]
      rintro e w6 ⟨rfl, nd, rfl⟩
      have HB6 := hid (below_then HB5.out (drewN_below w5 nd) HB5.out.size)
      cases s
      all_goals
        go_wp2_with fail
        refine (recSames_any u v rs qs (w5.drewN nd) (HU.out.below HB6.out) (HV.out.below HB6.out)).mono ?_
        rw [HS.out]
        rintro e w7 ⟨rfl, hb7⟩
        have HB7 := hid (below_then HB6.out hb7 HB6.out.size)
        clear hb7
        go_wp2_with fail
        refine (recSames_any v u qs rs w7 (HV.out.below HB7.out) (HU.out.below HB7.out)).mono ?_
        rw [sameL_comm, HS.out]
        rintro e w8 ⟨rfl, hb8⟩
        have HB8 := hid (below_then HB7.out hb8 HB7.out.size)
        clear hb8
        go_wp2_with fail
        refine (awake_any w8).mono ?_
        rintro e w9 ⟨rfl, hb9⟩
        go_wp2
        go_ret
        exact ⟨rfl, below_then HB8.out hb9 HB8.out.size⟩
    · have hd2 : decide ((0 : Int) < (m : Int)) = false := by simp; omega
      cases s
      all_goals
        go_wp2_with fail
        refine (recSames_any u v rs qs w5 (HU.out.below HB5.out) (HV.out.below HB5.out)).mono ?_
        rw [HS.out]
        rintro e w7 ⟨rfl, hb7⟩
        have HB7 := hid (below_then HB5.out hb7 HB5.out.size)
        clear hb7
        go_wp2_with fail
        refine (recSames_any v u qs rs w7 (HV.out.below HB7.out) (HU.out.below HB7.out)).mono ?_
        rw [sameL_comm, HS.out]
        rintro e w8 ⟨rfl, hb8⟩
        have HB8 := hid (below_then HB7.out hb8 HB7.out.size)
        clear hb8
        go_wp2_with fail
        refine (awake_any w8).mono ?_
        rintro e w9 ⟨rfl, hb9⟩
        go_wp2
        go_ret
        exact ⟨rfl, below_then HB8.out hb9 HB8.out.size⟩
  · have hd1 : decide ((0 : Int) < (n : Int)) = false := by simp; omega
    cases s
    all_goals
      go_wp2_with fail
      refine (recSames_any u v rs qs w5 (HU.out.below HB5.out) (HV.out.below HB5.out)).mono ?_
      rw [HS.out]
      rintro e w7 ⟨rfl, hb7⟩
      have HB7 := hid (below_then HB5.out hb7 HB5.out.size)
      clear hb7
      go_wp2_with fail
      refine (recSames_any v u qs rs w7 (HV.out.below HB7.out) (HU.out.below HB7.out)).mono ?_
      rw [sameL_comm, HS.out]
      rintro e w8 ⟨rfl, hb8⟩
      have HB8 := hid (below_then HB7.out hb8 HB7.out.size)
      clear hb8
      go_wp2_with fail
      refine (awake_any w8).mono ?_
      rintro e w9 ⟨rfl, hb9⟩
      go_wp2
      go_ret
      exact ⟨rfl, below_then HB8.out hb9 HB8.out.size⟩
theorem recordSames_walk (w : World) (u : Value) (a : List RecT) (hu : rSlice 7 rRec w [u] a) (v : Value) (b : List RecT) (hv : rSlice 7 rRec w [v] b) :
    Calls Try.prog 6 #[u, v] w fun e w' => e = .returned (.bool true) ∧ Below w.heap.size w w' := by
  obtain ⟨rs, h1⟩ := Recs.arg hu
  obtain ⟨qs, h2⟩ := Recs.arg hv
  exact recordSames_plain w u v rs qs h1 h2
end Go.Proofs.Ytpkobobandcclaa
