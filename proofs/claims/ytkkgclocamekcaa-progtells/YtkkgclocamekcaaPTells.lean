/- ProgTells' walk: Bad, May and Targets beside the reference's, at any program. -/
import Derived.Test.YtkkgclocamekcaaPAwake
import Derived.Test.YtkkgclocamekcaaPRefTar
namespace Go.Proofs.Ytkkgclocamekcaa
open Go.RowKit Go.Lib
set_option linter.unusedVariables false

theorem targets_len (l : List Inst) : (targets l).length ≤ 41 := by
  by_cases h : bad l < 0
  · rw [← seen_all h]
    have := seen_len l (l.length + 1)
    have := ((may_iff l).1 h).1
    omega
  · unfold targets
    rw [if_neg h]
    simp

set_option maxHeartbeats 2000000 in
theorem progTells_plain (w : World) (v : Value) (l : List Inst) (hv : Co w v l) :
    Calls Try.prog 3 #[v] w fun e w' => e = .returned (.bool true) ∧ Below w.heap.size w w' := by
  go_enter Try.func3, Try.ntmps3
  go_wp2_with fail
  refine (great_any v l w hv).mono ?_
  rintro e w0 ⟨⟨g, rfl, hg⟩, rfl⟩
  cases g
  · have hl60 := hg rfl
    have HV := hid hv
    clear hg hv
    go_wp2_with fail
    refine (lend_any v l w0 HV.out hl60).mono ?_
    rintro e w1 ⟨rfl, ho1, hb1⟩
    have hco1 := Co.own ho1
    have HK := hid hco1
    have HI := hid hco1.cut
    have HB1 := hid hb1
    have HV1 := hid (HV.out.below hb1)
    clear ho1 hco1 hb1
    generalize hgg : w0.heap.size = g at HK HI ⊢
    have HGG := hid hgg
    clear hgg
    generalize hin : Value.slice (some ⟨g, 0, none⟩) l.length (l.length + 3) = vin at HI ⊢
    have HIN := hid hin
    clear hin
    go_wp2_with fail
    refine (targets_any vin l w1 HI.out).mono ?_
    rintro e w2 ⟨t, rfl, ho2, hb2⟩
    have k2 := hb2
    have HT2 := hid ho2
    clear ho2
    go_wp2_with fail
    refine (bad_any vin l w2 (HI.out.below k2)).mono ?_
    rintro e w3 ⟨rfl, hb3⟩
    have k3 := below_next k2 hb3 k2.size
    have HT3 := hid (own_below HT2.out hb3)
    clear hb3 hb2 k2 HT2
    go_wp2_with fail
    refine (refBad_any v l w3 (HV1.out.below k3)).mono ?_
    rintro e w4 ⟨rfl, hb4⟩
    have k4 := below_next k3 hb4 k3.size
    have HT4 := hid (own_below HT3.out hb4)
    clear hb4 k3 HT3
    obtain ⟨q, hq⟩ : ∃ q, bad l = q := ⟨_, rfl⟩
    rw [hq]
    have hqq : (q == q) = true := by simp
    go_wp2_with fail
    refine (may_any vin l w4 (HI.out.below k4)).mono ?_
    rintro e w5 ⟨rfl, hb5⟩
    have k5 := below_next k4 hb5 k4.size
    have HT5 := hid (own_below HT4.out hb5)
    clear hb5 k4 HT4
    rw [hq]
    go_wp2_with fail
    refine (refBad_any v l w5 (HV1.out.below k5)).mono ?_
    rintro e w6 ⟨rfl, hb6⟩
    have k6 := below_next k5 hb6 k5.size
    have HT6 := hid (own_below HT5.out hb6)
    clear hb6 k5 HT5
    rw [hq]
    obtain ⟨m, hm⟩ : ∃ m, decide (q < 0) = m := ⟨_, rfl⟩
    rw [hm]
    have hmm : (m == m) = true := by simp
    go_wp2_with fail
    refine (refTargets_any v l w6 (HV1.out.below k6)).mono ?_
    rintro e w7 ⟨r, rfl, ho7, hb7⟩
    have k7 := below_next k6 hb7 k6.size
    have HT7 := hid (own_below HT6.out hb7)
    have HR7 := hid ho7
    clear ho7 hb7 k6 HT6
    go_wp2_with fail
    refine (sameInts_any t r _ _ w7 (Is.owned HT7.out) (Is.owned HR7.out)).mono ?_
    rintro e w8 ⟨rfl, n8, rfl⟩
    rw [decide_eq_true rfl]
    have k8 := below_next k7 (drew_below w7 n8) k7.size
    have HT8 := hid (own_below HT7.out (drew_below w7 n8))
    clear k7 HT7 HR7
    generalize w7.drewN n8 = w8 at k8 HT8 ⊢
    rw [← HIN.out]
    go_wp2_with fail
    refine (kept_any g v l w8 (HK.out.below k8) (HV1.out.below k8) hl60).mono ?_
    rintro e w9 ⟨rfl, n9, rfl⟩
    have k9 := below_next k8 (drew_below w8 n9) k8.size
    have HT9 := hid (own_below HT8.out (drew_below w8 n9))
    clear k8 HT8
    generalize w8.drewN n9 = w9 at k9 HT9 ⊢
    rw [HIN.out]
    go_wp2_with fail
    refine (overInts_own _ _ t _ w9 HT9.out k9.size (by have := targets_len l; omega)).mono ?_
    rintro e w10 ⟨rfl, hb10⟩
    have k10 := k9.trans hb10
    clear hb10 k9 HT9
    go_wp2_with fail
    refine (targets_any vin l w10 (HI.out.below k10)).mono ?_
    rintro e w11 ⟨t2, rfl, ho11, hb11⟩
    have k11 := below_next k10 hb11 k10.size
    have HT11 := hid ho11
    clear ho11 hb11 k10
    go_wp2_with fail
    refine (refTargets_any v l w11 (HV1.out.below k11)).mono ?_
    rintro e w12 ⟨r2, rfl, ho12, hb12⟩
    have k12 := below_next k11 hb12 k11.size
    have HT12 := hid (own_below HT11.out hb12)
    have HR12 := hid ho12
    clear ho12 hb12 k11 HT11
    go_wp2_with fail
    refine (sameInts_any t2 r2 _ _ w12 (Is.owned HT12.out) (Is.owned HR12.out)).mono ?_
    rintro e w13 ⟨rfl, n13, rfl⟩
    rw [decide_eq_true rfl]
    have k13 := below_next k12 (drew_below w12 n13) k12.size
    clear k12 HT12 HR12
    generalize w12.drewN n13 = w13 at k13 ⊢
    go_wp2_with fail
    refine (awake_calls _).mono ?_
    rintro e w14 ⟨rfl, hb14⟩
    have k14 := below_next k13 hb14 k13.size
    go_wp2
    go_ret
    exact ⟨rfl, below_next HB1.out k14 HB1.out.size⟩
  · clear hg hv
    go_wp2_with fail
    refine (awake_calls _).mono ?_
    rintro e w1 ⟨rfl, hb1⟩
    go_wp2
    go_ret
    exact ⟨rfl, hb1⟩
end Go.Proofs.Ytkkgclocamekcaa
