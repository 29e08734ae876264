/- Lists of records' bytes as the document's own lays them. -/
import Derived.Test.YtpkobobandcclaaRcRefLay
namespace Go.Proofs.Ytpkobobandcclaa
open Go.RowKit
set_option linter.unusedVariables false

theorem refRMay_any (r : RecV) (so : Option Addr) (sc : Nat) (po : Option Addr) (pc : Nat) (w : World) (hr : RecIs w so sc po pc r) :
    Calls Try.prog 13 #[.agg #[.int .i64 r.kind, .int .i64 r.part, .int .i64 r.split, .int .i64 r.attempt, .int .i64 r.reason, .slice so r.set.length sc, .slice po r.prs.length pc]] w fun e w' => e = .returned (.bool (mayR r)) ∧ Below w.heap.size w w' := by
  by_cases h1 : r.kind = 1
  · exact refRWon_any r so sc po pc w hr h1
  by_cases h2 : r.kind = 2
  · exact refRCommit_any r so sc po pc w hr h2
  by_cases h6 : r.kind = 6
  · exact refRLife_any r so sc po pc w hr h6
  by_cases h3 : r.kind = 3
  · by_cases a0 : r.attempt = 0
    · exact refROver_att0_any r so sc po pc w hr h3 a0
    by_cases a1 : r.attempt = 1
    · exact refROver_att1_any r so sc po pc w hr h3 a1
    exact refROver_att2_any r so sc po pc w hr h3 a0 a1
  by_cases h4 : r.kind = 4
  · exact refRMerged_any r so sc po pc w hr h4
  by_cases h5 : r.kind = 5
  · exact refRSnap_any r so sc po pc w hr h5
  exact refROther_any r so sc po pc w hr (by omega)

set_option maxRecDepth 100000 in
set_option maxHeartbeats 16000000 in
theorem refLays_any (v : Value) (rs : List RecV) (w : World) (hv : Recs w v rs) (hl : rs.length ≤ 10) :
    Calls Try.prog 11 #[v] w fun e w' => ∃ u, e = .returned u ∧ OB w.heap.size u (layL rs) w' ∧ Below w.heap.size w w' := by
  have HV := hid hv
  obtain ⟨ao, ca, rfl, a1, a2, -⟩ := hv.slice
  obtain ⟨i0, hi, hz0, hz1, hz2⟩ := info_parts Try.info5
  unfold maxLen at a2
  clear hv
  go_enter Try.func11, Try.ntmps11
  go_wp2
  go_loopw [3, 4] (fun u i wr => ∃ k : Nat, k ≤ rs.length ∧ (rs.take k).all mayR = true ∧ i = .int .i64 k ∧ OB w.heap.size u (flatR (rs.take k)) wr ∧ Below w.heap.size w wr) (fun _ i _ => rs.length - (intOf i).toNat)
  case atStart => exact ⟨0, by omega, rfl, rfl, OB.nil _ _, Below.refl _ _⟩
  case round =>
    obtain ⟨k, hk, hm, rfl, ho, hbr⟩ := hrel
    have HM := hid hm
    have HO := hid ho
    clear hm ho
    have hlow := hbr.size
    by_cases hlt : k < rs.length
    · obtain ⟨b, off, r, so, sc, po, pc, hr, rfl, hb, hi1, c0, c1, c2, c3, c4, c5, c6⟩ := (HV.out.below hbr).cell hlt
      have HR := hid hr
      have HI := hid hi1
      clear hr hi1
      have hd4 : decide ((k : Int) < (rs.length : Int)) = true := by simp; omega
      go_wp2_with fail
      refine (refRMay_any r so sc po pc _ HI.out).mono ?_
      rintro e w1 ⟨rfl, hb1⟩
      have HB2 := hid (below_then hbr hb1 hlow)
      have HO2 := hid (HO.out.below hb1)
      clear hb1 HI c0 c1 c2 c3 c4 c5 c6 HO
      obtain ⟨g1, hg1⟩ : ∃ g, mayR r = g := ⟨_, rfl⟩
      have HG1 := hid hg1
      rw [hg1]
      clear hg1
      cases g1
      · have HN := hid (may_not HR.out HG1.out)
        go_wp2
        go_ret
        exact ⟨_, rfl, by rw [HN.out]; exact OB.nil _ _, HB2.out⟩
      · obtain ⟨b2, off2, r2, so2, sc2, po2, pc2, hr2, e2, hb2, hi2, c0, c1, c2, c3, c4, c5, c6⟩ := (HV.out.below HB2.out).cell hlt
        rw [HR.out] at hr2
        cases hr2
        cases e2
        go_wp2_with fail
        refine (refBody_any r so2 sc2 po2 pc2 w1 hi2 HG1.out).mono ?_
        rintro e w2 ⟨u2, rfl, ho2, hb2⟩
        have HB3 := hid (below_then HB2.out hb2 HB2.out.size)
        have HO3 := hid (HO2.out.below hb2)
        obtain ⟨uo, uc, n, hn, rfl⟩ : ∃ uo uc n, (bodyR r).length = n ∧ u2 = .slice uo n uc := by
          obtain ⟨a, c, e⟩ := ho2.form
          exact ⟨a, c, _, rfl, e⟩
        have hbd := take_bd HM.out hl
        have hb9 := body_bd (may_fit HG1.out)
        have HO4 := hid ho2
        clear ho2 hb2 c0 c1 c2 c3 c4 c5 c6 HO2
        go_wp2_with fail
        refine (refNum_ob w.heap.size u3 n (flatR (rs.take k)) w2 HO3.out (by omega)).mono ?_
        rintro e w3 ⟨u5, rfl, ho5, hb5⟩
        have HB5 := hid (below_then HB3.out hb5 HB3.out.size)
        obtain ⟨hnone, hnews, -⟩ := Bs.news2 (HO4.out.below hb5).bs
        have hsz5 : w2.heap.size ≤ w3.heap.size := hb5.size
        have hcl : (cel (bodyR r)).length = n * 1 := by rw [cel_length]; omega
        have hln : (flatR (rs.take k) ++ be8 (n : Int)).length = (flatR (rs.take k)).length + 8 := by rw [List.length_append, be8_length]
        have hx1 : (flatR (rs.take k) ++ be8 (n : Int)).length + n ≤ maxLen := by unfold maxLen; omega
        have hx2 : ((flatR (rs.take k) ++ be8 (n : Int)).length + n) * 1 ≤ 140737488355328 := by omega
        have ho5' : w3.ownsRow w2.heap.size 5 1 u5 (flatR (rs.take k) ++ be8 (n : Int)).length (cel (flatR (rs.take k) ++ be8 (n : Int))) := ho5
        have HN := hid hn
        have HO5 := hid ho5
        have hlow3 := HB3.out.size
        clear hb5 hn ho5 hbd hb9 HO3 HO4
        go_wp2_with (at_builtin; refine wpList_append_own_any _ rfl _ _ 25 rfl w2.heap.size 5 i0 (.int .u8 0) 1 1 Try.underlying25 hi hz0 hz1 hz2 rfl (by decide) _ (flatR (rs.take k) ++ be8 (n : Int)).length (cel (flatR (rs.take k) ++ be8 (n : Int))) rfl ho5' uo n uc (cel (bodyR r)) rfl hcl hnone hnews (cel_oneCell _) hx1 hx2 hsz5 ?_; intro v6 w6 ho6 hg6)
        have HO6 := hid (show OB w.heap.size v6 (flatR (rs.take (k + 1))) w6 by
          have h : OB w2.heap.size v6 (flatR (rs.take (k + 1))) w6 := by
            unfold OB
            rw [flat_step HR.out]
            unfold layR
            rw [HN.out, ← List.append_assoc, List.length_append, cel_append, HN.out]
            exact ho6
          exact h.low hlow3)
        have HB6 := hid (HO5.out.grown hg6 HB5.out HB5.out.size hlow3)
        have HM2 := hid (may_step HM.out HR.out HG1.out)
        clear ho6 hg6 ho5' hnews hnone
        go_wp2
        go_roundw
        case rel => exact ⟨k + 1, by omega, HM2.out, by go_num, HO6.out, HB6.out⟩
        case measure => simp [intOf]; omega
    · have hd4 : decide ((k : Int) < (rs.length : Int)) = false := by simp; omega
      have HN := hid (show layL rs = flatR (rs.take k) by
        have h := HM.out
        rw [List.take_of_length_le (by omega)] at h ⊢
        exact lay_yes h)
      go_wp2
      go_ret
      exact ⟨_, rfl, by rw [HN.out]; exact HO.out, hbr⟩
end Go.Proofs.Ytpkobobandcclaa
