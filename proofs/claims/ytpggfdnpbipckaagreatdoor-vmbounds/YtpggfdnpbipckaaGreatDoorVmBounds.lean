/- VmBounds: nothing is told beside a reason; what is told may be pairs; more fuel than there may be is as much as there may be. -/
import Derived.Test.YtpggfdnpbipckaaGreatDoorVArg
import Derived.Test.YtpggfdnpbipckaaGreatDoorLGreat
namespace Go.Proofs.YtpggfdnpbipckaaGreatDoor
open Go.RowKit Go.Lib
set_option linter.unusedVariables false
set_option maxRecDepth 100000

theorem run_not {p : List Inst} {key : ByteArray} {vals : List ByteArray} {f : Int} (h : ¬ (bad p < 0 ∧ 0 ≤ f)) : run p key vals f = ([], 2, 0) := by unfold run; rw [if_neg h]
set_option maxHeartbeats 4000000 in
theorem vmBounds_plain (w : World) (T : Tabs w) (v : Value) (l : List Inst) (hv : Co w v l) (hnum : ∀ x ∈ l, I64 x.2.1) (key : ByteArray) (hkey : key.size ≤ maxLen) (u : Value) (vals : List ByteArray) (hu : Txs w u vals) (hvals : ∀ x ∈ vals, x.size ≤ maxLen) (fuel : Int) (hfu : I64 fuel) (more : Int) :
    Calls Tryz.prog 5 #[v, .string key, u, .int .i64 fuel, .int .i64 more] w fun e w' => e = .returned (.bool true) ∧ Below w.heap.size w w' := by
  have HT := hid T
  have HC := hid hv
  have HU := hid hu
  have K0 := hid (Below.refl w.heap.size w)
  have HG := hid (greatVm_any v l key u vals w hv hu)
  have HN := hid hnum
  have HK := hid hkey
  have HVL := hid hvals
  have HFU := hid hfu
  clear T hv hu hnum hkey hvals hfu
  go_enter Tryz.func5, Tryz.ntmps5
  go_wp2_with fail
  refine HG.out.mono ?_
  rintro e w0 ⟨⟨g, rfl, hg⟩, rfl⟩
  clear HG
  cases g with
  | true =>
    clear hg
    go_wp2_with fail
    refine (awakeVm vmOk _ (vmOk.stays _ _ K0.out HT.out)).mono ?_
    rintro e wA ⟨rfl, hbA⟩
    have KA := hid (below_then K0.out hbA K0.out.size)
    clear hbA
    go_wp2
    go_ret
    exact ⟨rfl, KA.out⟩
  | false =>
  obtain ⟨b1, b2, b3⟩ := hg rfl
  have HF := hid (show Fits l key vals from ⟨HN.out, by omega, HK.out, by omega, HVL.out⟩)
  have hfair := fair_run (key := key) (vals := vals) HN.out fuel
  clear hg HN HK HVL
  rcases hR : run l key vals fuel with ⟨ps, r, d⟩
  rw [hR] at hfair
  obtain ⟨⟨f1, f2⟩, f3, f4, f5⟩ := hfair
  simp only at f1 f2 f3 f4 f5
  have R := hid hR
  have F3 := hid f3
  have F5 := hid f5
  clear hR f3 f5
  go_wp2_with fail
  refine (vmOk.runs (vmOk.stays _ _ K0.out HT.out) (HC.out.below K0.out) (HU.out.below K0.out) HF.out (HFU.out) R.out).mono ?_
  rintro e w1 ⟨x1, rfl, ho1, hb1⟩
  have K1 := hid (below_then K0.out hb1 K0.out.size)
  have HO1 := hid ho1
  clear hb1 ho1
  obtain ⟨ao, ac, rfl⟩ := own_slice HO1.out
  have HQ := hid (own_prs HO1.out)
  have hdm : decide ((40 : Int) < (ps.length : Int)) = false := by simp; omega
  have hd1 : decide (r < 0) = false := by simp; omega
  have hd2 : decide ((5 : Int) < r) = false := by simp; omega
  have hlen : r = 0 ∨ ((r != 0) = true ∧ ps.length = 0) := by
    by_cases h : r = 0
    · exact .inl h
    · exact .inr ⟨by simpa using h, by rw [F3.out h]; rfl⟩
  generalize hL : ps.length = L at hdm hlen f4 ⊢
  have HL := hid hL
  clear hL
  rcases hlen with rfl | ⟨hr0, rfl⟩
  · have hr0 : (0 : Int) = 0 := rfl
    go_wp2
    go_loop [13] (fun i => ∃ k : Nat, k ≤ L ∧ i = .int .i64 k) (fun i => L - (Go.RowKit.intOf i).toNat)
    case atStart => exact ⟨0, by omega, rfl⟩
    case round =>
      obtain ⟨k, hk, rfl⟩ := hrel
      by_cases hlt : k < L
      · have hd4 : decide ((k : Int) < (L : Int)) = true := by simp; omega
        have hkp : k < ps.length := by rw [HL.out]; exact hlt
        obtain ⟨b, off, rfl, hb, c0, c1⟩ := Prs.cell HQ.out hkp
        have hsz := F5.out ps[k] (List.getElem_mem hkp)
        generalize ps[k] = x at c0 c1 hsz
        have hd5 : decide ((16 : Int) < (x.1.size : Int)) = false := by simp; omega
        have hd6 : decide ((64 : Int) < (x.2.size : Int)) = false := by simp; omega
        go_wp2
        go_round
        case rel => exact ⟨k + 1, by omega, by go_num⟩
        case measure => simp [Go.RowKit.intOf]; omega
      have hd4 : decide ((k : Int) < (L : Int)) = false := by simp; omega
      obtain rfl : k = L := by omega
      go_wp2_with fail
      refine (may_any v l _ (HC.out.below K1.out)).mono ?_
      rintro e w2 ⟨rfl, hb2⟩
      have K2 := hid (below_then K1.out hb2 K1.out.size)
      clear hb2
      by_cases hm : bad l < 0
      case neg =>
        have hdb : decide (bad l < 0) = false := by simpa using hm
        rw [hdb]
        have hn := R.out.symm.trans (run_not (key := key) (vals := vals) (f := fuel) (by omega))
        simp only [Prod.mk.injEq] at hn
        obtain ⟨rfl, h2, rfl⟩ := hn
        exact absurd h2 (by decide)
      have hdb : decide (bad l < 0) = true := by simpa using hm
      rw [hdb]
      by_cases hf : fuel < 0
      · have hdf : decide (fuel < 0) = true := by simpa using hf
        have hn := R.out.symm.trans (run_not (key := key) (vals := vals) (f := fuel) (by omega))
        simp only [Prod.mk.injEq] at hn
        obtain ⟨rfl, h2, rfl⟩ := hn
        exact absurd h2 (by decide)
      have hdf : decide (fuel < 0) = false := by simpa using hf
      rcases hR2 : run l key vals 2000 with ⟨p2, r2, d2⟩
      have R2 := hid hR2
      have hst := steps_le (key := key) (vals := vals) l 2000
      rw [hR2] at hst
      simp only at hst
      have hdd : decide ((d2 : Int) ≤ 2000) = true := by simp; omega
      have hlo := low_bd more 1000 (by omega)
      obtain ⟨q, eq⟩ : ∃ q : Nat, low more 1000 = (q : Int) := ⟨(low more 1000).toNat, by omega⟩
      rw [eq] at hlo
      have EQ := hid eq
      have R3 := hid ((run_most (p := l) (key := key) (vals := vals) (f := 2001 + (q : Int)) (by omega)).trans hR2)
      have R4 := hid ((run_most (p := l) (key := key) (vals := vals) (f := 1099511627776) (by omega)).trans hR2)
      clear hR2 hst eq
      go_wp2_with fail
      refine (vmOk.runs (vmOk.stays _ _ K2.out HT.out) (HC.out.below K2.out) (HU.out.below K2.out) HF.out (i64_small (by omega) (by omega)) R2.out).mono ?_
      rintro e w3 ⟨x3, rfl, ho3, hb3⟩
      have K3 := hid (below_then K2.out hb3 K2.out.size)
      have HO3 := hid ho3
      clear hb3 ho3
      go_wp2_with fail
      refine (lowV_calls more 1000 (by omega) (by omega) _).mono ?_
      rintro e wl ⟨rfl, rfl⟩
      rw [EQ.out]
      go_wp2_with fail
      refine (vmOk.runs (vmOk.stays _ _ K3.out HT.out) (HC.out.below K3.out) (HU.out.below K3.out) HF.out (i64_small (by omega) (by omega)) R3.out).mono ?_
      rintro e w4 ⟨x4, rfl, ho4, hb4⟩
      have K4 := hid (below_then K3.out hb4 K3.out.size)
      have HO4 := hid ho4
      have HO3 := hid (owns_below HO3.out hb4)
      clear hb4 ho4
      go_wp2_with fail
      refine (samePairs_any _ _ (p2) _ (own_prs HO3.out) (own_prs HO4.out)).mono ?_
      rintro e w5 ⟨rfl, n5, rfl⟩
      have hb5 := below_drew w4 n5
      have K5 := hid (below_then K4.out hb5 K4.out.size)
      have HO3 := hid (owns_below HO3.out hb5)
      have HO4 := hid (owns_below HO4.out hb5)
      clear hb5
      generalize (w4.drewN n5) = w5 at *
      go_wp2_with fail
      refine (vmOk.does (vmOk.stays _ _ K5.out HT.out) (HC.out.below K5.out) (HU.out.below K5.out) HF.out (⟨by omega, by omega⟩) R4.out).mono ?_
      rintro e w6 ⟨rfl, hb6⟩
      have K6 := hid (below_then K5.out hb6 K5.out.size)
      have HO3 := hid (owns_below HO3.out hb6)
      have HO4 := hid (owns_below HO4.out hb6)
      clear hb6
      go_wp2_with fail
      refine (awakeVm vmOk _ (vmOk.stays _ _ K6.out HT.out)).mono ?_
      rintro e wA ⟨rfl, hbA⟩
      have KA := hid (below_then K6.out hbA K6.out.size)
      clear hbA
      go_wp2
      go_ret
      exact ⟨rfl, KA.out⟩
  · skip
    go_wp2
    go_loop [13] (fun i => i = .int .i64 0) (fun _ => 0)
    case atStart => rfl
    case round =>
      subst hrel
      go_wp2_with fail
      refine (may_any v l _ (HC.out.below K1.out)).mono ?_
      rintro e w2 ⟨rfl, hb2⟩
      have K2 := hid (below_then K1.out hb2 K1.out.size)
      clear hb2
      by_cases hm : bad l < 0
      case neg =>
        have hdb : decide (bad l < 0) = false := by simpa using hm
        rw [hdb]
        have hn := R.out.symm.trans (run_not (key := key) (vals := vals) (f := fuel) (by omega))
        simp only [Prod.mk.injEq] at hn
        obtain ⟨rfl, h2, rfl⟩ := hn
        subst h2
        go_wp2_with fail
        refine (vmOk.does (vmOk.stays _ _ K2.out HT.out) (HC.out.below K2.out) (HU.out.below K2.out) HF.out (HFU.out) R.out).mono ?_
        rintro e w3 ⟨rfl, hb3⟩
        have K3 := hid (below_then K2.out hb3 K2.out.size)
        clear hb3
        go_wp2_with fail
        refine (awakeVm vmOk _ (vmOk.stays _ _ K3.out HT.out)).mono ?_
        rintro e wA ⟨rfl, hbA⟩
        have KA := hid (below_then K3.out hbA K3.out.size)
        clear hbA
        go_wp2
        go_ret
        exact ⟨rfl, KA.out⟩
      have hdb : decide (bad l < 0) = true := by simpa using hm
      rw [hdb]
      by_cases hf : fuel < 0
      · have hdf : decide (fuel < 0) = true := by simpa using hf
        have hn := R.out.symm.trans (run_not (key := key) (vals := vals) (f := fuel) (by omega))
        simp only [Prod.mk.injEq] at hn
        obtain ⟨rfl, h2, rfl⟩ := hn
        subst h2
        go_wp2_with fail
        refine (vmOk.does (vmOk.stays _ _ K2.out HT.out) (HC.out.below K2.out) (HU.out.below K2.out) HF.out (HFU.out) R.out).mono ?_
        rintro e w3 ⟨rfl, hb3⟩
        have K3 := hid (below_then K2.out hb3 K2.out.size)
        clear hb3
        go_wp2_with fail
        refine (awakeVm vmOk _ (vmOk.stays _ _ K3.out HT.out)).mono ?_
        rintro e wA ⟨rfl, hbA⟩
        have KA := hid (below_then K3.out hbA K3.out.size)
        clear hbA
        go_wp2
        go_ret
        exact ⟨rfl, KA.out⟩
      have hdf : decide (fuel < 0) = false := by simpa using hf
      rcases hR2 : run l key vals 2000 with ⟨p2, r2, d2⟩
      have R2 := hid hR2
      have hst := steps_le (key := key) (vals := vals) l 2000
      rw [hR2] at hst
      simp only at hst
      have hdd : decide ((d2 : Int) ≤ 2000) = true := by simp; omega
      have hlo := low_bd more 1000 (by omega)
      obtain ⟨q, eq⟩ : ∃ q : Nat, low more 1000 = (q : Int) := ⟨(low more 1000).toNat, by omega⟩
      rw [eq] at hlo
      have EQ := hid eq
      have R3 := hid ((run_most (p := l) (key := key) (vals := vals) (f := 2001 + (q : Int)) (by omega)).trans hR2)
      have R4 := hid ((run_most (p := l) (key := key) (vals := vals) (f := 1099511627776) (by omega)).trans hR2)
      clear hR2 hst eq
      go_wp2_with fail
      refine (vmOk.runs (vmOk.stays _ _ K2.out HT.out) (HC.out.below K2.out) (HU.out.below K2.out) HF.out (i64_small (by omega) (by omega)) R2.out).mono ?_
      rintro e w3 ⟨x3, rfl, ho3, hb3⟩
      have K3 := hid (below_then K2.out hb3 K2.out.size)
      have HO3 := hid ho3
      clear hb3 ho3
      go_wp2_with fail
      refine (lowV_calls more 1000 (by omega) (by omega) _).mono ?_
      rintro e wl ⟨rfl, rfl⟩
      rw [EQ.out]
      go_wp2_with fail
      refine (vmOk.runs (vmOk.stays _ _ K3.out HT.out) (HC.out.below K3.out) (HU.out.below K3.out) HF.out (i64_small (by omega) (by omega)) R3.out).mono ?_
      rintro e w4 ⟨x4, rfl, ho4, hb4⟩
      have K4 := hid (below_then K3.out hb4 K3.out.size)
      have HO4 := hid ho4
      have HO3 := hid (owns_below HO3.out hb4)
      clear hb4 ho4
      go_wp2_with fail
      refine (samePairs_any _ _ (p2) _ (own_prs HO3.out) (own_prs HO4.out)).mono ?_
      rintro e w5 ⟨rfl, n5, rfl⟩
      have hb5 := below_drew w4 n5
      have K5 := hid (below_then K4.out hb5 K4.out.size)
      have HO3 := hid (owns_below HO3.out hb5)
      have HO4 := hid (owns_below HO4.out hb5)
      clear hb5
      generalize (w4.drewN n5) = w5 at *
      go_wp2_with fail
      refine (vmOk.does (vmOk.stays _ _ K5.out HT.out) (HC.out.below K5.out) (HU.out.below K5.out) HF.out (⟨by omega, by omega⟩) R4.out).mono ?_
      rintro e w6 ⟨rfl, hb6⟩
      have K6 := hid (below_then K5.out hb6 K5.out.size)
      have HO3 := hid (owns_below HO3.out hb6)
      have HO4 := hid (owns_below HO4.out hb6)
      clear hb6
      go_wp2_with fail
      refine (awakeVm vmOk _ (vmOk.stays _ _ K6.out HT.out)).mono ?_
      rintro e wA ⟨rfl, hbA⟩
      have KA := hid (below_then K6.out hbA K6.out.size)
      clear hbA
      go_wp2
      go_ret
      exact ⟨rfl, KA.out⟩
end Go.Proofs.YtpggfdnpbipckaaGreatDoor
