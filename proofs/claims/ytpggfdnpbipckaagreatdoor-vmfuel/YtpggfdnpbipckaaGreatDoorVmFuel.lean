/- VmFuel: with less fuel there is the same, or Fuel. -/
import Derived.Test.YtpggfdnpbipckaaGreatDoorVArg
import Derived.Test.YtpggfdnpbipckaaGreatDoorLGreat
namespace Go.Proofs.YtpggfdnpbipckaaGreatDoor
open Go.RowKit Go.Lib
set_option linter.unusedVariables false
set_option maxRecDepth 100000

theorem fuel_cases {p : List Inst} {key : ByteArray} {vals : List ByteArray} (hm : bad p < 0) (f g : Nat) (hf : f ≤ 2000) (hg : g ≤ f) :
    (run p key vals f = ([], 3, f) ∧ run p key vals g = ([], 3, g)) ∨
    ∃ a r, ∃ d : Nat, r ≠ 3 ∧ d ≤ f ∧ run p key vals f = (a, r, d) ∧ run p key vals d = (a, r, d) ∧ ((d ≤ g ∧ run p key vals g = (a, r, d)) ∨ (g < d ∧ run p key vals g = ([], 3, g))) ∧ (0 < d → run p key vals ((d : Int) - 1) = ([], 3, d - 1)) := by
  rcases run_fuel (key := key) (vals := vals) hm (f := (f : Int)) (by omega) (by omega) with h | ⟨a, r, d, hr, hd, h, hk⟩
  · refine .inl ⟨by simpa using h, ?_⟩
    rcases run_fuel (key := key) (vals := vals) hm (f := (g : Int)) (by omega) (by omega) with h' | ⟨a, r, d, hr, hd, h', hk⟩
    · simpa using h'
    · have := (hk (f : Int) (by omega) (by omega)).1 (by omega)
      rw [h] at this
      simp at this
      omega
  · refine .inr ⟨a, r, d, hr, by omega, h, (hk d (by omega) (by omega)).1 (by omega), ?_, fun h0 => ?_⟩
    · by_cases hdg : d ≤ g
      · exact .inl ⟨hdg, (hk g (by omega) (by omega)).1 (by omega)⟩
      · have := (hk g (by omega) (by omega)).2 (by omega)
        exact .inr ⟨by omega, by simpa using this⟩
    · have := (hk ((d : Int) - 1) (by omega) (by omega)).2 (by omega)
      rw [this, show ((d : Int) - 1).toNat = d - 1 by omega]

set_option maxHeartbeats 4000000 in
theorem vmFuel_plain (w : World) (T : Tabs w) (v : Value) (l : List Inst) (hv : Co w v l) (hnum : ∀ x ∈ l, I64 x.2.1) (key : ByteArray) (hkey : key.size ≤ maxLen) (u : Value) (vals : List ByteArray) (hu : Txs w u vals) (hvals : ∀ x ∈ vals, x.size ≤ maxLen) (fuel less : Int) :
    Calls Tryz.prog 4 #[v, .string key, u, .int .i64 fuel, .int .i64 less] w fun e w' => e = .returned (.bool true) ∧ Below w.heap.size w w' := by
  have HT := hid T
  have HC := hid hv
  have HU := hid hu
  have K0 := hid (Below.refl w.heap.size w)
  have HG := hid (greatVm_any v l key u vals w hv hu)
  have HM := hid (may_any v l w hv)
  have HN := hid hnum
  have HK := hid hkey
  have HVL := hid hvals
  have hF := low_bd fuel 2001 (by omega)
  clear T hv hu hnum hkey hvals
  go_enter Tryz.func4, Tryz.ntmps4
  go_wp2_with fail
  refine HG.out.mono ?_
  rintro e w0 ⟨⟨g, rfl, hg⟩, rfl⟩
  clear HG
  cases g with
  | true =>
    clear hg
    go_wp2_with fail
    refine (awakeVm vmOk _ (vmOk.stays _ _ K0.out HT.out)).mono ?_
    rintro e wA ⟨rfl, hbA⟩
    have KA := hid (below_then K0.out hbA K0.out.size)
    clear hbA
    go_wp2
    go_ret
    exact ⟨rfl, KA.out⟩
  | false =>
  obtain ⟨b1, b2, b3⟩ := hg rfl
  have HF := hid (show Fits l key vals from ⟨HN.out, by omega, HK.out, by omega, HVL.out⟩)
  clear hg HN HK HVL
  go_wp2_with fail
  refine HM.out.mono ?_
  rintro e w1 ⟨rfl, hb1⟩
  have K1 := hid (below_then K0.out hb1 K0.out.size)
  clear hb1 HM
  by_cases hm : bad l < 0
  case neg =>
    have hd : decide (bad l < 0) = false := by simpa using hm
    rw [hd]
    go_wp2_with fail
    refine (awakeVm vmOk _ (vmOk.stays _ _ K1.out HT.out)).mono ?_
    rintro e wA ⟨rfl, hbA⟩
    have KA := hid (below_then K1.out hbA K1.out.size)
    clear hbA
    go_wp2
    go_ret
    exact ⟨rfl, KA.out⟩
  have hd : decide (bad l < 0) = true := by simpa using hm
  rw [hd]
  clear hd
  go_wp2_with fail
  refine (lowV_calls fuel 2001 (by omega) (by omega) _).mono ?_
  rintro e wl ⟨rfl, rfl⟩
  obtain ⟨f, hf⟩ : ∃ f : Nat, low fuel 2001 = (f : Int) := ⟨(low fuel 2001).toNat, by omega⟩
  rw [hf] at hF ⊢
  clear hf
  have hG := low_bd less ((f : Int) + 1) (by omega)
  obtain ⟨g, hg⟩ : ∃ g : Nat, low less ((f : Int) + 1) = (g : Int) := ⟨(low less ((f : Int) + 1)).toNat, by omega⟩
  rw [hg] at hG
  have HGL := hid hg
  clear hg
  have hf2 : f ≤ 2000 := by omega
  have hgf : g ≤ f := by omega
  rcases fuel_cases (key := key) (vals := vals) hm f g hf2 hgf with ⟨r1, r2⟩ | ⟨a, r, d, hr3, hdf, r1, r2, hrg, r4⟩
  · have R1 := hid r1
    have R2 := hid r2
    clear r1 r2
    go_wp2_with fail
    refine (vmOk.runs (vmOk.stays _ _ K1.out HT.out) (HC.out.below K1.out) (HU.out.below K1.out) HF.out (i64_small (by omega) (by omega)) R1.out).mono ?_
    rintro e w2 ⟨x2, rfl, ho2, hb2⟩
    have K2 := hid (below_then K1.out hb2 K1.out.size)
    have HO2 := hid ho2
    clear hb2 ho2
    go_wp2_with fail
    refine (vmOk.does (vmOk.stays _ _ K2.out HT.out) (HC.out.below K2.out) (HU.out.below K2.out) HF.out (i64_small (by omega) (by omega)) R1.out).mono ?_
    rintro e w3 ⟨rfl, hb3⟩
    have K3 := hid (below_then K2.out hb3 K2.out.size)
    have HO2 := hid (owns_below HO2.out hb3)
    clear hb3
    go_wp2_with fail
    refine (lowV_calls less ((f : Int) + 1) (by omega) (by omega) _).mono ?_
    rintro e wl ⟨rfl, rfl⟩
    rw [HGL.out]
    go_wp2_with fail
    refine (vmOk.runs (vmOk.stays _ _ K3.out HT.out) (HC.out.below K3.out) (HU.out.below K3.out) HF.out (i64_small (by omega) (by omega)) R2.out).mono ?_
    rintro e w4 ⟨x4, rfl, ho4, hb4⟩
    have K4 := hid (below_then K3.out hb4 K3.out.size)
    have HO4 := hid ho4
    have HO2 := hid (owns_below HO2.out hb4)
    clear hb4 ho4
    go_wp2_with fail
    refine (vmOk.runs (vmOk.stays _ _ K4.out HT.out) (HC.out.below K4.out) (HU.out.below K4.out) HF.out (i64_small (by omega) (by omega)) R1.out).mono ?_
    rintro e w5 ⟨x5, rfl, ho5, hb5⟩
    have K5 := hid (below_then K4.out hb5 K4.out.size)
    have HO5 := hid ho5
    have HO2 := hid (owns_below HO2.out hb5)
    have HO4 := hid (owns_below HO4.out hb5)
    clear hb5 ho5
    go_wp2_with fail
    refine (samePairs_any _ _ ([]) _ (own_prs HO2.out) (own_prs HO5.out)).mono ?_
    rintro e w6 ⟨rfl, n6, rfl⟩
    have hb6 := below_drew w5 n6
    have K6 := hid (below_then K5.out hb6 K5.out.size)
    have HO2 := hid (owns_below HO2.out hb6)
    have HO4 := hid (owns_below HO4.out hb6)
    have HO5 := hid (owns_below HO5.out hb6)
    clear hb6
    generalize (w5.drewN n6) = w6 at *
    by_cases hf0 : 0 < f
    · have hdf : decide ((0 : Int) < (f : Int)) = true := by simp; omega
      go_wp2_with fail
      refine (awakeVm vmOk _ (vmOk.stays _ _ K6.out HT.out)).mono ?_
      rintro e wA ⟨rfl, hbA⟩
      have KA := hid (below_then K6.out hbA K6.out.size)
      clear hbA
      go_wp2
      go_ret
      exact ⟨rfl, KA.out⟩
    · have hdf : decide ((0 : Int) < (f : Int)) = false := by simp; omega
      go_wp2_with fail
      refine (awakeVm vmOk _ (vmOk.stays _ _ K6.out HT.out)).mono ?_
      rintro e wA ⟨rfl, hbA⟩
      have KA := hid (below_then K6.out hbA K6.out.size)
      clear hbA
      go_wp2
      go_ret
      exact ⟨rfl, KA.out⟩
  · have R1 := hid r1
    have R2 := hid r2
    have R4 := hid r4
    have e3 : (r == 3) = false := by simpa using hr3
    have n3 : (r != 3) = true := by simpa using hr3
    clear r1 r2 r4
    go_wp2_with fail
    refine (vmOk.runs (vmOk.stays _ _ K1.out HT.out) (HC.out.below K1.out) (HU.out.below K1.out) HF.out (i64_small (by omega) (by omega)) R1.out).mono ?_
    rintro e w2 ⟨x2, rfl, ho2, hb2⟩
    have K2 := hid (below_then K1.out hb2 K1.out.size)
    have HO2 := hid ho2
    clear hb2 ho2
    go_wp2_with fail
    refine (vmOk.does (vmOk.stays _ _ K2.out HT.out) (HC.out.below K2.out) (HU.out.below K2.out) HF.out (i64_small (by omega) (by omega)) R1.out).mono ?_
    rintro e w3 ⟨rfl, hb3⟩
    have K3 := hid (below_then K2.out hb3 K2.out.size)
    have HO2 := hid (owns_below HO2.out hb3)
    clear hb3
    go_wp2_with fail
    refine (lowV_calls less ((f : Int) + 1) (by omega) (by omega) _).mono ?_
    rintro e wl ⟨rfl, rfl⟩
    rw [HGL.out]
    rcases hrg with ⟨hdg, r3⟩ | ⟨hdg, r3⟩
    · have R3 := hid r3
      clear r3
      go_wp2_with fail
      refine (vmOk.runs (vmOk.stays _ _ K3.out HT.out) (HC.out.below K3.out) (HU.out.below K3.out) HF.out (i64_small (by omega) (by omega)) R3.out).mono ?_
      rintro e w4 ⟨x4, rfl, ho4, hb4⟩
      have K4 := hid (below_then K3.out hb4 K3.out.size)
      have HO4 := hid ho4
      have HO2 := hid (owns_below HO2.out hb4)
      clear hb4 ho4
      go_wp2_with fail
      refine (samePairs_any _ _ (a) _ (own_prs HO2.out) (own_prs HO4.out)).mono ?_
      rintro e w5 ⟨rfl, n5, rfl⟩
      have hb5 := below_drew w4 n5
      have K5 := hid (below_then K4.out hb5 K4.out.size)
      have HO2 := hid (owns_below HO2.out hb5)
      have HO4 := hid (owns_below HO4.out hb5)
      clear hb5
      generalize (w4.drewN n5) = w5 at *
      go_wp2_with fail
      refine (vmOk.runs (vmOk.stays _ _ K5.out HT.out) (HC.out.below K5.out) (HU.out.below K5.out) HF.out (i64_small (by omega) (by omega)) R2.out).mono ?_
      rintro e w6 ⟨x6, rfl, ho6, hb6⟩
      have K6 := hid (below_then K5.out hb6 K5.out.size)
      have HO6 := hid ho6
      have HO2 := hid (owns_below HO2.out hb6)
      have HO4 := hid (owns_below HO4.out hb6)
      clear hb6 ho6
      go_wp2_with fail
      refine (samePairs_any _ _ (a) _ (own_prs HO2.out) (own_prs HO6.out)).mono ?_
      rintro e w7 ⟨rfl, n7, rfl⟩
      have hb7 := below_drew w6 n7
      have K7 := hid (below_then K6.out hb7 K6.out.size)
      have HO2 := hid (owns_below HO2.out hb7)
      have HO4 := hid (owns_below HO4.out hb7)
      have HO6 := hid (owns_below HO6.out hb7)
      clear hb7
      generalize (w6.drewN n7) = w7 at *
      by_cases hd0 : 0 < d
      · have R5 := hid (R4.out hd0)
        go_wp2_with fail
        refine (vmOk.runs (vmOk.stays _ _ K7.out HT.out) (HC.out.below K7.out) (HU.out.below K7.out) HF.out (i64_small (by omega) (by omega)) R5.out).mono ?_
        rintro e w8 ⟨x8, rfl, ho8, hb8⟩
        have K8 := hid (below_then K7.out hb8 K7.out.size)
        have HO8 := hid ho8
        clear hb8 ho8
        go_wp2_with fail
        refine (awakeVm vmOk _ (vmOk.stays _ _ K8.out HT.out)).mono ?_
        rintro e wA ⟨rfl, hbA⟩
        have KA := hid (below_then K8.out hbA K8.out.size)
        clear hbA
        go_wp2
        go_ret
        exact ⟨rfl, KA.out⟩
      · obtain rfl : d = 0 := by omega
        go_wp2_with fail
        refine (awakeVm vmOk _ (vmOk.stays _ _ K7.out HT.out)).mono ?_
        rintro e wA ⟨rfl, hbA⟩
        have KA := hid (below_then K7.out hbA K7.out.size)
        clear hbA
        go_wp2
        go_ret
        exact ⟨rfl, KA.out⟩
    · have R3 := hid r3
      clear r3
      go_wp2_with fail
      refine (vmOk.runs (vmOk.stays _ _ K3.out HT.out) (HC.out.below K3.out) (HU.out.below K3.out) HF.out (i64_small (by omega) (by omega)) R3.out).mono ?_
      rintro e w4 ⟨x4, rfl, ho4, hb4⟩
      have K4 := hid (below_then K3.out hb4 K3.out.size)
      have HO4 := hid ho4
      have HO2 := hid (owns_below HO2.out hb4)
      clear hb4 ho4
      go_wp2_with fail
      refine (vmOk.runs (vmOk.stays _ _ K4.out HT.out) (HC.out.below K4.out) (HU.out.below K4.out) HF.out (i64_small (by omega) (by omega)) R2.out).mono ?_
      rintro e w5 ⟨x5, rfl, ho5, hb5⟩
      have K5 := hid (below_then K4.out hb5 K4.out.size)
      have HO5 := hid ho5
      have HO2 := hid (owns_below HO2.out hb5)
      have HO4 := hid (owns_below HO4.out hb5)
      clear hb5 ho5
      go_wp2_with fail
      refine (samePairs_any _ _ (a) _ (own_prs HO2.out) (own_prs HO5.out)).mono ?_
      rintro e w6 ⟨rfl, n6, rfl⟩
      have hb6 := below_drew w5 n6
      have K6 := hid (below_then K5.out hb6 K5.out.size)
      have HO2 := hid (owns_below HO2.out hb6)
      have HO4 := hid (owns_below HO4.out hb6)
      have HO5 := hid (owns_below HO5.out hb6)
      clear hb6
      generalize (w5.drewN n6) = w6 at *
      by_cases hd0 : 0 < d
      · have R5 := hid (R4.out hd0)
        go_wp2_with fail
        refine (vmOk.runs (vmOk.stays _ _ K6.out HT.out) (HC.out.below K6.out) (HU.out.below K6.out) HF.out (i64_small (by omega) (by omega)) R5.out).mono ?_
        rintro e w7 ⟨x7, rfl, ho7, hb7⟩
        have K7 := hid (below_then K6.out hb7 K6.out.size)
        have HO7 := hid ho7
        clear hb7 ho7
        go_wp2_with fail
        refine (awakeVm vmOk _ (vmOk.stays _ _ K7.out HT.out)).mono ?_
        rintro e wA ⟨rfl, hbA⟩
        have KA := hid (below_then K7.out hbA K7.out.size)
        clear hbA
        go_wp2
        go_ret
        exact ⟨rfl, KA.out⟩
      · obtain rfl : d = 0 := by omega
        go_wp2_with fail
        refine (awakeVm vmOk _ (vmOk.stays _ _ K6.out HT.out)).mono ?_
        rintro e wA ⟨rfl, hbA⟩
        have KA := hid (below_then K6.out hbA K6.out.size)
        clear hbA
        go_wp2
        go_ret
        exact ⟨rfl, KA.out⟩
end Go.Proofs.YtpggfdnpbipckaaGreatDoor
