/- VmRuns: what any program tells, why it ends otherwise, and in how many steps, is chapter 6's own answer. -/
import Derived.Test.YtpggfdnpbipckaaGreatDoorVArg
import Derived.Test.YtpggfdnpbipckaaGreatDoorLGreat
import Derived.Test.YtpggfdnpbipckaaGreatDoorRRun
import Derived.Test.YtpggfdnpbipckaaGreatDoorPLendV
import Derived.Test.YtpggfdnpbipckaaGreatDoorTOver
namespace Go.Proofs.YtpggfdnpbipckaaGreatDoor
open Go.RowKit Go.Lib
set_option linter.unusedVariables false
set_option maxRecDepth 100000

/-- What was lent reads as what it was lent of. -/
theorem Co.lent {w : World} {base g : Nat} {l : List Inst} (h : w.ownsRow base 43 3 (.slice (some ⟨g, 0, none⟩) (l.length + 3) (l.length + 3)) (l.length + 3) (icl (l ++ List.replicate 3 z7))) : Co w (.slice (some ⟨g, 0, none⟩) l.length (l.length + 3)) l := Co.cut (Co.own h)
theorem Txs.lent {w : World} {base g : Nat} {l : List ByteArray} (h : w.ownsRow base 9 1 (.slice (some ⟨g, 0, none⟩) (l.length + 3) (l.length + 3)) (l.length + 3) (fl encT (l ++ List.replicate 3 lent))) : Txs w (.slice (some ⟨g, 0, none⟩) l.length (l.length + 3)) l := Reads.cut (Reads.own encT_len (by decide) h)
set_option maxHeartbeats 4000000 in
theorem vmRuns_plain (w : World) (T : Tabs w) (v : Value) (l : List Inst) (hv : Co w v l) (hnum : ∀ x ∈ l, I64 x.2.1) (key : ByteArray) (hkey : key.size ≤ maxLen) (u : Value) (vals : List ByteArray) (hu : Txs w u vals) (hvals : ∀ x ∈ vals, x.size ≤ maxLen) (fuel : Int) (hfu : I64 fuel) :
    Calls Tryz.prog 3 #[v, .string key, u, .int .i64 fuel] w fun e w' => e = .returned (.bool true) ∧ Below w.heap.size w w' := by
  have HT := hid T
  have HC := hid hv
  have HU := hid hu
  have K0 := hid (Below.refl w.heap.size w)
  have HG := hid (greatVm_any v l key u vals w hv hu)
  have HN := hid hnum
  have HK := hid hkey
  have HVL := hid hvals
  have HFU := hid hfu
  clear T hv hu hnum hkey hvals hfu
  go_enter Tryz.func3, Tryz.ntmps3
  go_wp2_with fail
  refine HG.out.mono ?_
  rintro e w0 ⟨⟨g, rfl, hg⟩, rfl⟩
  clear HG
  cases g with
  | true =>
    clear hg
    go_wp2_with fail
    refine (awakeVm vmOk _ (vmOk.stays _ _ K0.out HT.out)).mono ?_
    rintro e wA ⟨rfl, hbA⟩
    have KA := hid (below_then K0.out hbA K0.out.size)
    clear hbA
    go_wp2
    go_ret
    exact ⟨rfl, KA.out⟩
  | false =>
  obtain ⟨b1, b2, b3⟩ := hg rfl
  have HF := hid (show Fits l key vals from ⟨HN.out, by omega, HK.out, by omega, HVL.out⟩)
  have hfair := fair_run (key := key) (vals := vals) HN.out fuel
  clear hg HN HK HVL
  rcases hR : run l key vals fuel with ⟨ps, r, d⟩
  rw [hR] at hfair
  have hps := hfair.2.2.1
  simp only at hps
  have R := hid hR
  clear hR hfair
  go_wp2_with fail
  refine (lend_any v l _ HC.out b1).mono ?_
  rintro e w1 ⟨rfl, ho1, hb1⟩
  have K1 := hid hb1
  have L1 := hid ho1
  clear hb1 ho1 K0
  go_wp2_with fail
  refine (lendTexts_any u vals w1 (HU.out.below K1.out) (by omega)).mono ?_
  rintro e w2 ⟨rfl, ho2, hb2⟩
  have K2 := hid (below_then K1.out hb2 K1.out.size)
  have L2 := hid (owns_below L1.out hb2)
  have M2 := hid ho2
  have h12 := hid hb2.size
  clear ho2 hb2 L1
  go_wp2_with fail
  refine (vmOk.runs (vmOk.stays _ _ K2.out HT.out) (Co.lent L2.out) (Txs.lent M2.out) HF.out HFU.out R.out).mono ?_
  rintro e w3 ⟨x3, rfl, ho3, hb3⟩
  have K3 := hid (below_then K2.out hb3 K2.out.size)
  have L3 := hid (owns_below L2.out hb3)
  have M3 := hid (owns_below M2.out hb3)
  have P3 := hid ho3
  have s3 := hid hb3.size
  clear ho3 hb3 L2 M2
  go_wp2_with fail
  have HR4 := hid (refRunTells w3 v u l key vals fuel (HC.out.below K3.out) (HU.out.below K3.out) HF.out HFU.out)
  rw [R.out] at HR4
  refine HR4.out.mono ?_
  rintro e w4 ⟨x4, rfl, ho4, hb4⟩
  have K4 := hid (below_then K3.out hb4 K3.out.size)
  have L4 := hid (owns_below L3.out hb4)
  have M4 := hid (owns_below M3.out hb4)
  have P4 := hid (owns_below P3.out hb4)
  have Q4 := hid ho4
  have HPQ := hid (show ∀ g, x4.ownBlock = some g → x3.ownBlock ≠ some g from fun g h1 h2 => by
    have a1 := owns_base ho4 h1
    have a2 := owns_lt P3.out h2
    omega)
  have s4 := hid (Nat.le_trans s3.out hb4.size)
  clear ho4 hb4 L3 M3 P3 HR4 s3
  go_wp2_with fail
  refine (samePairs_any x3 x4 ps w4 (own_prs P4.out) (own_prs Q4.out)).mono ?_
  rintro e w5 ⟨rfl, n5, rfl⟩
  have B5 := below_drew w4 n5
  have K5 := hid (below_then K4.out B5 K4.out.size)
  have L5 := hid (owns_below L4.out B5)
  have M5 := hid (owns_below M4.out B5)
  have P5 := hid (owns_below P4.out B5)
  have Q5 := hid (owns_below Q4.out B5)
  have s5 := hid (Nat.le_trans s4.out B5.size)
  clear B5 L4 M4 P4 Q4 s4
  generalize w4.drewN n5 = w5 at K5 L5 M5 P5 Q5 s5 ⊢
  go_wp2_with fail
  refine (vmOk.does (vmOk.stays _ _ K5.out HT.out) (Co.lent L5.out) (Txs.lent M5.out) HF.out HFU.out R.out).mono ?_
  rintro e w6 ⟨rfl, hb6⟩
  have K6 := hid (below_then K5.out hb6 K5.out.size)
  have L6 := hid (owns_below L5.out hb6)
  have M6 := hid (owns_below M5.out hb6)
  have P6 := hid (owns_below P5.out hb6)
  have Q6 := hid (owns_below Q5.out hb6)
  have s6 := hid (Nat.le_trans s5.out hb6.size)
  clear hb6 L5 M5 P5 Q5 s5
  go_wp2_with fail
  have HR7 := hid (refRunCounts w6 v u l key vals fuel (HC.out.below K6.out) (HU.out.below K6.out) HF.out HFU.out)
  rw [R.out] at HR7
  refine HR7.out.mono ?_
  rintro e w7 ⟨rfl, hb7⟩
  have K7 := hid (below_then K6.out hb7 K6.out.size)
  have L7 := hid (owns_below L6.out hb7)
  have M7 := hid (owns_below M6.out hb7)
  have P7 := hid (owns_below P6.out hb7)
  have Q7 := hid (owns_below Q6.out hb7)
  have s7 := hid (Nat.le_trans s6.out hb7.size)
  clear hb7 L6 M6 P6 Q6 HR7 s6
  go_wp2_with fail
  refine (overPairs_grown ps.length _ x3 _ w7 P7.out s7.out (by omega)).mono ?_
  rintro e w8 ⟨rfl, hg8⟩
  have K8 := hid (K7.out.grown hg8 K7.out.size (fun q hq => Nat.le_trans K2.out.size (owns_base P7.out hq)))
  have L8 := hid (owns_grown_ne L7.out hg8 (owns_apart L7.out P7.out (by decide)))
  have M8 := hid (owns_grown_ne M7.out hg8 (owns_apart M7.out P7.out (by decide)))
  have Q8 := hid (owns_grown_ne Q7.out hg8 HPQ.out)
  clear hg8 L7 M7 P7 Q7
  go_wp2_with fail
  refine (vmOk.runs (vmOk.stays _ _ K8.out HT.out) (Co.lent L8.out) (Txs.lent M8.out) HF.out HFU.out R.out).mono ?_
  rintro e w9 ⟨x9, rfl, ho9, hb9⟩
  have K9 := hid (below_then K8.out hb9 K8.out.size)
  have L9 := hid (owns_below L8.out hb9)
  have M9 := hid (owns_below M8.out hb9)
  have Q9 := hid (owns_below Q8.out hb9)
  have P9 := hid ho9
  clear ho9 hb9 L8 M8 Q8
  go_wp2_with fail
  refine (samePairs_any x9 x4 ps w9 (own_prs P9.out) (own_prs Q9.out)).mono ?_
  rintro e w10 ⟨rfl, n10, rfl⟩
  have B10 := below_drew w9 n10
  have K10 := hid (below_then K9.out B10 K9.out.size)
  have L10 := hid (owns_below L9.out B10)
  have M10 := hid (owns_below M9.out B10)
  clear B10 L9 M9 P9 Q9
  generalize w9.drewN n10 = w10 at K10 L10 M10 ⊢
  go_wp2_with fail
  refine (kept_any _ v l w10 (Co.own L10.out) (HC.out.below K10.out) b1).mono ?_
  rintro e w11 ⟨rfl, n11, rfl⟩
  have B11 := below_drew w10 n11
  have K11 := hid (below_then K10.out B11 K10.out.size)
  have M11 := hid (owns_below M10.out B11)
  clear B11 L10 M10
  generalize w10.drewN n11 = w11 at K11 M11 ⊢
  go_wp2_with fail
  refine (keptTexts_any _ u vals w11 (Reads.own encT_len (by decide) M11.out) (HU.out.below K11.out) (by omega)).mono ?_
  rintro e w12 ⟨rfl, n12, rfl⟩
  have K12 := hid (below_then K11.out (below_drew w11 n12) K11.out.size)
  clear M11
  generalize w11.drewN n12 = w12 at K12 ⊢
  go_wp2_with fail
  refine (awakeVm vmOk _ (vmOk.stays _ _ K12.out HT.out)).mono ?_
  rintro e wA ⟨rfl, hbA⟩
  have KA := hid (below_then K12.out hbA K12.out.size)
  clear hbA
  go_wp2
  go_ret
  exact ⟨rfl, KA.out⟩
end Go.Proofs.YtpggfdnpbipckaaGreatDoor
