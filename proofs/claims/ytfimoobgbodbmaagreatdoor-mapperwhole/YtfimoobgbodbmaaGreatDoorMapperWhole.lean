/- MapperWhole: all chunks of a part, one behind the other, are the model's run; of all attempts alike. -/
import Derived.Test.YtfimoobgbodbmaaGreatDoorGMpE
import Derived.Test.YtfimoobgbodbmaaGreatDoorGTexts
namespace Go.Proofs.YtfimoobgbodbmaaGreatDoor
open Go.RowKit Go.Lib
set_option linter.unusedVariables false
set_option maxRecDepth 100000

set_option maxRecDepth 100000 in
set_option maxHeartbeats 24000000 in
theorem mapperWhole_main (w : World) (T : Tabs w) (s : SlJ) (c : CfgV) (hj : JobIs w s.so s.mo s.co s.ro s.ko s.sc s.mc s.cc s.rc s.kc c.job) (fit : JobFit c.job) (split a b : Int) :
    Calls Tryz.prog 4 #[cfgV s c, .int .i64 split, .int .i64 a, .int .i64 b] w fun e w' => e = .returned (.bool true) ∧ Below w.heap.size w w' := by
  have HF := hid (Cf.new w s c)
  have HJ := hid hj
  have HT := hid T
  have HFit := hid fit
  have hnot : ∀ (x : Bool) (w : World), (Op.unary .not (.bool x)).run Tryz.prog w = .ok (.bool (!x)) w := fun _ _ => rfl
  clear T hj fit
  go_enter Tryz.func4, Tryz.ntmps4
  go_wp2_with fail
  refine (greatJob_any c.job s.so s.mo s.co s.ro s.ko s.sc s.mc s.cc s.rc s.kc _ (HJ.out.below HF.out.bel)).mono ?_
  rintro e w1 ⟨⟨g, rfl⟩, hb1⟩
  replace HF := hid (HF.out.on hb1)
  clear hb1
  cases g
  case' true =>
    go_wp2_with fail
    refine (awake19 _ (HT.out.on HF.out.bel)).mono ?_
    rintro e w2 ⟨rfl, hb2⟩
    replace HF := hid (HF.out.on hb2)
    clear hb2
    go_wp2
    go_ret
    exact ⟨rfl, HF.out.bel⟩
  obtain ⟨c0, c1, c2, c3, c4, c5, c6, c7, c8, c9, c10, c11⟩ := HF.out.eqs
  go_wp2_with fail
  refine (mayConfig_any c s.so s.mo s.co s.ro s.ko s.sc s.mc s.cc s.rc s.kc _ (HJ.out.below HF.out.bel)).mono ?_
  rintro e w2 ⟨rfl, hb2⟩
  replace HF := hid (HF.out.on hb2)
  clear hb2 c0 c1 c2 c3 c4 c5 c6 c7 c8 c9 c10 c11
  obtain ⟨gm, hgm⟩ : ∃ g, mayC c = g := ⟨_, rfl⟩
  have HM := hid hgm
  rw [hgm]
  clear hgm
  cases gm
  case' false =>
    go_wp2_with fail
    refine (awake19 _ (HT.out.on HF.out.bel)).mono ?_
    rintro e w3 ⟨rfl, hb3⟩
    replace HF := hid (HF.out.on hb3)
    clear hb3
    go_wp2
    go_ret
    exact ⟨rfl, HF.out.bel⟩
  have hnums := mayJ_nums (mayC_job HM.out)
  have htr := mayC_tries HM.out
  have c0 := HF.out.eqs.1
  go_wp2_with fail
  refine (low_calls split (c.job.splits.length : Nat) (by omega) (by omega) _).mono ?_
  rintro e w3 ⟨rfl, rfl⟩
  obtain ⟨K, hK, hK6⟩ := low_nat split c.job.splits.length (by omega)
  rw [hK]
  obtain ⟨A1, hA1, hA13⟩ := low_nat a c.tries.toNat (by omega)
  obtain ⟨B1, hB1, hB13⟩ := low_nat b c.tries.toNat (by omega)
  rw [show ((c.tries.toNat : Nat) : Int) = c.tries by omega] at hA1 hB1
  have HA1 := hid hA1
  have HB1 := hid hB1
  have hA3 : A1 ≤ 2 := by omega
  have hB3 : B1 ≤ 2 := by omega
  have HBm := hid (show Base w c K (1 + (A1 : Int)) from ⟨HM.out, HFit.out, HT.out, hK6, by omega, by omega⟩)
  have HBn := hid (show Base w c K (1 + (B1 : Int)) from ⟨HM.out, HFit.out, HT.out, hK6, by omega, by omega⟩)
  have HWa := hid (show IntKind.i64.wrap (1 + (A1 : Int)) = 1 + (A1 : Int) by rw [IntKind.wrap_i64]; omega)
  have HWb := hid (show IntKind.i64.wrap (1 + (B1 : Int)) = 1 + (B1 : Int) by rw [IntKind.wrap_i64]; omega)
  have HNums := hid hnums
  have HTr := hid htr
  clear hK hA1 hB1 c0 hnums
  have HFd := hid (show Cf w s c w2.drew from HF.out.on (below_drew w2 1))
  obtain ⟨c0, c1, c2, c3, c4, c5, c6, c7, c8, c9, c10, c11⟩ := HFd.out.eqs
  go_wp2_with fail
  go_region_held3 (fun w' => w'.cell? ⟨w.heap.size, 0, none⟩ = some (.slice s.so c.job.splits.length s.sc) ∧ w'.cell? ⟨w.heap.size, 1, none⟩ = some (.int .i64 c.job.parts) ∧ w'.cell? ⟨w.heap.size, 2, none⟩ = some (.slice s.mo c.job.mp.length s.mc) ∧ w'.cell? ⟨w.heap.size, 3, none⟩ = some (.slice s.co c.job.cb.length s.cc) ∧ w'.cell? ⟨w.heap.size, 4, none⟩ = some (.slice s.ro c.job.rd.length s.rc) ∧ w'.cell? ⟨w.heap.size, 5, none⟩ = some (.int .i64 c.job.chunk) ∧ w'.cell? ⟨w.heap.size, 6, none⟩ = some (.int .i64 c.job.window) ∧ w'.cell? ⟨w.heap.size, 7, none⟩ = some (.int .i64 c.job.fuel) ∧ w'.cell? ⟨w.heap.size, 8, none⟩ = some (.slice s.ko c.job.marks.length s.kc) ∧ w'.cell? ⟨w.heap.size, 9, none⟩ = some (.int .i64 c.workers) ∧ w'.cell? ⟨w.heap.size, 10, none⟩ = some (.int .i64 c.tries) ∧ w'.cell? ⟨w.heap.size, 11, none⟩ = some (.int .i64 c.timeout)) (first | exact HF5.out.eqs | exact ⟨c0, c1, c2, c3, c4, c5, c6, c7, c8, c9, c10, c11⟩ | go_keep)
    (first
      | (go_at_call 30; refine (low_calls a c.tries (by omega) (by omega) _).mono ?_; rintro e w4 ⟨rfl, rfl⟩; rw [HA1.out])
      | (go_at_call 9; rw [HWa.out]; refine (mpNew_any HBm.out HFd.out.bel (HJ.out.below HFd.out.bel)).mono ?_; rintro e w5 ⟨bm, sm, I1, rfl, hm5, hi5, hb5⟩; have HF5 := hid (HFd.out.on hb5); have HM5 := hid hm5; have HI5 := hid (show ∀ g, I1 g → w.heap.size < g from fr_above HFd.out hi5 hm5); clear hm5 hi5 hb5))
  clear c0 c1 c2 c3 c4 c5 c6 c7 c8 c9 c10 c11 HF HFd
  have HG5 := hid (show Cf w s c w5.drew from HF5.out.on (below_drew w5 1))
  have HM6 := hid (show Fr w c K (1 + (A1 : Int)) bm sm 0 I1 w5.drew from HM5.out.below (below_drew w5 1))
  obtain ⟨c0, c1, c2, c3, c4, c5, c6, c7, c8, c9, c10, c11⟩ := HG5.out.eqs
  clear HF5 HM5
  go_wp2_with fail
  go_region_held3 (fun w' => w'.cell? ⟨w.heap.size, 0, none⟩ = some (.slice s.so c.job.splits.length s.sc) ∧ w'.cell? ⟨w.heap.size, 1, none⟩ = some (.int .i64 c.job.parts) ∧ w'.cell? ⟨w.heap.size, 2, none⟩ = some (.slice s.mo c.job.mp.length s.mc) ∧ w'.cell? ⟨w.heap.size, 3, none⟩ = some (.slice s.co c.job.cb.length s.cc) ∧ w'.cell? ⟨w.heap.size, 4, none⟩ = some (.slice s.ro c.job.rd.length s.rc) ∧ w'.cell? ⟨w.heap.size, 5, none⟩ = some (.int .i64 c.job.chunk) ∧ w'.cell? ⟨w.heap.size, 6, none⟩ = some (.int .i64 c.job.window) ∧ w'.cell? ⟨w.heap.size, 7, none⟩ = some (.int .i64 c.job.fuel) ∧ w'.cell? ⟨w.heap.size, 8, none⟩ = some (.slice s.ko c.job.marks.length s.kc) ∧ w'.cell? ⟨w.heap.size, 9, none⟩ = some (.int .i64 c.workers) ∧ w'.cell? ⟨w.heap.size, 10, none⟩ = some (.int .i64 c.tries) ∧ w'.cell? ⟨w.heap.size, 11, none⟩ = some (.int .i64 c.timeout)) (first | exact HF7.out.eqs | exact ⟨c0, c1, c2, c3, c4, c5, c6, c7, c8, c9, c10, c11⟩ | go_keep)
    (first
      | (go_at_call 30; refine (low_calls b c.tries (by omega) (by omega) _).mono ?_; rintro e w6 ⟨rfl, rfl⟩; rw [HB1.out])
      | (go_at_call 9; rw [HWb.out]; refine (mpNew_any HBn.out HG5.out.bel (HJ.out.below HG5.out.bel)).mono ?_; rintro e w7 ⟨bn, sn, I2, rfl, hn7, hi7, hb7⟩; have HF7 := hid (HG5.out.on hb7); have HN7 := hid hn7; have HM7 := hid (HM6.out.below hb7); have HI7 := hid (show ∀ g, I2 g → w.heap.size < g from fr_above HG5.out hi7 hn7); have HD7 := hid (show ∀ g, I1 g → ¬ I2 g from fun g hg h2 => by have := (HM6.out.bd g hg).2; have := hi7 g h2; omega); clear hn7 hi7 hb7))
  clear c0 c1 c2 c3 c4 c5 c6 c7 c8 c9 c10 c11 HG5 HM6 HWa HWb HA1 HB1
  go_wp2_with fail
  refine (reason_first w7 HBm.out HM7.out).mono ?_
  rintro e w8 ⟨rfl, Z, v, hm8, hs8⟩
  have HM8 := hid hm8
  have HF8 := hid (HF7.out.sav hs8 (fun g hg => by rw [show g = bm from hg]; exact HI5.out bm HM7.out.inb))
  have HN8 := hid (HN7.out.sav hs8 (fun g hg e => HD7.out bm HM7.out.inb (by rw [← show g = bm from e]; exact hg)) hm8.bel)
  have HD8 := hid (show ∀ g, Grow I1 w7 w8 g → ¬ I2 g from fun g hg h2 => by
    rcases hg with hg | hg
    · exact HD7.out g hg h2
    · have := (HN7.out.bd g h2).2
      omega)
  clear hm8 hs8 HF7 HM7 HN7 HD7
  generalize Grow I1 w7 w8 = I3 at *
  go_wp2_with fail
  refine (reason_first w8 HBn.out HN8.out).mono ?_
  rintro e w9 ⟨rfl, Y, u, hn9, hs9⟩
  have HN9 := hid hn9
  have HF9 := hid (HF8.out.sav hs9 (fun g hg => by rw [show g = bn from hg]; exact HI7.out bn HN8.out.inb))
  have HM9 := hid (HM8.out.sav hs9 (fun g hg e => HD8.out g hg (by rw [show g = bn from e]; exact HN8.out.inb)) hn9.bel)
  clear hn9 hs9 HF8 HM8 HN8 HD8 HI5 HI7
  generalize Grow I2 w8 w9 = I4 at *
  have hAR : (attV c K (1 + (A1 : Int))).R = splitL c.job.mp c.job.cb c.job.fuel (c.job.splits.getD K []) := rfl
  have hBR : (attV c K (1 + (B1 : Int))).R = splitL c.job.mp c.job.cb c.job.fuel (c.job.splits.getD K []) := rfl
  have hAP : (attV c K (1 + (A1 : Int))).parts = c.job.parts.toNat := rfl
  have hBP : (attV c K (1 + (B1 : Int))).parts = c.job.parts.toNat := rfl
  have HAO := hid HBm.out.at
  have HBO := hid HBn.out.at
  generalize attV c K (1 + (A1 : Int)) = A at *
  generalize attV c K (1 + (B1 : Int)) = B at *
  have hgd : c.job.splits.getD K [] = c.job.splits[K] := by
    rw [List.getD_eq_getElem?_getD, List.getElem?_eq_getElem hK6]
    rfl
  rw [hgd] at hAR hBR
  have HG := hid (fun (x : World) (hx : Below w.heap.size w x) => modelSplit_any (s := s) (j := c.job) (w := x) ⟨HJ.out.below hx, HFit.out, mayC_job HM.out, HT.out.on hx⟩ hK6)
  have HR := hid (fun (x : World) (hx : Below w.heap.size w x) (p : Int) => modelRun_any (s := s) (j := c.job) (w := x) ⟨HJ.out.below hx, HFit.out, mayC_job HM.out, HT.out.on hx⟩ hK6 p)
  generalize splitL c.job.mp c.job.cb c.job.fuel c.job.splits[K] = R at *
  rw [hAR, hBR]
  have hne : (R.2 != R.2) = false := by simp
  have HAR := hid hAR
  have HBR := hid hBR
  have HAP := hid hAP
  have HBP := hid hBP
  clear hAR hBR hAP hBP hgd
  obtain ⟨c0, c1, c2, c3, c4, c5, c6, c7, c8, c9, c10, c11⟩ := HF9.out.eqs
  go_wp2_with fail
  refine (HG.out w9 HF9.out.bel).mono ?_
  rintro e w10 ⟨x, rfl, -, hb10⟩
  have HF10 := hid (HF9.out.on hb10)
  have HM10 := hid (HM9.out.below hb10)
  have HN10 := hid (HN9.out.below hb10)
  clear c0 c1 c2 c3 c4 c5 c6 c7 c8 c9 c10 c11 hb10 HF9 HM9 HN9 HG
  go_wp2_with fail
  refine (reason_done w10 HM10.out).mono ?_
  rintro e w11 ⟨rfl, hb11⟩
  rw [HAR.out]
  have HF11 := hid (HF10.out.on hb11)
  have HM11 := hid (HM10.out.below hb11)
  have HN11 := hid (HN10.out.below hb11)
  clear hb11 HF10 HM10 HN10
  by_cases hr : R.2 = 0
  case neg =>
    have d1 : (R.2 != 0) = true := by simpa using hr
    have hr2 : ¬ A.R.2 = 0 := by rw [HAR.out]; exact hr
    have HNR := hid hr2
    clear hr hr2
    go_wp2_with fail
    refine (counts_done w11 HAO.out HM11.out).mono ?_
    rintro e w12 ⟨ao, co, rfl, -, hb12⟩
    rw [AtV.num_not HNR.out]
    have HF12 := hid (HF11.out.on hb12)
    have HM12 := hid (HM11.out.below hb12)
    clear hb12 HF11 HM11 HN11
    have hws := no_streams HM12.out.ok HNR.out
    go_wp2_with fail
    refine (mpPush_any w12 HAO.out HM12.out).mono ?_
    rintro e w13 ⟨a13, c13, ms, rfl, hms, -, hb13⟩
    have hml : ms.length = 0 := by
      have h1 : (asks ms).length = ms.length := by simp [asks]
      rw [hms, hws] at h1
      rw [← h1]
      rfl
    rw [hml]
    have HF13 := hid (HF12.out.on hb13)
    have HM13 := hid (HM12.out.below hb13)
    have HWS := hid hws
    clear hms hml hb13 HF12 HM12 hws
    go_wp2_with fail
    refine (mpDone_any w13 HAO.out HM13.out).mono ?_
    rintro e w14 ⟨rfl, hb14⟩
    rw [HWS.out, show doneA [] = true from rfl]
    have HF14 := hid (HF13.out.on hb14)
    clear hb14 HF13 HM13
    go_wp2_with fail
    refine (awake19 _ (HT.out.on HF14.out.bel)).mono ?_
    rintro e w15 ⟨rfl, hb15⟩
    have HF15 := hid (HF14.out.on hb15)
    clear hb15 HF14
    go_wp2
    go_ret
    exact ⟨rfl, HF15.out.bel⟩
  have d1 : (R.2 != 0) = false := by simpa using hr
  have HRF := hid hr
  have hp4 : 1 ≤ c.job.parts ∧ c.job.parts ≤ 4 := HNums.out.1
  have HNA := hid (show A.num = c.job.parts.toNat from by rw [AtV.num_fine (by rw [HAR.out]; exact hr), HAP.out])
  have HNB := hid (show B.num = c.job.parts.toNat from by rw [AtV.num_fine (by rw [HBR.out]; exact hr), HBP.out])
  have hpn : ((c.job.parts.toNat : Nat) : Int) = c.job.parts := by omega
  have HLA := hid (show ∀ p : Nat, A.list p = onlyL R.1 c.job.parts p from fun p => by unfold AtV.list; rw [HAR.out, HAP.out, hpn])
  have HLB := hid (show ∀ p : Nat, B.list p = onlyL R.1 c.job.parts p from fun p => by unfold AtV.list; rw [HBR.out, HBP.out, hpn])
  clear hr hpn
  go_wp2
  go_loopw [8, 15] (fun _ i wr => ∃ k : Nat, i = .int .i64 k ∧ (k : Int) ≤ c.job.parts ∧ Below w11.heap.size w11 wr) (fun _ i _ => c.job.parts.toNat - (intOf i).toNat)
  case atStart => exact ⟨0, rfl, by omega, Below.refl _ _⟩
  case round =>
    obtain ⟨k, rfl, hk, hbel⟩ := hrel
    have HF12 := hid (HF11.out.on hbel)
    have HM12 := hid (HM11.out.below hbel)
    have HN12 := hid (HN11.out.below hbel)
    have HZ := hid hbel.size
    have HBL := hid hbel
    clear hbel
    obtain ⟨c0, c1, c2, c3, c4, c5, c6, c7, c8, c9, c10, c11⟩ := HF12.out.eqs
    by_cases hlt : (k : Int) < c.job.parts
    · have d4 : decide ((k : Int) < c.job.parts) = true := by simpa using hlt
      go_wp2_with fail
      refine (HR.out wr HF12.out.bel k).mono ?_
      rintro e w13 ⟨x, rfl, ho13, hb13⟩
      rw [runOf_fine HRF.out] at ho13 ⊢
      replace ho13 : w13.ownsRow wr.heap.size 105 2 x (onlyL R.1 c.job.parts k).length (fl encP (onlyL R.1 c.job.parts k)) := ho13
      have HX13 := hid (show Prs w13 x (onlyL R.1 c.job.parts k) from Reads.own encP_len (by decide) ho13)
      have HM13 := hid (HM12.out.below hb13)
      have HN13 := hid (HN12.out.below hb13)
      have HB13 := hid (below_then HBL.out hb13 HBL.out.size)
      clear c0 c1 c2 c3 c4 c5 c6 c7 c8 c9 c10 c11 ho13 hb13 HM12 HN12 HF12 HBL
      go_wp2_with fail
      refine (joined_any w13 HAO.out HM13.out (p := k) (by rw [HNA.out]; omega)).mono ?_
      rintro e w14 ⟨y, rfl, ho14, hb14⟩
      rw [HLA.out k] at ho14
      have HY14 := hid (show Prs w14 y (onlyL R.1 c.job.parts k) from Reads.own encP_len (by decide) ho14)
      have HX14 := hid (HX13.out.below hb14)
      have HN14 := hid (HN13.out.below hb14)
      have HB14 := hid (below_then HB13.out hb14 HB13.out.size)
      clear ho14 hb14 HM13 HN13 HX13 HB13
      go_wp2_with fail
      refine (samePairs_dec _ _ _ _ w14 HY14.out HX14.out).mono ?_
      rintro e w15 ⟨rfl, n15, hw15⟩
      rw [show decide (onlyL R.1 c.job.parts k = onlyL R.1 c.job.parts k) = true from decide_eq_true rfl]
      have hb15 : Below w14.heap.size w14 w15 := by rw [hw15]; exact below_drew _ n15
      have HX15 := hid (HX14.out.below hb15)
      have HN15 := hid (HN14.out.below hb15)
      have HB15 := hid (below_then HB14.out hb15 HB14.out.size)
      clear hw15 hb15 HX14 HN14 HY14 HB14
      go_wp2_with fail
      refine (joined_any w15 HBO.out HN15.out (p := k) (by rw [HNB.out]; omega)).mono ?_
      rintro e w16 ⟨z, rfl, ho16, hb16⟩
      rw [HLB.out k] at ho16
      have HY16 := hid (show Prs w16 z (onlyL R.1 c.job.parts k) from Reads.own encP_len (by decide) ho16)
      have HX16 := hid (HX15.out.below hb16)
      have HB16 := hid (below_then HB15.out hb16 HB15.out.size)
      clear ho16 hb16 HN15 HX15 HB15
      go_wp2_with fail
      refine (samePairs_dec _ _ _ _ w16 HY16.out HX16.out).mono ?_
      rintro e w17 ⟨rfl, n17, hw17⟩
      rw [show decide (onlyL R.1 c.job.parts k = onlyL R.1 c.job.parts k) = true from decide_eq_true rfl]
      have hb17 : Below w16.heap.size w16 w17 := by rw [hw17]; exact below_drew _ n17
      have HB17 := hid (below_then HB16.out hb17 HB16.out.size)
      clear hw17 hb17 HX16 HY16 HB16
      go_wp2
      go_roundw
      case rel => exact ⟨k + 1, by go_num, by omega, HB17.out⟩
      case measure => simp [intOf]; omega
    · have d4 : decide ((k : Int) < c.job.parts) = false := by simpa using hlt
      go_wp2_with fail
      refine (awake19 _ (HT.out.on HF12.out.bel)).mono ?_
      rintro e w15 ⟨rfl, hb15⟩
      have HF15 := hid (HF12.out.on hb15)
      clear hb15 c0 c1 c2 c3 c4 c5 c6 c7 c8 c9 c10 c11 HF12
      go_wp2
      go_ret
      exact ⟨rfl, HF15.out.bel⟩
theorem mapperWhole_walk (w : World) (T : Tabs w) (cs : Array Value) (a) (hs : cs.size = 12) (h : rCfg w cs.toList a) (split : Int) (w1 : (Lit.int .i64 split).wf = true) (x : Int) (w2 : (Lit.int .i64 x).wf = true) (y : Int) (w3 : (Lit.int .i64 y).wf = true) :
    Calls Tryz.prog 4 #[.agg cs, .int .i64 split, .int .i64 x, .int .i64 y] w fun e w' => e = .returned (.bool true) ∧ Below w.heap.size w w' := by
  obtain ⟨c, s, hc, hj, fit, _⟩ := cfg_arg_fit hs h
  rw [hc]
  exact mapperWhole_main w T s c hj fit split x y
end Go.Proofs.YtfimoobgbodbmaaGreatDoor
