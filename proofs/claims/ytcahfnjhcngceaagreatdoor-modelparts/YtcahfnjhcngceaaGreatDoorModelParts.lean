/- A split's output is its parts' together, in order; the whole is the reduce of all splits' parts, merged in their order: the walk of ModelParts. -/
import Derived.Test.YtcahfnjhcngceaaGreatDoorOParts
namespace Go.Proofs.YtcahfnjhcngceaaGreatDoor
open Go.RowKit Go.Lib
set_option linter.unusedVariables false
set_option maxRecDepth 100000

set_option maxHeartbeats 16000000 in
theorem modelParts_main (s : SlJ) (j : JobV) (w : World) (T : Tabs w) (hj : JobIs w s.so s.mo s.co s.ro s.ko s.sc s.mc s.cc s.rc s.kc j) (fit : JobFit j) :
    Calls Tryz.prog 3 #[jobV s j] w fun e w' => e = .returned (.bool true) ∧ Below w.heap.size w w' := by
  have b1 := alloc_oneC w (.cells #[.slice s.so j.splits.length s.sc, .int .i64 j.parts, .slice s.mo j.mp.length s.mc, .slice s.co j.cb.length s.cc, .slice s.ro j.rd.length s.rc, .int .i64 j.chunk, .int .i64 j.window, .int .i64 j.fuel, .slice s.ko j.marks.length s.kc] 26)
  have n1 := new_block w (.cells #[.slice s.so j.splits.length s.sc, .int .i64 j.parts, .slice s.mo j.mp.length s.mc, .slice s.co j.cb.length s.cc, .slice s.ro j.rd.length s.rc, .int .i64 j.chunk, .int .i64 j.window, .int .i64 j.fuel, .slice s.ko j.marks.length s.kc] 26)
  have HJ1 := hid (hj.below b1)
  have HJ0 := hid hj
  have HB1 := hid b1
  have HN1 := hid n1
  have HT := hid T
  have HFit := hid fit
  have hnot : ∀ (x : Bool) (w : World), (Op.unary .not (.bool x)).run Tryz.prog w = .ok (.bool (!x)) w := fun _ _ => rfl
  clear b1 n1 hj T fit
  go_enter Tryz.func3, Tryz.ntmps3
  go_wp2_with fail
  refine (greatJob_any j s.so s.mo s.co s.ro s.ko s.sc s.mc s.cc s.rc s.kc _ HJ1.out).mono ?_
  rintro e w2 ⟨⟨g, rfl⟩, hb2⟩
  have HB2 := hid (below_then HB1.out hb2 HB1.out.size)
  have HJ2 := hid (HJ1.out.below hb2)
  have HN2 := hid (heap_on HN1.out hb2)
  clear hb2 HB1 HJ1 HN1
  cases g with
  | true =>
    go_wp2_with fail
    refine (awakeM _ (HT.out.on HB2.out)).mono ?_
    rintro e wA ⟨rfl, hbA⟩
    have KA := hid (below_then HB2.out hbA HB2.out.size)
    clear hbA
    go_wp2
    go_ret
    exact ⟨rfl, KA.out⟩
  | false =>
    have c0 : w2.cell? ⟨w.heap.size, 0, none⟩ = some (.slice s.so j.splits.length s.sc) := cell_of_cells HN2.out
    have c1 : w2.cell? ⟨w.heap.size, 1, none⟩ = some (.int .i64 j.parts) := cell_of_cells HN2.out
    have c2 : w2.cell? ⟨w.heap.size, 2, none⟩ = some (.slice s.mo j.mp.length s.mc) := cell_of_cells HN2.out
    have c3 : w2.cell? ⟨w.heap.size, 3, none⟩ = some (.slice s.co j.cb.length s.cc) := cell_of_cells HN2.out
    have c4 : w2.cell? ⟨w.heap.size, 4, none⟩ = some (.slice s.ro j.rd.length s.rc) := cell_of_cells HN2.out
    have c5 : w2.cell? ⟨w.heap.size, 5, none⟩ = some (.int .i64 j.chunk) := cell_of_cells HN2.out
    have c6 : w2.cell? ⟨w.heap.size, 6, none⟩ = some (.int .i64 j.window) := cell_of_cells HN2.out
    have c7 : w2.cell? ⟨w.heap.size, 7, none⟩ = some (.int .i64 j.fuel) := cell_of_cells HN2.out
    have c8 : w2.cell? ⟨w.heap.size, 8, none⟩ = some (.slice s.ko j.marks.length s.kc) := cell_of_cells HN2.out
    go_wp2_with fail
    refine (jobMay_any j s.so s.mo s.co s.ro s.ko s.sc s.mc s.cc s.rc s.kc _ HJ2.out).mono ?_
    rintro e w3 ⟨rfl, hb3⟩
    have HB3 := hid (below_then HB2.out hb3 HB2.out.size)
    have HJ3 := hid (HJ2.out.below hb3)
    have HN3 := hid (heap_on HN2.out hb3)
    clear c0 c1 c2 c3 c4 c5 c6 c7 c8
    clear hb3 HB2 HJ2 HN2
    by_cases hm : mayJ j = true
    · rw [hm]
      have HG3 := hid (show Given w3 s j from ⟨HJ3.out, HFit.out, hm, HT.out.on HB3.out⟩)
      have HG0 := hid (show Given w s j from ⟨HJ0.out, HFit.out, hm, HT.out⟩)
      have HM := hid (mayIs hm)
      have HFit0 := hid HFit.out
      clear hm HJ3 HFit
      have c0 : w3.cell? ⟨w.heap.size, 0, none⟩ = some (.slice s.so j.splits.length s.sc) := cell_of_cells HN3.out
      have c1 : w3.cell? ⟨w.heap.size, 1, none⟩ = some (.int .i64 j.parts) := cell_of_cells HN3.out
      have c2 : w3.cell? ⟨w.heap.size, 2, none⟩ = some (.slice s.mo j.mp.length s.mc) := cell_of_cells HN3.out
      have c3 : w3.cell? ⟨w.heap.size, 3, none⟩ = some (.slice s.co j.cb.length s.cc) := cell_of_cells HN3.out
      have c4 : w3.cell? ⟨w.heap.size, 4, none⟩ = some (.slice s.ro j.rd.length s.rc) := cell_of_cells HN3.out
      have c5 : w3.cell? ⟨w.heap.size, 5, none⟩ = some (.int .i64 j.chunk) := cell_of_cells HN3.out
      have c6 : w3.cell? ⟨w.heap.size, 6, none⟩ = some (.int .i64 j.window) := cell_of_cells HN3.out
      have c7 : w3.cell? ⟨w.heap.size, 7, none⟩ = some (.int .i64 j.fuel) := cell_of_cells HN3.out
      have c8 : w3.cell? ⟨w.heap.size, 8, none⟩ = some (.slice s.ko j.marks.length s.kc) := cell_of_cells HN3.out
      go_wp2_with fail
      refine (modelWhole_any HG3.out).mono ?_
      have HTold := hid (whole_told (j := j) HM.out.p1)
      have HFine := hid (whole_fine (j := j) HM.out.p1)
      generalize wholeD j = R at HTold HFine ⊢
      rintro e y1 ⟨v, rfl, hv, hb1⟩
      have HV1 := hid hv.lis
      obtain ⟨vo, vc, rfl, -⟩ := HV1.out.slice
      have HB1 := hid (below_then HB3.out hb1 HB3.out.size)
      have HN1 := hid (heap_on HN3.out hb1)
      clear hv hb1 HB3 HN3 HG3
      clear c0 c1 c2 c3 c4 c5 c6 c7 c8
      have c0 : y1.cell? ⟨w.heap.size, 0, none⟩ = some (.slice s.so j.splits.length s.sc) := cell_of_cells HN1.out
      have c1 : y1.cell? ⟨w.heap.size, 1, none⟩ = some (.int .i64 j.parts) := cell_of_cells HN1.out
      have c2 : y1.cell? ⟨w.heap.size, 2, none⟩ = some (.slice s.mo j.mp.length s.mc) := cell_of_cells HN1.out
      have c3 : y1.cell? ⟨w.heap.size, 3, none⟩ = some (.slice s.co j.cb.length s.cc) := cell_of_cells HN1.out
      have c4 : y1.cell? ⟨w.heap.size, 4, none⟩ = some (.slice s.ro j.rd.length s.rc) := cell_of_cells HN1.out
      have c5 : y1.cell? ⟨w.heap.size, 5, none⟩ = some (.int .i64 j.chunk) := cell_of_cells HN1.out
      have c6 : y1.cell? ⟨w.heap.size, 6, none⟩ = some (.int .i64 j.window) := cell_of_cells HN1.out
      have c7 : y1.cell? ⟨w.heap.size, 7, none⟩ = some (.int .i64 j.fuel) := cell_of_cells HN1.out
      have c8 : y1.cell? ⟨w.heap.size, 8, none⟩ = some (.slice s.ko j.marks.length s.kc) := cell_of_cells HN1.out
      by_cases hr : R.2.1 = 0
      · have h0 : (R.2.1 != 0) = false := by simpa using hr
        obtain ⟨hsf, hpf, hR1⟩ := HFine.out hr
        have hpn : ((j.parts.toNat : Nat) : Int) = j.parts := Int.toNat_of_nonneg (by have := HM.out.p1; omega)
        have hn4 : j.parts.toNat ≤ 4 := by have := HM.out.p4; omega
        have hlen : R.1.length = j.parts.toNat := by rw [hR1, List.length_map, partsD_len]
        have hne : ((R.1.length : Int) != j.parts) = false := by rw [hlen, hpn]; simp
        have HSf := hid hsf
        have HPf := hid hpf
        have HR1 := hid hR1
        have HPn := hid hpn
        have HLen := hid hlen
        have hsp := HM.out.sp
        clear hr hsf hpf hR1 hpn hlen HTold HFine
        go_wp2
        obtain ⟨i0, hi, hz0, hz1, hz2⟩ := info_parts Tryz.infoS
        clear c0 c1 c2 c3 c4 c5 c6 c7 c8
        go_loopw [2, 6] (fun r i wr => r = .bool false ∧ ∃ q : Nat, q ≤ j.parts.toNat ∧ i = .int .i64 q ∧ Below y1.heap.size y1 wr) (fun _ i _ => j.parts.toNat - (intOf i).toNat)
        case atStart => exact ⟨rfl, 0, by omega, rfl, Below.refl _ _⟩
        case round =>
          rename World => wr
          obtain ⟨rfl, q, hq, rfl, hbe⟩ := hrel
          have HBe := hid hbe
          have hszr := hbe.size
          have HNr := hid (heap_on HN1.out hbe)
          clear hbe
          have a1 : wr.cell? ⟨w.heap.size, 1, none⟩ = some (.int .i64 j.parts) := cell_of_cells HNr.out
          by_cases hlt : q < j.parts.toNat
          · have d1 : decide ((q : Int) < j.parts) = true := by have := HPn.out; simp; omega
            go_wp2
            go_loopw [2, 7, 8] (fun r u i wi => r = .bool false ∧ ∃ k : Nat, k ≤ j.splits.length ∧ i = .int .i64 k ∧ LRows wr.heap.size (onlyD j q ((splitsD j).take k)) u wi ∧ Below wr.heap.size wr wi) (fun _ _ i _ => j.splits.length - (intOf i).toNat)
            case atStart => exact ⟨rfl, 0, by omega, rfl, LRows.nil _ _, Below.refl _ _⟩
            case round =>
              rename World => wi
              obtain ⟨rfl, k, hk, rfl, hrw, hbi⟩ := hrel
              have HRw := hid hrw
              have HBi := hid hbi
              have hszi := hbi.size
              have HNi := hid (heap_on HNr.out hbi)
              have HBw := hid (below_then HB1.out (below_then HBe.out hbi HBe.out.size) HB1.out.size)
              clear hrw hbi
              have b0 : wi.cell? ⟨w.heap.size, 0, none⟩ = some (.slice s.so j.splits.length s.sc) := cell_of_cells HNi.out
              have b1 : wi.cell? ⟨w.heap.size, 1, none⟩ = some (.int .i64 j.parts) := cell_of_cells HNi.out
              have b2 : wi.cell? ⟨w.heap.size, 2, none⟩ = some (.slice s.mo j.mp.length s.mc) := cell_of_cells HNi.out
              have b3 : wi.cell? ⟨w.heap.size, 3, none⟩ = some (.slice s.co j.cb.length s.cc) := cell_of_cells HNi.out
              have b4 : wi.cell? ⟨w.heap.size, 4, none⟩ = some (.slice s.ro j.rd.length s.rc) := cell_of_cells HNi.out
              have b5 : wi.cell? ⟨w.heap.size, 5, none⟩ = some (.int .i64 j.chunk) := cell_of_cells HNi.out
              have b6 : wi.cell? ⟨w.heap.size, 6, none⟩ = some (.int .i64 j.window) := cell_of_cells HNi.out
              have b7 : wi.cell? ⟨w.heap.size, 7, none⟩ = some (.int .i64 j.fuel) := cell_of_cells HNi.out
              have b8 : wi.cell? ⟨w.heap.size, 8, none⟩ = some (.slice s.ko j.marks.length s.kc) := cell_of_cells HNi.out
              by_cases hlk : k < j.splits.length
              · have d2 : decide ((k : Int) < (j.splits.length : Int)) = true := by simp; omega
                go_wp2_with fail
                refine (modelSplit_any (HG0.out.on HBw.out) hlk).mono ?_
                have hXk := splitsD_at hlk
                have hsm := splitL_few j.mp j.cb j.fuel (j.splits[k])
                have HOk := hid (splitL_ok HFit0.out.mp HFit0.out.cb j.fuel (j.splits[k]))
                have HSrt := hid (split_srt j.mp j.cb j.fuel (j.splits[k]))
                have HRun := hid (fun (x : World) (G : Given x s j) => modelRun_any G hlk (q : Int))
                generalize splitL j.mp j.cb j.fuel (j.splits[k]) = S at hXk hsm HOk HSrt HRun ⊢
                have hS0 : S.2 = 0 := HSf.out S (List.mem_of_getElem? hXk)
                rw [runOf_fine hS0] at HRun
                have HXk := hid hXk
                rintro e z1 ⟨x1, rfl, ho1, hb1⟩
                rw [hS0]
                obtain ⟨xo, xc, rfl⟩ := own_slice ho1
                have HP1 := hid (show Prs z1 (.slice xo S.1.length xc) S.1 from Reads.own encP_len (by decide) ho1)
                have HBz1 := hid (below_then HBi.out hb1 HBi.out.size)
                have HBw1 := hid (below_then HBw.out hb1 HBw.out.size)
                have HNz1 := hid (heap_on HNi.out hb1)
                have HRw1 := hid (HRw.out.below hb1)
                clear ho1 hb1 hXk hS0 HRw HBw HNi
                clear b0 b1 b2 b3 b4 b5 b6 b7 b8
                have b0 : z1.cell? ⟨w.heap.size, 0, none⟩ = some (.slice s.so j.splits.length s.sc) := cell_of_cells HNz1.out
                have b1 : z1.cell? ⟨w.heap.size, 1, none⟩ = some (.int .i64 j.parts) := cell_of_cells HNz1.out
                have b2 : z1.cell? ⟨w.heap.size, 2, none⟩ = some (.slice s.mo j.mp.length s.mc) := cell_of_cells HNz1.out
                have b3 : z1.cell? ⟨w.heap.size, 3, none⟩ = some (.slice s.co j.cb.length s.cc) := cell_of_cells HNz1.out
                have b4 : z1.cell? ⟨w.heap.size, 4, none⟩ = some (.slice s.ro j.rd.length s.rc) := cell_of_cells HNz1.out
                have b5 : z1.cell? ⟨w.heap.size, 5, none⟩ = some (.int .i64 j.chunk) := cell_of_cells HNz1.out
                have b6 : z1.cell? ⟨w.heap.size, 6, none⟩ = some (.int .i64 j.window) := cell_of_cells HNz1.out
                have b7 : z1.cell? ⟨w.heap.size, 7, none⟩ = some (.int .i64 j.fuel) := cell_of_cells HNz1.out
                have b8 : z1.cell? ⟨w.heap.size, 8, none⟩ = some (.slice s.ko j.marks.length s.kc) := cell_of_cells HNz1.out
                go_wp2_with fail
                refine (HRun.out _ (HG0.out.on HBw1.out)).mono ?_
                rintro e z2 ⟨x2, rfl, ho2, hb2⟩
                obtain ⟨zo, zc, rfl⟩ := own_slice ho2
                simp only at ho2 ⊢
                have HO2 := hid (show Own 0 (.slice zo (onlyL S.1 j.parts q).length zc) (onlyL S.1 j.parts q) z2 from owns_mono ho2 (Nat.zero_le _))
                have HP2 := hid (HP1.out.below hb2)
                have HBz2 := hid (below_then HBz1.out hb2 HBz1.out.size)
                have HBw2 := hid (below_then HBw1.out hb2 HBw1.out.size)
                have HNz2 := hid (heap_on HNz1.out hb2)
                have HRw2 := hid (HRw1.out.below hb2)
                clear ho2 hb2 HP1 HBz1 HBw1 HNz1 HRw1 HRun
                clear b0 b1 b2 b3 b4 b5 b6 b7 b8
                have e00 : ((0 : Int) != 0) = false := rfl
                go_wp2_with fail
                refine (sorted_any _ S.1 z2 HP2.out).mono ?_
                rintro e z3 ⟨rfl, hb3⟩
                rw [show decide (srt S.1 = S.1) = true from decide_eq_true HSrt.out]
                have HO3 := hid (HO2.out.below hb3)
                have HP3 := hid (HP2.out.below hb3)
                have HBz3 := hid (below_then HBz2.out hb3 HBz2.out.size)
                have HBw3 := hid (below_then HBw2.out hb3 HBw2.out.size)
                have HNz3 := hid (heap_on HNz2.out hb3)
                have HRw3 := hid (HRw2.out.below hb3)
                clear hb3 HO2 HP2 HBz2 HBw2 HNz2 HRw2
                have b1 : z3.cell? ⟨w.heap.size, 1, none⟩ = some (.int .i64 j.parts) := cell_of_cells HNz3.out
                have hp1 := HM.out.p1
                have hp4 := HM.out.p4
                go_wp2_with fail
                refine (only_any _ S.1 j.parts q (by omega) (by omega) z3 HP3.out (by omega) (fun x hx => by have := (HOk.out x hx).1; omega)).mono ?_
                rintro e z4 ⟨x4, rfl, ho4, hb4⟩
                obtain ⟨fo, fc, rfl⟩ := own_slice ho4
                have HP4 := hid (show Prs z4 (.slice fo (onlyL S.1 j.parts q).length fc) (onlyL S.1 j.parts q) from Reads.own encP_len (by decide) ho4)
                have HO4 := hid (HO3.out.below hb4)
                have HBz4 := hid (below_then HBz3.out hb4 HBz3.out.size)
                have HRw4 := hid (HRw3.out.below hb4)
                clear ho4 hb4 HO3 HP3 HBz3 HBw3 HNz3 HRw3 b1
                go_wp2_with fail
                refine (samePairs_dec _ _ (onlyL S.1 j.parts q) (onlyL S.1 j.parts q) z4 HO4.out.prs HP4.out).mono ?_
                rintro e z5 ⟨rfl, t5, hz5⟩
                rw [show decide (onlyL S.1 j.parts q = onlyL S.1 j.parts q) = true by simp]
                have hb5 : Below z4.heap.size z4 z5 := by rw [hz5]; exact ⟨rfl, rfl, rfl, Nat.le_refl _, fun _ _ => rfl⟩
                have hmo := onlyD_more (j := j) (p := (q : Int)) HXk.out
                have hlk2 := onlyD_len j (q : Int) ((splitsD j).take k)
                have hlq : ((splitsD j).take k).length = k := by rw [List.length_take, splitsD_len]; omega
                rw [hlq] at hlk2
                generalize onlyL S.1 j.parts q = L at *
                have HO5 := hid (HO4.out.below hb5)
                have HBz5 := hid (below_then HBz4.out hb5 HBz4.out.size)
                obtain ⟨vs2, hv1, hv2⟩ := HRw4.out.below hb5
                rw [hlk2] at hv1
                have HV2' := hid hv1
                have HV3' := hid hv2
                have HMo := hid hmo
                have HLk := hid hlk2
                have hsz5 := HBz5.out.size
                clear hb5 hz5 hmo hlk2 hlq hv1 hv2 HO4 HP4 HBz4 HRw4
                go_wp2_with (at_builtin; refine wpList_append_own _ rfl _ _ 22 rfl wr.heap.size 31 i0 (.slice none 0 0) 1 24 Tryz.underlying22 hi hz0 hz1 hz2 rfl (by decide) _ k _ rfl (HV2'.out.alloc _) ⟨z5.heap.size, 0, none⟩ 1 1 [.slice zo L.length zc] rfl rfl (one_new _ _ _) (by intro u hu; simp at hu; subst hu; rfl) (by unfold maxLen; omega) (by omega) (by simp; omega) ?_; intro v3 w6 ho3 hg3 _)
                have HB6 := hid ((HBz5.out.alloc HBz5.out.size _).grown hg3 (by simp; omega) (by intro q hq; exact owns_base HV2'.out hq))
                have HC6 := hid (show LRows wr.heap.size (onlyD j q ((splitsD j).take (k + 1))) v3 w6 by
                  rw [HMo.out]
                  exact LRows.more (by rw [HLk.out]; exact HV2'.out.alloc _) (rows_at HV3'.out (alloc_one _ _)) (own_one (HO5.out.below (alloc_one _ _))) (by rw [HLk.out]; exact ho3) hg3)
                clear ho3 hg3 HV2' HV3' HO5 HBz5 HMo
                go_wp2
                go_roundw
                case rel => exact ⟨rfl, k + 1, by omega, by go_num, HC6.out, HB6.out⟩
                case measure => simp [intOf]; omega
              · obtain rfl : k = j.splits.length := by omega
                have d2 : decide ((j.splits.length : Int) < (j.splits.length : Int)) = false := by simp
                rw [show (splitsD j).take j.splits.length = splitsD j from List.take_of_length_le (by rw [splitsD_len]; omega)] at HRw
                have HEach := hid (part_each (q := (q : Int)) HSf.out)
                obtain ⟨hff, hfl⟩ := onlyD_fits HFit0.out HM.out (q : Int)
                have hp0 : (partD j q).2 = 0 := HPf.out _ (List.mem_of_getElem? (partsD_at hlt))
                have hRq : R.1[q]? = some (partD j q).1 := by rw [HR1.out, List.getElem?_map, partsD_at hlt]; rfl
                have HLis := hid (show Lis wi.drew _ _ from HRw.out.lis.below ⟨rfl, rfl, rfl, Nat.le_refl _, fun _ _ => rfl⟩)
                generalize onlyD j q (splitsD j) = ls at *
                generalize hD : partD j q = D at *
                have HFF := hid hff
                have HFl := hid hfl
                have HRq := hid hRq
                have HD0 := hid hp0
                have HOL := hid (lt_of_block HNi.out)
                have hlq : q < R.1.length := by have := HLen.out; omega
                have dq : decide ((q : Int) < (R.1.length : Int)) = true := by simp; omega
                clear hff hfl hRq hp0 hD HRw
                go_wp2_with fail
                go_region_held3 (fun w' => w'.cell? ⟨w.heap.size, 4, none⟩ = some (.slice s.ro j.rd.length s.rc) ∧ w'.cell? ⟨w.heap.size, 7, none⟩ = some (.int .i64 j.fuel)) (first | exact ⟨f4, f7⟩ | exact ⟨d4, d7⟩ | go_keep)
                  (first
                    | (go_at_call 15; refine (each_any _ _ _ j.rd (srt ls.flatten) j.fuel (HG0.out.on (below_then HBw.out HBa.out HBw.out.size)).tabs (HG0.out.on (below_then HBw.out HBa.out HBw.out.size)).job.rd (Reads.own encP_len (by decide) HOa.out) HFF.out HFit0.out.fuel).mono ?_; rw [← HEach.out]; rintro e z2 ⟨u2, rfl, ho2, hb2⟩; obtain ⟨zo, zc, rfl⟩ := own_slice ho2; have HBc := hid (below_then HBa.out hb2 HBa.out.size); have HP2 := hid (show Prs z2 (.slice zo D.1.length zc) D.1 from Reads.own encP_len (by decide) ho2); have f4 := (HBc.out.cell (p := ⟨w.heap.size, 4, none⟩) HOL.out).trans b4; have f7 := (HBc.out.cell (p := ⟨w.heap.size, 7, none⟩) HOL.out).trans b7; clear ho2 hb2)
                    | (go_at_call 16; refine (runs_any _ ls wi.drew HLis.out HFl.out).mono ?_; rintro e z1 ⟨u1, rfl, ho1, hb1⟩; have HBa := hid (show Below wi.heap.size wi z1 from ⟨hb1.os, hb1.tape, hb1.output, hb1.size, hb1.block⟩); have HOa := hid ho1; have d4 := (HBa.out.cell (p := ⟨w.heap.size, 4, none⟩) HOL.out).trans b4; have d7 := (HBa.out.cell (p := ⟨w.heap.size, 7, none⟩) HOL.out).trans b7; clear ho1 hb1))
                rw [HD0.out]
                have HBx := hid (below_then HBe.out (below_then HBi.out HBc.out HBi.out.size) HBe.out.size)
                obtain ⟨gb, go, l, lo, lc, hl, hvo, hgb, g0, hpl⟩ := (HV1.out.below HBx.out).cell hlq
                have hle : l = D.1 := by
                  rw [HRq.out] at hl
                  exact (Option.some.inj hl).symm
                subst hle
                have HPl := hid hpl
                have e00 : ((0 : Int) != 0) = false := rfl
                subst hvo
                clear hpl hl f4 f7 d4 d7 HOa HBa HBi HBw HLis HFF HNi
                clear b0 b1 b2 b3 b4 b5 b6 b7 b8
                go_wp2_with fail
                refine (samePairs_dec _ _ D.1 D.1 z2 HP2.out HPl.out).mono ?_
                rintro e z3 ⟨rfl, t3, hz3⟩
                rw [show decide (D.1 = D.1) = true by simp]
                have HB3 := hid (show Below y1.heap.size y1 z3 by rw [hz3]; exact ⟨HBx.out.os, HBx.out.tape, HBx.out.output, HBx.out.size, HBx.out.block⟩)
                clear hz3 HBx HP2 HPl
                go_wp2
                go_roundw
                case rel => exact ⟨rfl, q + 1, by omega, by go_num, HB3.out⟩
                case measure => simp [intOf]; omega
          · obtain rfl : q = j.parts.toNat := by omega
            have d1 : decide (((j.parts.toNat : Nat) : Int) < j.parts) = false := by have := HPn.out; simp; omega
            have HE := hid (below_then HB1.out HBe.out HB1.out.size)
            go_wp2_with fail
            refine (awakeM _ (HT.out.on HE.out)).mono ?_
            rintro e wA ⟨rfl, hbA⟩
            have KA := hid (below_then HE.out hbA HE.out.size)
            clear hbA
            go_wp2
            go_ret
            exact ⟨rfl, KA.out⟩
      · have h0 : (R.2.1 != 0) = true := by simpa using hr
        have HL0 := hid (show R.1.length = 0 by rw [HTold.out hr]; rfl)
        have h1 : ((R.1.length : Int) == 0) = true := by rw [HL0.out]; rfl
        clear hr HTold HFine
        go_wp2_with fail
        refine (awakeM _ (HT.out.on HB1.out)).mono ?_
        rintro e wA ⟨rfl, hbA⟩
        have KA := hid (below_then HB1.out hbA HB1.out.size)
        clear hbA
        go_wp2
        go_ret
        exact ⟨rfl, KA.out⟩
    · have hm2 := false_of_may hm
      rw [hm2]
      clear hm hm2
      go_wp2_with fail
      refine (awakeM _ (HT.out.on HB3.out)).mono ?_
      rintro e wA ⟨rfl, hbA⟩
      have KA := hid (below_then HB3.out hbA HB3.out.size)
      clear hbA
      go_wp2
      go_ret
      exact ⟨rfl, KA.out⟩
theorem modelParts_walk (w : World) (T : Tabs w) (cs : Array Value) (a) (hs : cs.size = 9) (h : rJob w cs.toList a) :
    Calls Tryz.prog 3 #[.agg cs] w fun e w' => e = .returned (.bool true) ∧ Below w.heap.size w w' := by
  obtain ⟨j, so, mo, co, ro, ko, sc, mc, cc, rc, kc, rfl, hj, fit⟩ := job_arg hs h
  exact modelParts_main ⟨so, mo, co, ro, ko, sc, mc, cc, rc, kc⟩ j w T hj fit
end Go.Proofs.YtcahfnjhcngceaaGreatDoor
