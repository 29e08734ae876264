/- What a job comes to does not hang on its chunks, its window and its marks; with more fuel, if it comes to all, it comes to the same: the walk of ModelAlike. -/
import Derived.Test.YtcahfnjhcngceaaGreatDoorOJobAt
import Derived.Test.YtcahfnjhcngceaaGreatDoorHeldBy
namespace Go.Proofs.YtcahfnjhcngceaaGreatDoor
open Go.RowKit Go.Lib
set_option linter.unusedVariables false
set_option maxRecDepth 100000

set_option maxHeartbeats 16000000 in
theorem modelAlike_main (s : SlJ) (j : JobV) (chunk window fuel : Int) (w : World) (T : Tabs w) (hj : JobIs w s.so s.mo s.co s.ro s.ko s.sc s.mc s.cc s.rc s.kc j) (fit : JobFit j) :
    Calls Tryz.prog 5 #[jobV s j, .int .i64 chunk, .int .i64 window, .int .i64 fuel] w fun e w' => e = .returned (.bool true) ∧ Below w.heap.size w w' := by
  have b1 := alloc_oneC w (.cells #[.slice s.so j.splits.length s.sc, .int .i64 j.parts, .slice s.mo j.mp.length s.mc, .slice s.co j.cb.length s.cc, .slice s.ro j.rd.length s.rc, .int .i64 j.chunk, .int .i64 j.window, .int .i64 j.fuel, .slice s.ko j.marks.length s.kc] 26)
  have n1 := new_block w (.cells #[.slice s.so j.splits.length s.sc, .int .i64 j.parts, .slice s.mo j.mp.length s.mc, .slice s.co j.cb.length s.cc, .slice s.ro j.rd.length s.rc, .int .i64 j.chunk, .int .i64 j.window, .int .i64 j.fuel, .slice s.ko j.marks.length s.kc] 26)
  have HJ1 := hid (hj.below b1)
  have HJ0 := hid hj
  have HB1 := hid b1
  have HN1 := hid n1
  have HT := hid T
  have HFit := hid fit
  have hnot : ∀ (x : Bool) (w : World), (Op.unary .not (.bool x)).run Tryz.prog w = .ok (.bool (!x)) w := fun _ _ => rfl
  clear b1 n1 hj T fit
  go_enter Tryz.func5, Tryz.ntmps5
  go_wp2_with fail
  refine (greatJob_any j s.so s.mo s.co s.ro s.ko s.sc s.mc s.cc s.rc s.kc _ HJ1.out).mono ?_
  rintro e w2 ⟨⟨g, rfl⟩, hb2⟩
  have HB2 := hid (below_then HB1.out hb2 HB1.out.size)
  have HJ2 := hid (HJ1.out.below hb2)
  have HN2 := hid (heap_on HN1.out hb2)
  clear hb2 HB1 HJ1 HN1
  cases g with
  | true =>
    go_wp2_with fail
    refine (awakeM _ (HT.out.on HB2.out)).mono ?_
    rintro e wA ⟨rfl, hbA⟩
    have KA := hid (below_then HB2.out hbA HB2.out.size)
    clear hbA
    go_wp2
    go_ret
    exact ⟨rfl, KA.out⟩
  | false =>
    have c0 : w2.cell? ⟨w.heap.size, 0, none⟩ = some (.slice s.so j.splits.length s.sc) := cell_of_cells HN2.out
    have c1 : w2.cell? ⟨w.heap.size, 1, none⟩ = some (.int .i64 j.parts) := cell_of_cells HN2.out
    have c2 : w2.cell? ⟨w.heap.size, 2, none⟩ = some (.slice s.mo j.mp.length s.mc) := cell_of_cells HN2.out
    have c3 : w2.cell? ⟨w.heap.size, 3, none⟩ = some (.slice s.co j.cb.length s.cc) := cell_of_cells HN2.out
    have c4 : w2.cell? ⟨w.heap.size, 4, none⟩ = some (.slice s.ro j.rd.length s.rc) := cell_of_cells HN2.out
    have c5 : w2.cell? ⟨w.heap.size, 5, none⟩ = some (.int .i64 j.chunk) := cell_of_cells HN2.out
    have c6 : w2.cell? ⟨w.heap.size, 6, none⟩ = some (.int .i64 j.window) := cell_of_cells HN2.out
    have c7 : w2.cell? ⟨w.heap.size, 7, none⟩ = some (.int .i64 j.fuel) := cell_of_cells HN2.out
    have c8 : w2.cell? ⟨w.heap.size, 8, none⟩ = some (.slice s.ko j.marks.length s.kc) := cell_of_cells HN2.out
    go_wp2_with fail
    refine (jobMay_any j s.so s.mo s.co s.ro s.ko s.sc s.mc s.cc s.rc s.kc _ HJ2.out).mono ?_
    rintro e w3 ⟨rfl, hb3⟩
    have HB3 := hid (below_then HB2.out hb3 HB2.out.size)
    have HJ3 := hid (HJ2.out.below hb3)
    have HN3 := hid (heap_on HN2.out hb3)
    clear c0 c1 c2 c3 c4 c5 c6 c7 c8
    clear hb3 HB2 HJ2 HN2
    by_cases hm : mayJ j = true
    · rw [hm]
      have HG3 := hid (show Given w3 s j from ⟨HJ3.out, HFit.out, hm, HT.out.on HB3.out⟩)
      have HG0 := hid (show Given w s j from ⟨HJ0.out, HFit.out, hm, HT.out⟩)
      have HM := hid (mayIs hm)
      clear hm HJ3 HFit
      have c0 : w3.cell? ⟨w.heap.size, 0, none⟩ = some (.slice s.so j.splits.length s.sc) := cell_of_cells HN3.out
      have c1 : w3.cell? ⟨w.heap.size, 1, none⟩ = some (.int .i64 j.parts) := cell_of_cells HN3.out
      have c2 : w3.cell? ⟨w.heap.size, 2, none⟩ = some (.slice s.mo j.mp.length s.mc) := cell_of_cells HN3.out
      have c3 : w3.cell? ⟨w.heap.size, 3, none⟩ = some (.slice s.co j.cb.length s.cc) := cell_of_cells HN3.out
      have c4 : w3.cell? ⟨w.heap.size, 4, none⟩ = some (.slice s.ro j.rd.length s.rc) := cell_of_cells HN3.out
      have c5 : w3.cell? ⟨w.heap.size, 5, none⟩ = some (.int .i64 j.chunk) := cell_of_cells HN3.out
      have c6 : w3.cell? ⟨w.heap.size, 6, none⟩ = some (.int .i64 j.window) := cell_of_cells HN3.out
      have c7 : w3.cell? ⟨w.heap.size, 7, none⟩ = some (.int .i64 j.fuel) := cell_of_cells HN3.out
      have c8 : w3.cell? ⟨w.heap.size, 8, none⟩ = some (.slice s.ko j.marks.length s.kc) := cell_of_cells HN3.out
      obtain ⟨c, hc, hc7⟩ := low_nat chunk 7 (by omega)
      obtain ⟨d, hd, hd4⟩ := low_nat window 4 (by omega)
      have HC := hid hc
      have HD := hid hd
      clear hc hd
      go_wp2_with fail
      refine (low_calls chunk 7 (by omega) (by omega) _).mono ?_
      rintro e wx ⟨rfl, hwx⟩
      subst hwx
      rw [show low chunk 7 = (c : Int) from HC.out]
      go_wp2_with fail
      refine (low_calls window 4 (by omega) (by omega) _).mono ?_
      rintro e wx ⟨rfl, hwx⟩
      subst hwx
      rw [show low window 4 = (d : Int) from HD.out]
      have hb4 := alloc_oneC w3 (.cells #[.slice s.so j.splits.length s.sc, .int .i64 j.parts, .slice s.mo j.mp.length s.mc, .slice s.co j.cb.length s.cc, .slice s.ro j.rd.length s.rc, .int .i64 (1 + (c : Int)), .int .i64 (1 + (d : Int)), .int .i64 j.fuel, .slice none 0 0] 26)
      have hn4 := heap_on HN3.out hb4
      have hk4 := new_block w3 (.cells #[.slice s.so j.splits.length s.sc, .int .i64 j.parts, .slice s.mo j.mp.length s.mc, .slice s.co j.cb.length s.cc, .slice s.ro j.rd.length s.rc, .int .i64 (1 + (c : Int)), .int .i64 (1 + (d : Int)), .int .i64 j.fuel, .slice none 0 0] 26)
      have d0 : (w3.alloc (.cells #[.slice s.so j.splits.length s.sc, .int .i64 j.parts, .slice s.mo j.mp.length s.mc, .slice s.co j.cb.length s.cc, .slice s.ro j.rd.length s.rc, .int .i64 (1 + (c : Int)), .int .i64 (1 + (d : Int)), .int .i64 j.fuel, .slice none 0 0] 26)).cell? ⟨w.heap.size, 0, none⟩ = some (.slice s.so j.splits.length s.sc) := cell_of_cells hn4
      have d1 : (w3.alloc (.cells #[.slice s.so j.splits.length s.sc, .int .i64 j.parts, .slice s.mo j.mp.length s.mc, .slice s.co j.cb.length s.cc, .slice s.ro j.rd.length s.rc, .int .i64 (1 + (c : Int)), .int .i64 (1 + (d : Int)), .int .i64 j.fuel, .slice none 0 0] 26)).cell? ⟨w.heap.size, 1, none⟩ = some (.int .i64 j.parts) := cell_of_cells hn4
      have d2 : (w3.alloc (.cells #[.slice s.so j.splits.length s.sc, .int .i64 j.parts, .slice s.mo j.mp.length s.mc, .slice s.co j.cb.length s.cc, .slice s.ro j.rd.length s.rc, .int .i64 (1 + (c : Int)), .int .i64 (1 + (d : Int)), .int .i64 j.fuel, .slice none 0 0] 26)).cell? ⟨w.heap.size, 2, none⟩ = some (.slice s.mo j.mp.length s.mc) := cell_of_cells hn4
      have d3 : (w3.alloc (.cells #[.slice s.so j.splits.length s.sc, .int .i64 j.parts, .slice s.mo j.mp.length s.mc, .slice s.co j.cb.length s.cc, .slice s.ro j.rd.length s.rc, .int .i64 (1 + (c : Int)), .int .i64 (1 + (d : Int)), .int .i64 j.fuel, .slice none 0 0] 26)).cell? ⟨w.heap.size, 3, none⟩ = some (.slice s.co j.cb.length s.cc) := cell_of_cells hn4
      have d4 : (w3.alloc (.cells #[.slice s.so j.splits.length s.sc, .int .i64 j.parts, .slice s.mo j.mp.length s.mc, .slice s.co j.cb.length s.cc, .slice s.ro j.rd.length s.rc, .int .i64 (1 + (c : Int)), .int .i64 (1 + (d : Int)), .int .i64 j.fuel, .slice none 0 0] 26)).cell? ⟨w.heap.size, 4, none⟩ = some (.slice s.ro j.rd.length s.rc) := cell_of_cells hn4
      have d5 : (w3.alloc (.cells #[.slice s.so j.splits.length s.sc, .int .i64 j.parts, .slice s.mo j.mp.length s.mc, .slice s.co j.cb.length s.cc, .slice s.ro j.rd.length s.rc, .int .i64 (1 + (c : Int)), .int .i64 (1 + (d : Int)), .int .i64 j.fuel, .slice none 0 0] 26)).cell? ⟨w.heap.size, 5, none⟩ = some (.int .i64 j.chunk) := cell_of_cells hn4
      have d6 : (w3.alloc (.cells #[.slice s.so j.splits.length s.sc, .int .i64 j.parts, .slice s.mo j.mp.length s.mc, .slice s.co j.cb.length s.cc, .slice s.ro j.rd.length s.rc, .int .i64 (1 + (c : Int)), .int .i64 (1 + (d : Int)), .int .i64 j.fuel, .slice none 0 0] 26)).cell? ⟨w.heap.size, 6, none⟩ = some (.int .i64 j.window) := cell_of_cells hn4
      have d7 : (w3.alloc (.cells #[.slice s.so j.splits.length s.sc, .int .i64 j.parts, .slice s.mo j.mp.length s.mc, .slice s.co j.cb.length s.cc, .slice s.ro j.rd.length s.rc, .int .i64 (1 + (c : Int)), .int .i64 (1 + (d : Int)), .int .i64 j.fuel, .slice none 0 0] 26)).cell? ⟨w.heap.size, 7, none⟩ = some (.int .i64 j.fuel) := cell_of_cells hn4
      have d8 : (w3.alloc (.cells #[.slice s.so j.splits.length s.sc, .int .i64 j.parts, .slice s.mo j.mp.length s.mc, .slice s.co j.cb.length s.cc, .slice s.ro j.rd.length s.rc, .int .i64 (1 + (c : Int)), .int .i64 (1 + (d : Int)), .int .i64 j.fuel, .slice none 0 0] 26)).cell? ⟨w.heap.size, 8, none⟩ = some (.slice s.ko j.marks.length s.kc) := cell_of_cells hn4
      have HN4 := hid hn4
      have HK4 := hid hk4
      have HB4 := hid (below_then HB3.out hb4 HB3.out.size)
      have HG4 := hid (HG3.out.on hb4)
      clear hb4 hn4 hk4
      go_wp2_with fail
      generalize w3.alloc (.cells #[.slice s.so j.splits.length s.sc, .int .i64 j.parts, .slice s.mo j.mp.length s.mc, .slice s.co j.cb.length s.cc, .slice s.ro j.rd.length s.rc, .int .i64 (1 + (c : Int)), .int .i64 (1 + (d : Int)), .int .i64 j.fuel, .slice none 0 0] 26) = w4 at *
      refine (modelWhole_any HG4.out).mono ?_
      have HFw := hid (fun (f : Int) hf h2 h => fuel_whole (j := alikeJ j (1 + (c : Int)) (1 + (d : Int))) (f := f) ⟨HM.out.sp, HM.out.p1, HM.out.p4, HM.out.mp, HM.out.cb, HM.out.rd, HM.out.recs, HM.out.f1, HM.out.f2⟩ hf h2 h)
      rw [alike_whole] at HFw
      have HAw := hid (alike_whole j (1 + (c : Int)) (1 + (d : Int)))
      generalize wholeD j = R at HFw HAw ⊢
      rintro e w5 ⟨v, rfl, hv, hb5⟩
      have HL5 := hid hv
      obtain ⟨vo, vc, rfl, -⟩ := HL5.out.lis.slice
      have HB5 := hid (below_then HB4.out hb5 HB4.out.size)
      have HG5 := hid (HG4.out.on hb5)
      have hk5 := heap_on HK4.out hb5
      have k0 : w5.cell? ⟨w3.heap.size, 0, none⟩ = some (.slice s.so j.splits.length s.sc) := cell_of_cells hk5
      have k1 : w5.cell? ⟨w3.heap.size, 1, none⟩ = some (.int .i64 j.parts) := cell_of_cells hk5
      have k2 : w5.cell? ⟨w3.heap.size, 2, none⟩ = some (.slice s.mo j.mp.length s.mc) := cell_of_cells hk5
      have k3 : w5.cell? ⟨w3.heap.size, 3, none⟩ = some (.slice s.co j.cb.length s.cc) := cell_of_cells hk5
      have k4 : w5.cell? ⟨w3.heap.size, 4, none⟩ = some (.slice s.ro j.rd.length s.rc) := cell_of_cells hk5
      have k5 : w5.cell? ⟨w3.heap.size, 5, none⟩ = some (.int .i64 (1 + (c : Int))) := cell_of_cells hk5
      have k6 : w5.cell? ⟨w3.heap.size, 6, none⟩ = some (.int .i64 (1 + (d : Int))) := cell_of_cells hk5
      have k7 : w5.cell? ⟨w3.heap.size, 7, none⟩ = some (.int .i64 j.fuel) := cell_of_cells hk5
      have k8 : w5.cell? ⟨w3.heap.size, 8, none⟩ = some (.slice none 0 0) := cell_of_cells hk5
      have HK5 := hid hk5
      clear d0 d1 d2 d3 d4 d5 d6 d7 d8
      clear hv hb5 hk5 HB4 HG4 HK4 HN4
      go_wp2_with fail
      refine (modelWhole_any (s := alikeS s) (j := alikeJ j (1 + (c : Int)) (1 + (d : Int))) (alike_given HG5.out (by omega) (by omega))).mono ?_
      rw [HAw.out]
      rintro e w6 ⟨v2, rfl, hv, hb6⟩
      have HM6 := hid hv.lis
      obtain ⟨uo, uc, rfl, -⟩ := HM6.out.slice
      have HL6 := hid (HL5.out.below hb6)
      have HB6 := hid (below_then HB5.out hb6 HB5.out.size)
      have HG6 := hid (HG5.out.on hb6)
      have HK6 := hid (heap_on HK5.out hb6)
      clear k0 k1 k2 k3 k4 k5 k6 k7 k8
      clear hv hb6 HB5 HG5 HK5 HL5
      have hx : (R.2.1 != R.2.1) = false := by simp
      have hy : ((R.2.2 : Int) != (R.2.2 : Int)) = false := by simp
      go_wp2_with fail
      refine (sameRuns_dec _ _ R.1 R.1 _ HL6.out.lis HM6.out).mono ?_
      rintro e w7 ⟨rfl, hb7⟩
      rw [show decide (R.1 = R.1) = true by simp]
      have HL7 := hid (HL6.out.below hb7)
      have HB7 := hid (below_then HB6.out hb7 HB6.out.size)
      have HG7 := hid (HG6.out.on hb7)
      have hk7 := heap_on HK6.out hb7
      have k0 : w7.cell? ⟨w3.heap.size, 0, none⟩ = some (.slice s.so j.splits.length s.sc) := cell_of_cells hk7
      have k1 : w7.cell? ⟨w3.heap.size, 1, none⟩ = some (.int .i64 j.parts) := cell_of_cells hk7
      have k2 : w7.cell? ⟨w3.heap.size, 2, none⟩ = some (.slice s.mo j.mp.length s.mc) := cell_of_cells hk7
      have k3 : w7.cell? ⟨w3.heap.size, 3, none⟩ = some (.slice s.co j.cb.length s.cc) := cell_of_cells hk7
      have k4 : w7.cell? ⟨w3.heap.size, 4, none⟩ = some (.slice s.ro j.rd.length s.rc) := cell_of_cells hk7
      have k5 : w7.cell? ⟨w3.heap.size, 5, none⟩ = some (.int .i64 (1 + (c : Int))) := cell_of_cells hk7
      have k6 : w7.cell? ⟨w3.heap.size, 6, none⟩ = some (.int .i64 (1 + (d : Int))) := cell_of_cells hk7
      have k7 : w7.cell? ⟨w3.heap.size, 7, none⟩ = some (.int .i64 j.fuel) := cell_of_cells hk7
      have k8 : w7.cell? ⟨w3.heap.size, 8, none⟩ = some (.slice none 0 0) := cell_of_cells hk7
      have f7 : w7.frozen? ⟨w3.heap.size, 7, none⟩ = false := free_of_cells hk7
      have HK7 := hid hk7
      clear hb7 hk7 HB6 HG6 HK6 HL6 HM6
      have hf1 := HM.out.f1
      have hf2 := HM.out.f2
      have hq1 := (low_bd fuel (2000 - j.fuel + 1) (by omega)).1
      have hq2 := (low_bd fuel (2000 - j.fuel + 1) (by omega)).2
      have HQ := hid (show ∀ x : World, Calls Tryz.prog 18 #[.int .i64 fuel, .int .i64 (2000 - j.fuel + 1)] x fun e w' => e = .returned (.int .i64 (low fuel (2000 - j.fuel + 1))) ∧ x = w' from fun x => low_calls fuel (2000 - j.fuel + 1) (by omega) (by omega) x)
      generalize low fuel (2000 - j.fuel + 1) = q at hq1 hq2 HQ
      go_wp2_with fail
      refine wp_region_held_drew (S := fun _ => True) (by kernel_rfl) trivial (fun hHeld => ?_)
      refine takeH 0 63 (.pointer (some ⟨w3.heap.size, 7, none⟩)) rfl rfl (by kernel_rfl) (by kernel_rfl) (by kernel_rfl) (fun _ _ _ h => h) (by rfl) ?_ trivial ?_
      · intro w' hSw
        go_simp
      try simp only [Act.put, List.setIfInBounds_toArray, List.set_cons_zero, List.set_cons_succ]
      refine takeH 2 65 (.int .i64 fuel) rfl rfl (by kernel_rfl) (by kernel_rfl) (by kernel_rfl) (fun _ _ _ h => h) (by rfl) ?_ trivial ?_
      · intro w' hSw
        go_simp
      try simp only [Act.put, List.setIfInBounds_toArray, List.set_cons_zero, List.set_cons_succ]
      refine takeH 3 66 (.pointer (some ⟨w3.heap.size, 7, none⟩)) rfl rfl (by kernel_rfl) (by kernel_rfl) (by kernel_rfl) (fun _ _ _ h => h) (by rfl) ?_ trivial ?_
      · intro w' hSw
        go_simp
      try simp only [Act.put, List.setIfInBounds_toArray, List.set_cons_zero, List.set_cons_succ]
      refine wpAnyH_ready (rs := [1, 4]) (by kernel_rfl) (by simp) (nextH 1 rfl (by rfl) (fun K hK => ?_) (nextH 4 rfl (by rfl) (fun K hK => ?_) AllReadyH.nil))
      · go_simp
        refine hK.out _ _ trivial (fun hHeld => ?_)
        clear hK K
        refine wpAnyH_ready (rs := [4]) (by kernel_rfl) (by simp) (nextH 4 rfl (by rfl) (fun K hK => ?_) AllReadyH.nil)
        go_simp
        refine hK.out _ _ trivial (fun hHeld => ?_)
        clear hK K
        refine takeH 5 68 (.int .i64 (2000 - j.fuel)) rfl rfl (by kernel_rfl) (by kernel_rfl) (by kernel_rfl) (fun _ _ _ h => h) (by rfl) ?_ trivial ?_
        · intro w' hSw
          go_simp
          exact iwrap (by omega) (by omega)
        try simp only [Act.put, List.setIfInBounds_toArray, List.set_cons_zero, List.set_cons_succ]
        refine takeH 6 69 (.int .i64 (2000 - j.fuel + 1)) rfl rfl (by kernel_rfl) (by kernel_rfl) (by kernel_rfl) (fun _ _ _ h => h) (by rfl) ?_ trivial ?_
        · intro w' hSw
          go_simp
          exact iwrap (by omega) (by omega)
        try simp only [Act.put, List.setIfInBounds_toArray, List.set_cons_zero, List.set_cons_succ]
        refine wpAnyH_ready (rs := [7]) (by kernel_rfl) (by simp) (nextH 7 rfl (by rfl) (fun K hK => ?_) AllReadyH.nil)
        go_simp
        refine (HQ.out _).mono ?_
        rintro e wx ⟨rfl, hwx⟩
        subst hwx
        refine hK.out _ _ trivial (fun hHeld => ?_)
        clear hK K
        try simp only [Act.put, List.setIfInBounds_toArray, List.set_cons_zero, List.set_cons_succ]
        refine takeH 8 71 (.int .i64 (j.fuel + q)) rfl rfl (by kernel_rfl) (by kernel_rfl) (by kernel_rfl) (fun _ _ _ h => h) (by rfl) ?_ trivial ?_
        · intro w' hSw
          go_simp
          exact iwrap (by omega) (by omega)
        try simp only [Act.put, List.setIfInBounds_toArray, List.set_cons_zero, List.set_cons_succ]
        refine takeH 9 72 (.pointer (some ⟨w3.heap.size, 7, none⟩)) rfl rfl (by kernel_rfl) (by kernel_rfl) (by kernel_rfl) (fun _ _ _ h => h) (by rfl) ?_ trivial ?_
        · intro w' hSw
          go_simp
        try simp only [Act.put, List.setIfInBounds_toArray, List.set_cons_zero, List.set_cons_succ]
        refine wpAnyH_ready (rs := [10]) (by kernel_rfl) (by simp) (nextH 10 rfl (by rfl) (fun K hK => ?_) AllReadyH.nil)
        go_simp
        refine hK.out _ _ trivial (fun hHeld => ?_)
        clear hK K
        refine wpAnyH_done (by kernel_rfl) ?_ _
        have hk8 : ((w7.setCell ⟨w3.heap.size, 7, none⟩ (.int .i64 (j.fuel + q))).drew).heap[w3.heap.size]? = some (.cells #[.slice s.so j.splits.length s.sc, .int .i64 j.parts, .slice s.mo j.mp.length s.mc, .slice s.co j.cb.length s.cc, .slice s.ro j.rd.length s.rc, .int .i64 (1 + (c : Int)), .int .i64 (1 + (d : Int)), .int .i64 (j.fuel + q), .slice none 0 0] 26 (0, 0)) := heap_setCell_same w7 w3.heap.size 7 _ _ _ HK7.out
        have hs8 : Sav (Just w3.heap.size) w7 ((w7.setCell ⟨w3.heap.size, 7, none⟩ (.int .i64 (j.fuel + q))).drew) := ((Sav.refl (Just w3.heap.size) w7).setCell (just _) 7 _).drew
        have hB8 : Below w.heap.size w ((w7.setCell ⟨w3.heap.size, 7, none⟩ (.int .i64 (j.fuel + q))).drew) := HB7.out.trans (hs8.below (fun k hk => by unfold Just at hk; have := HB3.out.size; omega) (by have := HB7.out.size; omega))
        have HL8 := hid (HL7.out.just HK7.out hs8 (by decide) (by decide))
        have HB8 := hid hB8
        have HG8 := hid (HG0.out.on hB8)
        clear hs8 hB8 HL7 HB7 HG7 HK7 f7 k0 k1 k2 k3 k4 k5 k6 k7 k8 hHeld
        generalize (w7.setCell ⟨w3.heap.size, 7, none⟩ (.int .i64 (j.fuel + q))).drew = w8 at hk8 HL8 HB8 HG8 ⊢
        have l0 : w8.cell? ⟨w3.heap.size, 0, none⟩ = some (.slice s.so j.splits.length s.sc) := cell_of_cells hk8
        have l1 : w8.cell? ⟨w3.heap.size, 1, none⟩ = some (.int .i64 j.parts) := cell_of_cells hk8
        have l2 : w8.cell? ⟨w3.heap.size, 2, none⟩ = some (.slice s.mo j.mp.length s.mc) := cell_of_cells hk8
        have l3 : w8.cell? ⟨w3.heap.size, 3, none⟩ = some (.slice s.co j.cb.length s.cc) := cell_of_cells hk8
        have l4 : w8.cell? ⟨w3.heap.size, 4, none⟩ = some (.slice s.ro j.rd.length s.rc) := cell_of_cells hk8
        have l5 : w8.cell? ⟨w3.heap.size, 5, none⟩ = some (.int .i64 (1 + (c : Int))) := cell_of_cells hk8
        have l6 : w8.cell? ⟨w3.heap.size, 6, none⟩ = some (.int .i64 (1 + (d : Int))) := cell_of_cells hk8
        have l7 : w8.cell? ⟨w3.heap.size, 7, none⟩ = some (.int .i64 (j.fuel + q)) := cell_of_cells hk8
        have l8 : w8.cell? ⟨w3.heap.size, 8, none⟩ = some (.slice none 0 0) := cell_of_cells hk8
        have HE := hid (HFw.out (j.fuel + q) (show j.fuel ≤ j.fuel + q by omega) (by omega))
        go_wp2_with fail
        refine (modelWhole_any (s := alikeS s) (j := fuelJ (alikeJ j (1 + (c : Int)) (1 + (d : Int))) (j.fuel + q)) (fuel_given (alike_given HG8.out (by omega) (by omega)) (by omega))).mono ?_
        generalize wholeD (fuelJ (alikeJ j (1 + (c : Int)) (1 + (d : Int))) (j.fuel + q)) = R2 at HE ⊢
        rintro e w9 ⟨v3, rfl, hv, hb9⟩
        have HM9 := hid hv.lis
        obtain ⟨xo, xc, rfl, -⟩ := HM9.out.slice
        have HL9 := hid (HL8.out.below hb9).lis
        have HB9 := hid (below_then HB8.out hb9 HB8.out.size)
        clear hv hb9 HL8 HB8 HG8 hk8 HFw l0 l1 l2 l3 l4 l5 l6 l7 l8 hq1 hq2 hf1 hf2 HQ
        by_cases hr : R.2.1 = 0
        · have hR2 : R = R2 := (HE.out hr).symm
          subst hR2
          have hx : (R.2.1 != 0) = false := by simpa using hr
          have hy : (R.2.1 == 0) = true := by simpa using hr
          have HR := hid hr
          clear hr
          go_wp2_with fail
          refine (sameRuns_dec _ _ R.1 R.1 _ HL9.out HM9.out).mono ?_
          rintro e w10 ⟨rfl, hb10⟩
          rw [show decide (R.1 = R.1) = true by simp]
          have HB10 := hid (below_then HB9.out hb10 HB9.out.size)
          clear hb10 HB9 HL9 HM9
          go_wp2_with fail
          refine (awakeM _ (HT.out.on HB10.out)).mono ?_
          rintro e wA ⟨rfl, hbA⟩
          have KA := hid (below_then HB10.out hbA HB10.out.size)
          clear hbA
          go_wp2
          go_ret
          exact ⟨rfl, KA.out⟩
        · have hx : (R.2.1 != 0) = true := by simpa using hr
          clear hr HE
          go_wp2_with fail
          refine (awakeM _ (HT.out.on HB9.out)).mono ?_
          rintro e wA ⟨rfl, hbA⟩
          have KA := hid (below_then HB9.out hbA HB9.out.size)
          clear hbA
          go_wp2
          go_ret
          exact ⟨rfl, KA.out⟩
      · go_simp
        refine hK.out _ _ trivial (fun hHeld => ?_)
        clear hK K
        refine takeH 5 68 (.int .i64 (2000 - j.fuel)) rfl rfl (by kernel_rfl) (by kernel_rfl) (by kernel_rfl) (fun _ _ _ h => h) (by rfl) ?_ trivial ?_
        · intro w' hSw
          go_simp
          exact iwrap (by omega) (by omega)
        try simp only [Act.put, List.setIfInBounds_toArray, List.set_cons_zero, List.set_cons_succ]
        refine takeH 6 69 (.int .i64 (2000 - j.fuel + 1)) rfl rfl (by kernel_rfl) (by kernel_rfl) (by kernel_rfl) (fun _ _ _ h => h) (by rfl) ?_ trivial ?_
        · intro w' hSw
          go_simp
          exact iwrap (by omega) (by omega)
        try simp only [Act.put, List.setIfInBounds_toArray, List.set_cons_zero, List.set_cons_succ]
        refine wpAnyH_ready (rs := [1, 7]) (by kernel_rfl) (by simp) (nextH 1 rfl (by rfl) (fun K hK => ?_) (nextH 7 rfl (by rfl) (fun K hK => ?_) AllReadyH.nil))
        · go_simp
          refine hK.out _ _ trivial (fun hHeld => ?_)
          clear hK K
          refine wpAnyH_ready (rs := [7]) (by kernel_rfl) (by simp) (nextH 7 rfl (by rfl) (fun K hK => ?_) AllReadyH.nil)
          go_simp
          refine (HQ.out _).mono ?_
          rintro e wx ⟨rfl, hwx⟩
          subst hwx
          refine hK.out _ _ trivial (fun hHeld => ?_)
          clear hK K
          try simp only [Act.put, List.setIfInBounds_toArray, List.set_cons_zero, List.set_cons_succ]
          refine takeH 8 71 (.int .i64 (j.fuel + q)) rfl rfl (by kernel_rfl) (by kernel_rfl) (by kernel_rfl) (fun _ _ _ h => h) (by rfl) ?_ trivial ?_
          · intro w' hSw
            go_simp
            exact iwrap (by omega) (by omega)
          try simp only [Act.put, List.setIfInBounds_toArray, List.set_cons_zero, List.set_cons_succ]
          refine takeH 9 72 (.pointer (some ⟨w3.heap.size, 7, none⟩)) rfl rfl (by kernel_rfl) (by kernel_rfl) (by kernel_rfl) (fun _ _ _ h => h) (by rfl) ?_ trivial ?_
          · intro w' hSw
            go_simp
          try simp only [Act.put, List.setIfInBounds_toArray, List.set_cons_zero, List.set_cons_succ]
          refine wpAnyH_ready (rs := [10]) (by kernel_rfl) (by simp) (nextH 10 rfl (by rfl) (fun K hK => ?_) AllReadyH.nil)
          go_simp
          refine hK.out _ _ trivial (fun hHeld => ?_)
          clear hK K
          refine wpAnyH_done (by kernel_rfl) ?_ _
          have hk8 : ((w7.setCell ⟨w3.heap.size, 7, none⟩ (.int .i64 (j.fuel + q))).drew).heap[w3.heap.size]? = some (.cells #[.slice s.so j.splits.length s.sc, .int .i64 j.parts, .slice s.mo j.mp.length s.mc, .slice s.co j.cb.length s.cc, .slice s.ro j.rd.length s.rc, .int .i64 (1 + (c : Int)), .int .i64 (1 + (d : Int)), .int .i64 (j.fuel + q), .slice none 0 0] 26 (0, 0)) := heap_setCell_same w7 w3.heap.size 7 _ _ _ HK7.out
          have hs8 : Sav (Just w3.heap.size) w7 ((w7.setCell ⟨w3.heap.size, 7, none⟩ (.int .i64 (j.fuel + q))).drew) := ((Sav.refl (Just w3.heap.size) w7).setCell (just _) 7 _).drew
          have hB8 : Below w.heap.size w ((w7.setCell ⟨w3.heap.size, 7, none⟩ (.int .i64 (j.fuel + q))).drew) := HB7.out.trans (hs8.below (fun k hk => by unfold Just at hk; have := HB3.out.size; omega) (by have := HB7.out.size; omega))
          have HL8 := hid (HL7.out.just HK7.out hs8 (by decide) (by decide))
          have HB8 := hid hB8
          have HG8 := hid (HG0.out.on hB8)
          clear hs8 hB8 HL7 HB7 HG7 HK7 f7 k0 k1 k2 k3 k4 k5 k6 k7 k8 hHeld
          generalize (w7.setCell ⟨w3.heap.size, 7, none⟩ (.int .i64 (j.fuel + q))).drew = w8 at hk8 HL8 HB8 HG8 ⊢
          have l0 : w8.cell? ⟨w3.heap.size, 0, none⟩ = some (.slice s.so j.splits.length s.sc) := cell_of_cells hk8
          have l1 : w8.cell? ⟨w3.heap.size, 1, none⟩ = some (.int .i64 j.parts) := cell_of_cells hk8
          have l2 : w8.cell? ⟨w3.heap.size, 2, none⟩ = some (.slice s.mo j.mp.length s.mc) := cell_of_cells hk8
          have l3 : w8.cell? ⟨w3.heap.size, 3, none⟩ = some (.slice s.co j.cb.length s.cc) := cell_of_cells hk8
          have l4 : w8.cell? ⟨w3.heap.size, 4, none⟩ = some (.slice s.ro j.rd.length s.rc) := cell_of_cells hk8
          have l5 : w8.cell? ⟨w3.heap.size, 5, none⟩ = some (.int .i64 (1 + (c : Int))) := cell_of_cells hk8
          have l6 : w8.cell? ⟨w3.heap.size, 6, none⟩ = some (.int .i64 (1 + (d : Int))) := cell_of_cells hk8
          have l7 : w8.cell? ⟨w3.heap.size, 7, none⟩ = some (.int .i64 (j.fuel + q)) := cell_of_cells hk8
          have l8 : w8.cell? ⟨w3.heap.size, 8, none⟩ = some (.slice none 0 0) := cell_of_cells hk8
          have HE := hid (HFw.out (j.fuel + q) (show j.fuel ≤ j.fuel + q by omega) (by omega))
          go_wp2_with fail
          refine (modelWhole_any (s := alikeS s) (j := fuelJ (alikeJ j (1 + (c : Int)) (1 + (d : Int))) (j.fuel + q)) (fuel_given (alike_given HG8.out (by omega) (by omega)) (by omega))).mono ?_
          generalize wholeD (fuelJ (alikeJ j (1 + (c : Int)) (1 + (d : Int))) (j.fuel + q)) = R2 at HE ⊢
          rintro e w9 ⟨v3, rfl, hv, hb9⟩
          have HM9 := hid hv.lis
          obtain ⟨xo, xc, rfl, -⟩ := HM9.out.slice
          have HL9 := hid (HL8.out.below hb9).lis
          have HB9 := hid (below_then HB8.out hb9 HB8.out.size)
          clear hv hb9 HL8 HB8 HG8 hk8 HFw l0 l1 l2 l3 l4 l5 l6 l7 l8 hq1 hq2 hf1 hf2 HQ
          by_cases hr : R.2.1 = 0
          · have hR2 : R = R2 := (HE.out hr).symm
            subst hR2
            have hx : (R.2.1 != 0) = false := by simpa using hr
            have hy : (R.2.1 == 0) = true := by simpa using hr
            have HR := hid hr
            clear hr
            go_wp2_with fail
            refine (sameRuns_dec _ _ R.1 R.1 _ HL9.out HM9.out).mono ?_
            rintro e w10 ⟨rfl, hb10⟩
            rw [show decide (R.1 = R.1) = true by simp]
            have HB10 := hid (below_then HB9.out hb10 HB9.out.size)
            clear hb10 HB9 HL9 HM9
            go_wp2_with fail
            refine (awakeM _ (HT.out.on HB10.out)).mono ?_
            rintro e wA ⟨rfl, hbA⟩
            have KA := hid (below_then HB10.out hbA HB10.out.size)
            clear hbA
            go_wp2
            go_ret
            exact ⟨rfl, KA.out⟩
          · have hx : (R.2.1 != 0) = true := by simpa using hr
            clear hr HE
            go_wp2_with fail
            refine (awakeM _ (HT.out.on HB9.out)).mono ?_
            rintro e wA ⟨rfl, hbA⟩
            have KA := hid (below_then HB9.out hbA HB9.out.size)
            clear hbA
            go_wp2
            go_ret
            exact ⟨rfl, KA.out⟩
        · go_simp
          refine (HQ.out _).mono ?_
          rintro e wx ⟨rfl, hwx⟩
          subst hwx
          refine hK.out _ _ trivial (fun hHeld => ?_)
          clear hK K
          try simp only [Act.put, List.setIfInBounds_toArray, List.set_cons_zero, List.set_cons_succ]
          refine wpAnyH_ready (rs := [1]) (by kernel_rfl) (by simp) (nextH 1 rfl (by rfl) (fun K hK => ?_) AllReadyH.nil)
          go_simp
          refine hK.out _ _ trivial (fun hHeld => ?_)
          clear hK K
          refine takeH 8 71 (.int .i64 (j.fuel + q)) rfl rfl (by kernel_rfl) (by kernel_rfl) (by kernel_rfl) (fun _ _ _ h => h) (by rfl) ?_ trivial ?_
          · intro w' hSw
            go_simp
            exact iwrap (by omega) (by omega)
          try simp only [Act.put, List.setIfInBounds_toArray, List.set_cons_zero, List.set_cons_succ]
          refine takeH 9 72 (.pointer (some ⟨w3.heap.size, 7, none⟩)) rfl rfl (by kernel_rfl) (by kernel_rfl) (by kernel_rfl) (fun _ _ _ h => h) (by rfl) ?_ trivial ?_
          · intro w' hSw
            go_simp
          try simp only [Act.put, List.setIfInBounds_toArray, List.set_cons_zero, List.set_cons_succ]
          refine wpAnyH_ready (rs := [10]) (by kernel_rfl) (by simp) (nextH 10 rfl (by rfl) (fun K hK => ?_) AllReadyH.nil)
          go_simp
          refine hK.out _ _ trivial (fun hHeld => ?_)
          clear hK K
          refine wpAnyH_done (by kernel_rfl) ?_ _
          have hk8 : ((w7.setCell ⟨w3.heap.size, 7, none⟩ (.int .i64 (j.fuel + q))).drew).heap[w3.heap.size]? = some (.cells #[.slice s.so j.splits.length s.sc, .int .i64 j.parts, .slice s.mo j.mp.length s.mc, .slice s.co j.cb.length s.cc, .slice s.ro j.rd.length s.rc, .int .i64 (1 + (c : Int)), .int .i64 (1 + (d : Int)), .int .i64 (j.fuel + q), .slice none 0 0] 26 (0, 0)) := heap_setCell_same w7 w3.heap.size 7 _ _ _ HK7.out
          have hs8 : Sav (Just w3.heap.size) w7 ((w7.setCell ⟨w3.heap.size, 7, none⟩ (.int .i64 (j.fuel + q))).drew) := ((Sav.refl (Just w3.heap.size) w7).setCell (just _) 7 _).drew
          have hB8 : Below w.heap.size w ((w7.setCell ⟨w3.heap.size, 7, none⟩ (.int .i64 (j.fuel + q))).drew) := HB7.out.trans (hs8.below (fun k hk => by unfold Just at hk; have := HB3.out.size; omega) (by have := HB7.out.size; omega))
          have HL8 := hid (HL7.out.just HK7.out hs8 (by decide) (by decide))
          have HB8 := hid hB8
          have HG8 := hid (HG0.out.on hB8)
          clear hs8 hB8 HL7 HB7 HG7 HK7 f7 k0 k1 k2 k3 k4 k5 k6 k7 k8 hHeld
          generalize (w7.setCell ⟨w3.heap.size, 7, none⟩ (.int .i64 (j.fuel + q))).drew = w8 at hk8 HL8 HB8 HG8 ⊢
          have l0 : w8.cell? ⟨w3.heap.size, 0, none⟩ = some (.slice s.so j.splits.length s.sc) := cell_of_cells hk8
          have l1 : w8.cell? ⟨w3.heap.size, 1, none⟩ = some (.int .i64 j.parts) := cell_of_cells hk8
          have l2 : w8.cell? ⟨w3.heap.size, 2, none⟩ = some (.slice s.mo j.mp.length s.mc) := cell_of_cells hk8
          have l3 : w8.cell? ⟨w3.heap.size, 3, none⟩ = some (.slice s.co j.cb.length s.cc) := cell_of_cells hk8
          have l4 : w8.cell? ⟨w3.heap.size, 4, none⟩ = some (.slice s.ro j.rd.length s.rc) := cell_of_cells hk8
          have l5 : w8.cell? ⟨w3.heap.size, 5, none⟩ = some (.int .i64 (1 + (c : Int))) := cell_of_cells hk8
          have l6 : w8.cell? ⟨w3.heap.size, 6, none⟩ = some (.int .i64 (1 + (d : Int))) := cell_of_cells hk8
          have l7 : w8.cell? ⟨w3.heap.size, 7, none⟩ = some (.int .i64 (j.fuel + q)) := cell_of_cells hk8
          have l8 : w8.cell? ⟨w3.heap.size, 8, none⟩ = some (.slice none 0 0) := cell_of_cells hk8
          have HE := hid (HFw.out (j.fuel + q) (show j.fuel ≤ j.fuel + q by omega) (by omega))
          go_wp2_with fail
          refine (modelWhole_any (s := alikeS s) (j := fuelJ (alikeJ j (1 + (c : Int)) (1 + (d : Int))) (j.fuel + q)) (fuel_given (alike_given HG8.out (by omega) (by omega)) (by omega))).mono ?_
          generalize wholeD (fuelJ (alikeJ j (1 + (c : Int)) (1 + (d : Int))) (j.fuel + q)) = R2 at HE ⊢
          rintro e w9 ⟨v3, rfl, hv, hb9⟩
          have HM9 := hid hv.lis
          obtain ⟨xo, xc, rfl, -⟩ := HM9.out.slice
          have HL9 := hid (HL8.out.below hb9).lis
          have HB9 := hid (below_then HB8.out hb9 HB8.out.size)
          clear hv hb9 HL8 HB8 HG8 hk8 HFw l0 l1 l2 l3 l4 l5 l6 l7 l8 hq1 hq2 hf1 hf2 HQ
          by_cases hr : R.2.1 = 0
          · have hR2 : R = R2 := (HE.out hr).symm
            subst hR2
            have hx : (R.2.1 != 0) = false := by simpa using hr
            have hy : (R.2.1 == 0) = true := by simpa using hr
            have HR := hid hr
            clear hr
            go_wp2_with fail
            refine (sameRuns_dec _ _ R.1 R.1 _ HL9.out HM9.out).mono ?_
            rintro e w10 ⟨rfl, hb10⟩
            rw [show decide (R.1 = R.1) = true by simp]
            have HB10 := hid (below_then HB9.out hb10 HB9.out.size)
            clear hb10 HB9 HL9 HM9
            go_wp2_with fail
            refine (awakeM _ (HT.out.on HB10.out)).mono ?_
            rintro e wA ⟨rfl, hbA⟩
            have KA := hid (below_then HB10.out hbA HB10.out.size)
            clear hbA
            go_wp2
            go_ret
            exact ⟨rfl, KA.out⟩
          · have hx : (R.2.1 != 0) = true := by simpa using hr
            clear hr HE
            go_wp2_with fail
            refine (awakeM _ (HT.out.on HB9.out)).mono ?_
            rintro e wA ⟨rfl, hbA⟩
            have KA := hid (below_then HB9.out hbA HB9.out.size)
            clear hbA
            go_wp2
            go_ret
            exact ⟨rfl, KA.out⟩
    · have hm2 := false_of_may hm
      rw [hm2]
      clear hm hm2
      go_wp2_with fail
      refine (awakeM _ (HT.out.on HB3.out)).mono ?_
      rintro e wA ⟨rfl, hbA⟩
      have KA := hid (below_then HB3.out hbA HB3.out.size)
      clear hbA
      go_wp2
      go_ret
      exact ⟨rfl, KA.out⟩
theorem modelAlike_walk (w : World) (T : Tabs w) (cs : Array Value) (a) (hs : cs.size = 9) (h : rJob w cs.toList a) (chunk : Int) (wc : (Lit.int .i64 chunk).wf = true) (window : Int) (ww : (Lit.int .i64 window).wf = true) (fuel : Int) (wf : (Lit.int .i64 fuel).wf = true) :
    Calls Tryz.prog 5 #[.agg cs, .int .i64 chunk, .int .i64 window, .int .i64 fuel] w fun e w' => e = .returned (.bool true) ∧ Below w.heap.size w w' := by
  obtain ⟨j, so, mo, co, ro, ko, sc, mc, cc, rc, kc, rfl, hj, fit⟩ := job_arg hs h
  exact modelAlike_main ⟨so, mo, co, ro, ko, sc, mc, cc, rc, kc⟩ j chunk window fuel w T hj fit
end Go.Proofs.YtcahfnjhcngceaaGreatDoor
