/- A combine that tells each value as it is, and none at all, come to the same: the walk of ModelPlain. -/
import Derived.Test.YtcahfnjhcngceaaGreatDoorOJobAt
namespace Go.Proofs.YtcahfnjhcngceaaGreatDoor
open Go.RowKit Go.Lib
set_option linter.unusedVariables false
set_option maxRecDepth 100000

set_option maxHeartbeats 16000000 in
theorem modelPlain_main (s : SlJ) (j : JobV) (p : Int) (w : World) (T : Tabs w) (hj : JobIs w s.so s.mo s.co s.ro s.ko s.sc s.mc s.cc s.rc s.kc j) (fit : JobFit j) :
    Calls Tryz.prog 4 #[jobV s j, .int .i64 p] w fun e w' => e = .returned (.bool true) ∧ Below w.heap.size w w' := by
  have b1 := alloc_oneC w (.cells #[.slice s.so j.splits.length s.sc, .int .i64 j.parts, .slice s.mo j.mp.length s.mc, .slice s.co j.cb.length s.cc, .slice s.ro j.rd.length s.rc, .int .i64 j.chunk, .int .i64 j.window, .int .i64 j.fuel, .slice s.ko j.marks.length s.kc] 26)
  have n1 := new_block w (.cells #[.slice s.so j.splits.length s.sc, .int .i64 j.parts, .slice s.mo j.mp.length s.mc, .slice s.co j.cb.length s.cc, .slice s.ro j.rd.length s.rc, .int .i64 j.chunk, .int .i64 j.window, .int .i64 j.fuel, .slice s.ko j.marks.length s.kc] 26)
  have HJ1 := hid (hj.below b1)
  have HJ0 := hid hj
  have HB1 := hid b1
  have HN1 := hid n1
  have HT := hid T
  have HFit := hid fit
  have hnot : ∀ (x : Bool) (w : World), (Op.unary .not (.bool x)).run Tryz.prog w = .ok (.bool (!x)) w := fun _ _ => rfl
  clear b1 n1 hj T fit
  go_enter Tryz.func4, Tryz.ntmps4
  go_wp2_with fail
  refine (greatJob_any j s.so s.mo s.co s.ro s.ko s.sc s.mc s.cc s.rc s.kc _ HJ1.out).mono ?_
  rintro e w2 ⟨⟨g, rfl⟩, hb2⟩
  have HB2 := hid (below_then HB1.out hb2 HB1.out.size)
  have HJ2 := hid (HJ1.out.below hb2)
  have HN2 := hid (heap_on HN1.out hb2)
  clear hb2 HB1 HJ1 HN1
  cases g with
  | true =>
    go_wp2_with fail
    refine (awakeM _ (HT.out.on HB2.out)).mono ?_
    rintro e wA ⟨rfl, hbA⟩
    have KA := hid (below_then HB2.out hbA HB2.out.size)
    clear hbA
    go_wp2
    go_ret
    exact ⟨rfl, KA.out⟩
  | false =>
    have c0 : w2.cell? ⟨w.heap.size, 0, none⟩ = some (.slice s.so j.splits.length s.sc) := cell_of_cells HN2.out
    have c1 : w2.cell? ⟨w.heap.size, 1, none⟩ = some (.int .i64 j.parts) := cell_of_cells HN2.out
    have c2 : w2.cell? ⟨w.heap.size, 2, none⟩ = some (.slice s.mo j.mp.length s.mc) := cell_of_cells HN2.out
    have c3 : w2.cell? ⟨w.heap.size, 3, none⟩ = some (.slice s.co j.cb.length s.cc) := cell_of_cells HN2.out
    have c4 : w2.cell? ⟨w.heap.size, 4, none⟩ = some (.slice s.ro j.rd.length s.rc) := cell_of_cells HN2.out
    have c5 : w2.cell? ⟨w.heap.size, 5, none⟩ = some (.int .i64 j.chunk) := cell_of_cells HN2.out
    have c6 : w2.cell? ⟨w.heap.size, 6, none⟩ = some (.int .i64 j.window) := cell_of_cells HN2.out
    have c7 : w2.cell? ⟨w.heap.size, 7, none⟩ = some (.int .i64 j.fuel) := cell_of_cells HN2.out
    have c8 : w2.cell? ⟨w.heap.size, 8, none⟩ = some (.slice s.ko j.marks.length s.kc) := cell_of_cells HN2.out
    go_wp2_with fail
    refine (jobMay_any j s.so s.mo s.co s.ro s.ko s.sc s.mc s.cc s.rc s.kc _ HJ2.out).mono ?_
    rintro e w3 ⟨rfl, hb3⟩
    have HB3 := hid (below_then HB2.out hb3 HB2.out.size)
    have HJ3 := hid (HJ2.out.below hb3)
    have HN3 := hid (heap_on HN2.out hb3)
    clear c0 c1 c2 c3 c4 c5 c6 c7 c8
    clear hb3 HB2 HJ2 HN2
    by_cases hm : mayJ j = true
    · rw [hm]
      have HG3 := hid (show Given w3 s j from ⟨HJ3.out, HFit.out, hm, HT.out.on HB3.out⟩)
      have HG0 := hid (show Given w s j from ⟨HJ0.out, HFit.out, hm, HT.out⟩)
      have HM := hid (mayIs hm)
      have HFit0 := hid HFit.out
      clear hm HJ3 HFit
      have c0 : w3.cell? ⟨w.heap.size, 0, none⟩ = some (.slice s.so j.splits.length s.sc) := cell_of_cells HN3.out
      have c1 : w3.cell? ⟨w.heap.size, 1, none⟩ = some (.int .i64 j.parts) := cell_of_cells HN3.out
      have c2 : w3.cell? ⟨w.heap.size, 2, none⟩ = some (.slice s.mo j.mp.length s.mc) := cell_of_cells HN3.out
      have c3 : w3.cell? ⟨w.heap.size, 3, none⟩ = some (.slice s.co j.cb.length s.cc) := cell_of_cells HN3.out
      have c4 : w3.cell? ⟨w.heap.size, 4, none⟩ = some (.slice s.ro j.rd.length s.rc) := cell_of_cells HN3.out
      have c5 : w3.cell? ⟨w.heap.size, 5, none⟩ = some (.int .i64 j.chunk) := cell_of_cells HN3.out
      have c6 : w3.cell? ⟨w.heap.size, 6, none⟩ = some (.int .i64 j.window) := cell_of_cells HN3.out
      have c7 : w3.cell? ⟨w.heap.size, 7, none⟩ = some (.int .i64 j.fuel) := cell_of_cells HN3.out
      have c8 : w3.cell? ⟨w.heap.size, 8, none⟩ = some (.slice s.ko j.marks.length s.kc) := cell_of_cells HN3.out
      have f7 : w3.frozen? ⟨w.heap.size, 7, none⟩ = false := free_of_cells HN3.out
      have hn4 : (w3.setCell ⟨w.heap.size, 7, none⟩ (.int .i64 2000)).heap[w.heap.size]? = some (.cells #[.slice s.so j.splits.length s.sc, .int .i64 j.parts, .slice s.mo j.mp.length s.mc, .slice s.co j.cb.length s.cc, .slice s.ro j.rd.length s.rc, .int .i64 j.chunk, .int .i64 j.window, .int .i64 2000, .slice s.ko j.marks.length s.kc] 26 (0, 0)) := heap_setCell_same w3 w.heap.size 7 _ _ _ HN3.out
      have hs4 : Sav (Just w.heap.size) w3 (w3.setCell ⟨w.heap.size, 7, none⟩ (.int .i64 2000)) := (Sav.refl (Just w.heap.size) w3).setCell (just _) 7 _
      have HB4 := hid (HB3.out.trans (hs4.below (fun k hk => by unfold Just at hk; omega) HB3.out.size))
      have HN4 := hid hn4
      clear hs4 hn4
      go_wp2_with fail
      generalize w3.setCell ⟨w.heap.size, 7, none⟩ (.int .i64 2000) = w4 at HB4 HN4 ⊢
      clear c0 c1 c2 c3 c4 c5 c6 c7 c8
      have d0 : w4.cell? ⟨w.heap.size, 0, none⟩ = some (.slice s.so j.splits.length s.sc) := cell_of_cells HN4.out
      have d1 : w4.cell? ⟨w.heap.size, 1, none⟩ = some (.int .i64 j.parts) := cell_of_cells HN4.out
      have d2 : w4.cell? ⟨w.heap.size, 2, none⟩ = some (.slice s.mo j.mp.length s.mc) := cell_of_cells HN4.out
      have d3 : w4.cell? ⟨w.heap.size, 3, none⟩ = some (.slice s.co j.cb.length s.cc) := cell_of_cells HN4.out
      have d4 : w4.cell? ⟨w.heap.size, 4, none⟩ = some (.slice s.ro j.rd.length s.rc) := cell_of_cells HN4.out
      have d5 : w4.cell? ⟨w.heap.size, 5, none⟩ = some (.int .i64 j.chunk) := cell_of_cells HN4.out
      have d6 : w4.cell? ⟨w.heap.size, 6, none⟩ = some (.int .i64 j.window) := cell_of_cells HN4.out
      have d7 : w4.cell? ⟨w.heap.size, 7, none⟩ = some (.int .i64 2000) := cell_of_cells HN4.out
      have d8 : w4.cell? ⟨w.heap.size, 8, none⟩ = some (.slice s.ko j.marks.length s.kc) := cell_of_cells HN4.out
      have hA1 : w4.heap.size ≠ w.heap.size := by have := lt_of_block HN4.out; omega
      have hA2 : w4.heap.size + 1 ≠ w.heap.size := by have := lt_of_block HN4.out; omega
      obtain ⟨hPa, hPb⟩ := copies_new HB4.out HN4.out
      have HPa := hid hPa
      have HPb := hid hPb
      clear hPa hPb
      go_region_held3 (fun w' => w'.cell? ⟨w.heap.size, 0, none⟩ = some (.slice s.so j.splits.length s.sc) ∧ w'.cell? ⟨w.heap.size, 1, none⟩ = some (.int .i64 j.parts) ∧ w'.cell? ⟨w.heap.size, 2, none⟩ = some (.slice s.mo j.mp.length s.mc) ∧ w'.cell? ⟨w.heap.size, 3, none⟩ = some (.slice s.co j.cb.length s.cc) ∧ w'.cell? ⟨w.heap.size, 4, none⟩ = some (.slice s.ro j.rd.length s.rc) ∧ w'.cell? ⟨w.heap.size, 5, none⟩ = some (.int .i64 j.chunk) ∧ w'.cell? ⟨w.heap.size, 6, none⟩ = some (.int .i64 j.window) ∧ w'.cell? ⟨w.heap.size, 7, none⟩ = some (.int .i64 2000) ∧ w'.cell? ⟨w.heap.size, 8, none⟩ = some (.slice s.ko j.marks.length s.kc)) (go_keep) (fail)
      have HPQ := HPa
      clear HPa HPb hA1 hA2 d0 d1 d2 d3 d4 d5 d6 d7 d8
      generalize ((w4.alloc (.cells #[.slice s.so j.splits.length s.sc, .int .i64 j.parts, .slice s.mo j.mp.length s.mc, .slice s.co j.cb.length s.cc, .slice s.ro j.rd.length s.rc, .int .i64 j.chunk, .int .i64 j.window, .int .i64 2000, .slice s.ko j.marks.length s.kc] 26)).alloc (.cells #[.slice s.so j.splits.length s.sc, .int .i64 j.parts, .slice s.mo j.mp.length s.mc, .slice s.co j.cb.length s.cc, .slice s.ro j.rd.length s.rc, .int .i64 j.chunk, .int .i64 j.window, .int .i64 2000, .slice s.ko j.marks.length s.kc] 26)).drew = w6 at HPQ ⊢
      generalize w4.heap.size + 1 = Q at HPQ ⊢
      generalize w4.heap.size = P at HPQ ⊢
      rotate_left
      have HPQ := HPb
      clear HPa HPb hA1 hA2 d0 d1 d2 d3 d4 d5 d6 d7 d8
      generalize ((w4.alloc (.cells #[.slice s.so j.splits.length s.sc, .int .i64 j.parts, .slice s.mo j.mp.length s.mc, .slice s.co j.cb.length s.cc, .slice s.ro j.rd.length s.rc, .int .i64 j.chunk, .int .i64 j.window, .int .i64 2000, .slice s.ko j.marks.length s.kc] 26)).alloc (.cells #[.slice s.so j.splits.length s.sc, .int .i64 j.parts, .slice s.mo j.mp.length s.mc, .slice s.co j.cb.length s.cc, .slice s.ro j.rd.length s.rc, .int .i64 j.chunk, .int .i64 j.window, .int .i64 2000, .slice s.ko j.marks.length s.kc] 26)).drew = w6 at HPQ ⊢
      generalize w4.heap.size + 1 = P at HPQ ⊢
      generalize w4.heap.size = Q at HPQ ⊢
      rotate_left
      all_goals
        have p3 : w6.cell? ⟨P, 3, none⟩ = some (.slice s.co j.cb.length s.cc) := cell_of_cells HPQ.out.p
        have pz : w6.frozen? ⟨P, 3, none⟩ = false := free_of_cells HPQ.out.p
        have q3 : w6.cell? ⟨Q, 3, none⟩ = some (.slice s.co j.cb.length s.cc) := cell_of_cells HPQ.out.q
        have qz : w6.frozen? ⟨Q, 3, none⟩ = false := free_of_cells HPQ.out.q
        have hpq := HPQ.out.pq
        have hqp := hpq.symm
        have s5 : Sav (Just P) w6 (w6.setCell ⟨P, 3, none⟩ (.slice none 0 0)) := (Sav.refl (Just P) w6).setCell (just _) 3 _
        have a5 := s5.at HPQ.out.a HPQ.out.ap
        have k5 : (w6.setCell ⟨P, 3, none⟩ (.slice none 0 0)).heap[P]? = some (.cells #[.slice s.so j.splits.length s.sc, .int .i64 j.parts, .slice s.mo j.mp.length s.mc, .slice none 0 0, .slice s.ro j.rd.length s.rc, .int .i64 j.chunk, .int .i64 j.window, .int .i64 2000, .slice s.ko j.marks.length s.kc] 26 (0, 0)) := heap_setCell_same w6 P 3 _ _ _ HPQ.out.p
        have l5 := s5.at HPQ.out.q hqp
        have b6 := alloc_oneC (w6.setCell ⟨P, 3, none⟩ (.slice none 0 0)) (.cells #[.int .i64 7, .int .i64 0, .string { data := #[] }, .int .i64 20, .int .i64 3, .string { data := #[] }, .int .i64 0, .int .i64 0, .string { data := #[] }, .int .i64 22, .int .i64 0, .string { data := #[] }, .int .i64 6, .int .i64 0, .string { data := #[] }, .int .i64 21, .int .i64 0, .string { data := #[] }, .int .i64 23, .int .i64 0, .string { data := #[] }, .int .i64 19, .int .i64 0, .string { data := #[] }] 41)
        have a6 := heap_on a5 b6
        have k6 := heap_on k5 b6
        have l6 := heap_on l5 b6
        have hz5 : (w6.setCell ⟨P, 3, none⟩ (.slice none 0 0)).heap.size = w6.heap.size := by simp [World.setCell]
        have q36 : ((w6.setCell ⟨P, 3, none⟩ (.slice none 0 0)).alloc (.cells #[.int .i64 7, .int .i64 0, .string { data := #[] }, .int .i64 20, .int .i64 3, .string { data := #[] }, .int .i64 0, .int .i64 0, .string { data := #[] }, .int .i64 22, .int .i64 0, .string { data := #[] }, .int .i64 6, .int .i64 0, .string { data := #[] }, .int .i64 21, .int .i64 0, .string { data := #[] }, .int .i64 23, .int .i64 0, .string { data := #[] }, .int .i64 19, .int .i64 0, .string { data := #[] }] 41)).cell? ⟨Q, 3, none⟩ = some (.slice s.co j.cb.length s.cc) := cell_of_cells l6
        have qz6 : ((w6.setCell ⟨P, 3, none⟩ (.slice none 0 0)).alloc (.cells #[.int .i64 7, .int .i64 0, .string { data := #[] }, .int .i64 20, .int .i64 3, .string { data := #[] }, .int .i64 0, .int .i64 0, .string { data := #[] }, .int .i64 22, .int .i64 0, .string { data := #[] }, .int .i64 6, .int .i64 0, .string { data := #[] }, .int .i64 21, .int .i64 0, .string { data := #[] }, .int .i64 23, .int .i64 0, .string { data := #[] }, .int .i64 19, .int .i64 0, .string { data := #[] }] 41)).frozen? ⟨Q, 3, none⟩ = false := free_of_cells l6
        have s7 : Sav (Just Q) (w6.setCell ⟨P, 3, none⟩ (.slice none 0 0)) ((w6.setCell ⟨P, 3, none⟩ (.slice none 0 0)).setCell ⟨Q, 3, none⟩ (.slice (some ⟨w6.heap.size, 0, none⟩) 8 8)) := (Sav.refl (Just Q) (w6.setCell ⟨P, 3, none⟩ (.slice none 0 0))).setCell (just _) 3 _
        have l7 : ((w6.setCell ⟨P, 3, none⟩ (.slice none 0 0)).setCell ⟨Q, 3, none⟩ (.slice (some ⟨w6.heap.size, 0, none⟩) 8 8)).heap[Q]? = some (.cells #[.slice s.so j.splits.length s.sc, .int .i64 j.parts, .slice s.mo j.mp.length s.mc, .slice (some ⟨w6.heap.size, 0, none⟩) 8 8, .slice s.ro j.rd.length s.rc, .int .i64 j.chunk, .int .i64 j.window, .int .i64 2000, .slice s.ko j.marks.length s.kc] 26 (0, 0)) := heap_setCell_same (w6.setCell ⟨P, 3, none⟩ (.slice none 0 0)) Q 3 _ _ _ l5
        have hz8 : ((w6.setCell ⟨P, 3, none⟩ (.slice none 0 0)).setCell ⟨Q, 3, none⟩ (.slice (some ⟨w6.heap.size, 0, none⟩) 8 8)).heap.size = w6.heap.size := by simp [World.setCell]
        have b9 := alloc_oneC ((w6.setCell ⟨P, 3, none⟩ (.slice none 0 0)).setCell ⟨Q, 3, none⟩ (.slice (some ⟨w6.heap.size, 0, none⟩) 8 8)) (.cells #[.int .i64 7, .int .i64 0, .string { data := #[] }, .int .i64 20, .int .i64 3, .string { data := #[] }, .int .i64 0, .int .i64 0, .string { data := #[] }, .int .i64 22, .int .i64 0, .string { data := #[] }, .int .i64 6, .int .i64 0, .string { data := #[] }, .int .i64 21, .int .i64 0, .string { data := #[] }, .int .i64 23, .int .i64 0, .string { data := #[] }, .int .i64 19, .int .i64 0, .string { data := #[] }] 41)
        have a7 := heap_on (s7.at a5 HPQ.out.aq) b9
        have k7 := heap_on (s7.at k5 hpq) b9
        have l7 := heap_on l7 b9
        have hq6 : Q < w6.heap.size := lt_of_block HPQ.out.q
        have hBel5 : Below w.heap.size w (w6.setCell ⟨P, 3, none⟩ (.slice none 0 0)) := HPQ.out.below.trans (s5.below (fun k hk => by unfold Just at hk; have := HPQ.out.old.1; omega) HPQ.out.below.size)
        have hBel6 := hBel5.trans (s7.below (fun k hk => by unfold Just at hk; have := HPQ.out.old.2; omega) hBel5.size)
        have hBel7 := below_then hBel6 b9 hBel6.size
        have co7 : Co (((w6.setCell ⟨P, 3, none⟩ (.slice none 0 0)).setCell ⟨Q, 3, none⟩ (.slice (some ⟨w6.heap.size, 0, none⟩) 8 8)).alloc (.cells #[.int .i64 7, .int .i64 0, .string { data := #[] }, .int .i64 20, .int .i64 3, .string { data := #[] }, .int .i64 0, .int .i64 0, .string { data := #[] }, .int .i64 22, .int .i64 0, .string { data := #[] }, .int .i64 6, .int .i64 0, .string { data := #[] }, .int .i64 21, .int .i64 0, .string { data := #[] }, .int .i64 23, .int .i64 0, .string { data := #[] }, .int .i64 19, .int .i64 0, .string { data := #[] }] 41)) (.slice (some ⟨w6.heap.size, 0, none⟩) tellP.length tellP.length) tellP := by
          have h := Co.made tellP ((w6.setCell ⟨P, 3, none⟩ (.slice none 0 0)).setCell ⟨Q, 3, none⟩ (.slice (some ⟨w6.heap.size, 0, none⟩) 8 8)) (by simp [tellP])
          rw [hz8] at h
          exact h
        have hsp := HM.out.sp
        have HA7 := hid a7
        have HK7 := hid k7
        have HL7 := hid l7
        have HB7 := hid hBel7
        have HGF := fuel_given (f := 2000) (HG0.out.on hBel7) (by omega)
        have HGa := hid (comb_given HGF (co := none) (cc := 0) bad_nil (by simp) (co_nil _))
        have HGb := hid (comb_given HGF tell_may tellP_nums co7)
        clear s5 a5 k5 l5 b6 a6 k6 l6 s7 a7 k7 l7 hBel5 hBel6 hBel7 co7 HGF
        go_wp2_with fail
        generalize hV : (((w6.setCell ⟨P, 3, none⟩ (.slice none 0 0)).setCell ⟨Q, 3, none⟩ (.slice (some ⟨w6.heap.size, 0, none⟩) 8 8)).alloc (.cells #[.int .i64 7, .int .i64 0, .string { data := #[] }, .int .i64 20, .int .i64 3, .string { data := #[] }, .int .i64 0, .int .i64 0, .string { data := #[] }, .int .i64 22, .int .i64 0, .string { data := #[] }, .int .i64 6, .int .i64 0, .string { data := #[] }, .int .i64 21, .int .i64 0, .string { data := #[] }, .int .i64 23, .int .i64 0, .string { data := #[] }, .int .i64 19, .int .i64 0, .string { data := #[] }] 41)) = w7 at HA7 HK7 HL7 HB7 HGa HGb ⊢
        clear hV p3 pz q3 qz q36 qz6 hz5 hz8 hq6 HPQ b9
        generalize w6.heap.size = D at HL7 HGb ⊢
        go_loopw [4, 7] (fun r i wr => r = .bool false ∧ ∃ k : Nat, k ≤ j.splits.length ∧ i = .int .i64 k ∧ Below w7.heap.size w7 wr) (fun _ i _ => j.splits.length - (intOf i).toNat)
        case atStart => exact ⟨rfl, 0, by omega, rfl, Below.refl _ _⟩
        case round =>
          obtain ⟨rfl, k, hk, rfl, hbe⟩ := hrel
          have HBe := hid hbe
          have HBw := hid (below_then HB7.out hbe HB7.out.size)
          have HAr := hid (heap_on HA7.out hbe)
          have HKr := hid (heap_on HK7.out hbe)
          have HLr := hid (heap_on HL7.out hbe)
          have HGar := hid (HGa.out.on hbe)
          have HGbr := hid (HGb.out.on hbe)
          clear hbe
          have a0 : wr.cell? ⟨w.heap.size, 0, none⟩ = some (.slice s.so j.splits.length s.sc) := cell_of_cells HAr.out
          by_cases hlt : k < j.splits.length
          · have d1 : decide ((k : Int) < (j.splits.length : Int)) = true := by simp; omega
            have e0 : wr.cell? ⟨P, 0, none⟩ = some (.slice s.so j.splits.length s.sc) := cell_of_cells HKr.out
            have e1 : wr.cell? ⟨P, 1, none⟩ = some (.int .i64 j.parts) := cell_of_cells HKr.out
            have e2 : wr.cell? ⟨P, 2, none⟩ = some (.slice s.mo j.mp.length s.mc) := cell_of_cells HKr.out
            have e3 : wr.cell? ⟨P, 3, none⟩ = some (.slice none 0 0) := cell_of_cells HKr.out
            have e4 : wr.cell? ⟨P, 4, none⟩ = some (.slice s.ro j.rd.length s.rc) := cell_of_cells HKr.out
            have e5 : wr.cell? ⟨P, 5, none⟩ = some (.int .i64 j.chunk) := cell_of_cells HKr.out
            have e6 : wr.cell? ⟨P, 6, none⟩ = some (.int .i64 j.window) := cell_of_cells HKr.out
            have e7 : wr.cell? ⟨P, 7, none⟩ = some (.int .i64 2000) := cell_of_cells HKr.out
            have e8 : wr.cell? ⟨P, 8, none⟩ = some (.slice s.ko j.marks.length s.kc) := cell_of_cells HKr.out
            go_wp2_with fail
            refine (modelSplit_any (s := combS s none 0) (j := combJ (fuelJ j 2000) []) HGar.out hlt).mono ?_
            have HPS := hid (plain_split HFit0.out ((combJ (fuelJ j 2000) []).splits[k]))
            generalize hR : splitL (combJ (fuelJ j 2000) []).mp (combJ (fuelJ j 2000) []).cb (combJ (fuelJ j 2000) []).fuel ((combJ (fuelJ j 2000) []).splits[k]) = R at HPS ⊢
            rintro e y1 ⟨x1, rfl, ho1, hb1⟩
            obtain ⟨xo, xc, rfl⟩ := own_slice ho1
            have HP1 := hid (show Prs y1 (.slice xo R.1.length xc) R.1 from Reads.own encP_len (by decide) ho1)
            have HB1 := hid (below_then HBe.out hb1 HBe.out.size)
            have HL1 := hid (heap_on HLr.out hb1)
            have HGb1 := hid (HGbr.out.on hb1)
            clear ho1 hb1 hR e0 e1 e2 e3 e4 e5 e6 e7 e8
            have e0 : y1.cell? ⟨Q, 0, none⟩ = some (.slice s.so j.splits.length s.sc) := cell_of_cells HL1.out
            have e1 : y1.cell? ⟨Q, 1, none⟩ = some (.int .i64 j.parts) := cell_of_cells HL1.out
            have e2 : y1.cell? ⟨Q, 2, none⟩ = some (.slice s.mo j.mp.length s.mc) := cell_of_cells HL1.out
            have e3 : y1.cell? ⟨Q, 3, none⟩ = some (.slice (some ⟨D, 0, none⟩) 8 8) := cell_of_cells HL1.out
            have e4 : y1.cell? ⟨Q, 4, none⟩ = some (.slice s.ro j.rd.length s.rc) := cell_of_cells HL1.out
            have e5 : y1.cell? ⟨Q, 5, none⟩ = some (.int .i64 j.chunk) := cell_of_cells HL1.out
            have e6 : y1.cell? ⟨Q, 6, none⟩ = some (.int .i64 j.window) := cell_of_cells HL1.out
            have e7 : y1.cell? ⟨Q, 7, none⟩ = some (.int .i64 2000) := cell_of_cells HL1.out
            have e8 : y1.cell? ⟨Q, 8, none⟩ = some (.slice s.ko j.marks.length s.kc) := cell_of_cells HL1.out
            go_wp2_with fail
            refine (modelSplit_any (s := combS s (some ⟨D, 0, none⟩) 8) (j := combJ (fuelJ j 2000) tellP) HGb1.out hlt).mono ?_
            rw [show splitL (combJ (fuelJ j 2000) tellP).mp (combJ (fuelJ j 2000) tellP).cb (combJ (fuelJ j 2000) tellP).fuel ((combJ (fuelJ j 2000) tellP).splits[k]'hlt) = R from HPS.out]
            rintro e y2 ⟨x2, rfl, ho2, hb2⟩
            obtain ⟨zo, zc, rfl⟩ := own_slice ho2
            have HP2 := hid (show Prs y2 (.slice zo R.1.length zc) R.1 from Reads.own encP_len (by decide) ho2)
            have HP1b := hid (HP1.out.below hb2)
            have HB2 := hid (below_then HB1.out hb2 HB1.out.size)
            clear ho2 hb2 e0 e1 e2 e3 e4 e5 e6 e7 e8 HP1 HB1
            have hx : (R.2 != R.2) = false := by simp
            go_wp2_with fail
            refine (samePairs_dec _ _ R.1 R.1 _ HP1b.out HP2.out).mono ?_
            rintro e y3 ⟨rfl, t, hy3⟩
            rw [show decide (R.1 = R.1) = true by simp]
            have HB3' := hid (show Below w7.heap.size w7 y3 by rw [hy3]; exact ⟨HB2.out.os, HB2.out.tape, HB2.out.output, HB2.out.size, HB2.out.block⟩)
            clear hy3 HP1b HP2 HB2
            go_wp2
            go_roundw
            case rel => exact ⟨rfl, k + 1, by omega, by go_num, HB3'.out⟩
            case measure => simp [intOf]; omega
          · obtain rfl : k = j.splits.length := by omega
            have d1 : decide ((j.splits.length : Int) < (j.splits.length : Int)) = false := by simp
            have HPW := hid (plain_whole HFit0.out)
            have e0 : wr.cell? ⟨P, 0, none⟩ = some (.slice s.so j.splits.length s.sc) := cell_of_cells HKr.out
            have e1 : wr.cell? ⟨P, 1, none⟩ = some (.int .i64 j.parts) := cell_of_cells HKr.out
            have e2 : wr.cell? ⟨P, 2, none⟩ = some (.slice s.mo j.mp.length s.mc) := cell_of_cells HKr.out
            have e3 : wr.cell? ⟨P, 3, none⟩ = some (.slice none 0 0) := cell_of_cells HKr.out
            have e4 : wr.cell? ⟨P, 4, none⟩ = some (.slice s.ro j.rd.length s.rc) := cell_of_cells HKr.out
            have e5 : wr.cell? ⟨P, 5, none⟩ = some (.int .i64 j.chunk) := cell_of_cells HKr.out
            have e6 : wr.cell? ⟨P, 6, none⟩ = some (.int .i64 j.window) := cell_of_cells HKr.out
            have e7 : wr.cell? ⟨P, 7, none⟩ = some (.int .i64 2000) := cell_of_cells HKr.out
            have e8 : wr.cell? ⟨P, 8, none⟩ = some (.slice s.ko j.marks.length s.kc) := cell_of_cells HKr.out
            go_wp2_with fail
            refine (modelWhole_any (s := combS s none 0) (j := combJ (fuelJ j 2000) []) HGar.out).mono ?_
            generalize hR : wholeD (combJ (fuelJ j 2000) []) = R at HPW ⊢
            rintro e y1 ⟨x1, rfl, hv1, hb1⟩
            obtain ⟨xo, xc, rfl, -⟩ := hv1.lis.slice
            have HP1 := hid hv1.lis
            have HB1 := hid (below_then HBw.out hb1 HBw.out.size)
            have HL1 := hid (heap_on HLr.out hb1)
            have HGb1 := hid (HGbr.out.on hb1)
            clear hv1 hb1 hR e0 e1 e2 e3 e4 e5 e6 e7 e8
            have e0 : y1.cell? ⟨Q, 0, none⟩ = some (.slice s.so j.splits.length s.sc) := cell_of_cells HL1.out
            have e1 : y1.cell? ⟨Q, 1, none⟩ = some (.int .i64 j.parts) := cell_of_cells HL1.out
            have e2 : y1.cell? ⟨Q, 2, none⟩ = some (.slice s.mo j.mp.length s.mc) := cell_of_cells HL1.out
            have e3 : y1.cell? ⟨Q, 3, none⟩ = some (.slice (some ⟨D, 0, none⟩) 8 8) := cell_of_cells HL1.out
            have e4 : y1.cell? ⟨Q, 4, none⟩ = some (.slice s.ro j.rd.length s.rc) := cell_of_cells HL1.out
            have e5 : y1.cell? ⟨Q, 5, none⟩ = some (.int .i64 j.chunk) := cell_of_cells HL1.out
            have e6 : y1.cell? ⟨Q, 6, none⟩ = some (.int .i64 j.window) := cell_of_cells HL1.out
            have e7 : y1.cell? ⟨Q, 7, none⟩ = some (.int .i64 2000) := cell_of_cells HL1.out
            have e8 : y1.cell? ⟨Q, 8, none⟩ = some (.slice s.ko j.marks.length s.kc) := cell_of_cells HL1.out
            go_wp2_with fail
            refine (modelWhole_any (s := combS s (some ⟨D, 0, none⟩) 8) (j := combJ (fuelJ j 2000) tellP) HGb1.out).mono ?_
            rw [HPW.out]
            rintro e y2 ⟨x2, rfl, hv2, hb2⟩
            obtain ⟨zo, zc, rfl, -⟩ := hv2.lis.slice
            have HP2 := hid hv2.lis
            have HP1b := hid (HP1.out.below hb2)
            have HB2 := hid (below_then HB1.out hb2 HB1.out.size)
            clear hv2 hb2 e0 e1 e2 e3 e4 e5 e6 e7 e8 HP1 HB1
            have hx : (R.2.1 == R.2.1) = true := by simp
            have hy : ((R.2.2 : Int) == (R.2.2 : Int)) = true := by simp
            go_wp2_with fail
            refine (sameRuns_dec _ _ R.1 R.1 _ HP1b.out HP2.out).mono ?_
            rintro e y3 ⟨rfl, hb3⟩
            rw [show decide (R.1 = R.1) = true by simp]
            have HB3' := hid (below_then HB2.out hb3 HB2.out.size)
            clear hb3 HP1b HP2 HB2
            go_wp2_with fail
            refine (awakeM _ (HT.out.on HB3'.out)).mono ?_
            rintro e wA ⟨rfl, hbA⟩
            have KA := hid (below_then HB3'.out hbA HB3'.out.size)
            clear hbA
            go_wp2
            go_ret
            exact ⟨rfl, KA.out⟩
    · have hm2 := false_of_may hm
      rw [hm2]
      clear hm hm2
      go_wp2_with fail
      refine (awakeM _ (HT.out.on HB3.out)).mono ?_
      rintro e wA ⟨rfl, hbA⟩
      have KA := hid (below_then HB3.out hbA HB3.out.size)
      clear hbA
      go_wp2
      go_ret
      exact ⟨rfl, KA.out⟩
theorem modelPlain_walk (w : World) (T : Tabs w) (cs : Array Value) (a) (hs : cs.size = 9) (h : rJob w cs.toList a) (p : Int) (wp : (Lit.int .i64 p).wf = true) :
    Calls Tryz.prog 4 #[.agg cs, .int .i64 p] w fun e w' => e = .returned (.bool true) ∧ Below w.heap.size w w' := by
  obtain ⟨j, so, mo, co, ro, ko, sc, mc, cc, rc, kc, rfl, hj, fit⟩ := job_arg hs h
  exact modelPlain_main ⟨so, mo, co, ro, ko, sc, mc, cc, rc, kc⟩ j p w T hj fit
end Go.Proofs.YtcahfnjhcngceaaGreatDoor
