/- Laid together: OOuts OCalls OWhole OSame OAwake. -/
import Derived.Test.YtcahfnjhcngceaaGreatDoorGOb
import Derived.Test.YtcahfnjhcngceaaGreatDoorLis
import Derived.Test.YtcahfnjhcngceaaGreatDoorGOa
/-! outputsOf: the object with all its cells, fresh. -/
namespace Go.Proofs.YtcahfnjhcngceaaGreatDoor
open Go.RowKit Go.Lib
set_option linter.unusedVariables false
set_option maxRecDepth 100000

theorem Given.on {w w' : World} {s : SlJ} {j : JobV} (G : Given w s j) (hb : Below w.heap.size w w') : Given w' s j := ⟨G.job.below hb, G.fit, G.may, G.tabs.on hb⟩
theorem sav_off {w w' : World} {O x : Nat} {cs ds : Array Value} {t : TypeId} (hs : Sav (Just O) w w') (ho : w.heap[O]? = some (.cells cs 59 (0, 0))) (h : w.heap[x]? = some (.cells ds t (0, 0))) (ht : t ≠ 59) : w'.heap[x]? = some (.cells ds t (0, 0)) := by
  refine hs.at h fun e => ?_
  unfold Just at e
  subst e
  rw [ho] at h
  cases h
  exact ht rfl
theorem FreshAt.off {fv : Value} {k b O : Nat} {w w' : World} {cs : Array Value} (h : FreshAt fv k b w) (hs : Sav (Just O) w w') (ho : w.heap[O]? = some (.cells cs 59 (0, 0))) : FreshAt fv k b w' := by
  obtain ⟨ib, fb, h1, h2, h3⟩ := h
  exact ⟨ib, fb, sav_off hs ho h1 (by decide), sav_off hs ho h2 (by decide), sav_off hs ho h3 (by decide)⟩
theorem owns_offO {w w' : World} {O : Nat} {cs : Array Value} {C e s n : Nat} {v : Value} {xs : List Value} (h : w.ownsRow C e s v n xs) (hs : Sav (Just O) w w') (ho : w.heap[O]? = some (.cells cs 59 (0, 0))) (he : e ≠ 59) : w'.ownsRow C e s v n xs := by
  refine ⟨h.1, ?_⟩
  rcases h.2 with h0 | ⟨g, cap, cur, hv, hb, hh, r⟩
  · exact .inl h0
  · exact .inr ⟨g, cap, cur, hv, hb, sav_off hs ho hh he, r⟩
abbrev jobV (s : SlJ) (j : JobV) : Value := .agg #[.slice s.so j.splits.length s.sc, .int .i64 j.parts, .slice s.mo j.mp.length s.mc, .slice s.co j.cb.length s.cc, .slice s.ro j.rd.length s.rc, .int .i64 j.chunk, .int .i64 j.window, .int .i64 j.fuel, .slice s.ko j.marks.length s.kc]
theorem partsD_len (j : JobV) : (partsD j).length = j.parts.toNat := by unfold partsD; rw [List.length_map, List.length_range]
theorem splitsD_len (j : JobV) : (splitsD j).length = j.splits.length := by unfold splitsD; rw [List.length_map]
/-- All is fresh. -/
theorem alls_new {w w3 w4 w5 w6 w7 : World} {s : SlJ} {j : JobV} {O : Nat} {u u2 : Value} {bs ps : List Nat} (h3 : Below w.heap.size w w3) (hO : w.heap.size ≤ O) (ho3 : w3.heap[O]? = some (ouObj s j (.slice none 0 0) (.slice none 0 0)))
    (hb : FreshRow (mth 42 O) w3 u bs w4) (h5 : w5 = w4.setCell ⟨O, 9, none⟩ u) (hp : FreshRow (mth 43 O) w5 u2 ps w6) (h7 : w7 = w6.setCell ⟨O, 10, none⟩ u2)
    (hbl : bs.length = j.splits.length) (hpl : ps.length = j.parts.toNat) : Alls w s j O u u2 bs ps w7 := by
  have ho4 := (hb.below.block _ (lt_of_block ho3)).trans ho3
  have ho5 : w5.heap[O]? = some (ouObj s j u (.slice none 0 0)) := by rw [h5]; exact heap_setCell_same w4 O 9 _ _ _ ho4
  have ho6 := (hp.below.block _ (lt_of_block ho5)).trans ho5
  have ho7 : w7.heap[O]? = some (ouObj s j u u2) := by rw [h7]; exact heap_setCell_same w6 O 10 _ _ _ ho6
  have s45 : Sav (Just O) w4 w5 := by rw [h5]; exact (Sav.refl _ _).setCell (just O) 9 _
  have s67 : Sav (Just O) w6 w7 := by rw [h7]; exact (Sav.refl _ _).setCell (just O) 10 _
  have z3 := h3.size
  have z4 := hb.below.size
  have z5 := s45.size
  have z6 := hp.below.size
  have z54 : w4.heap.size = w5.heap.size := by rw [h5]; simp [World.setCell]
  have b4 : Below w.heap.size w w4 := below_then h3 hb.below z3
  have b5 : Below w.heap.size w w5 := b4.trans (s45.below (fun k hk => by unfold Just at hk; omega) (by omega))
  have b6 : Below w.heap.size w w6 := below_then b5 hp.below (by omega)
  have b7 : Below w.heap.size w w7 := b6.trans (s67.below (fun k hk => by unfold Just at hk; omega) (by omega))
  refine ⟨⟨b7, ho7, ⟨by rw [splitsD_len]; exact hbl, ?_, fun k b R hk hR => ?_⟩, ?_, fun b hm => ?_⟩, ⟨by rw [partsD_len]; exact hpl, ?_, fun k b R hk hR => ?_⟩⟩
  · exact owns_offO (owns_below (owns_offO (owns_mono hb.row z3) s45 ho4 (by decide)) hp.below) s67 ho6 (by decide)
  · exact ((((hb.cells k b hk).off s45 ho4).below hp.below).off s67 ho6).cell _ _
  · rw [List.nodup_append]
    refine ⟨hb.nd, hp.nd, fun x hx y hy => ?_⟩
    have := (hb.old x hx).2
    have := (hp.old y hy).1
    omega
  · rcases List.mem_append.1 hm with hm | hm
    · have := (hb.old b hm).1
      omega
    · have := (hp.old b hm).1
      omega
  · exact owns_offO (owns_mono hp.row (by omega)) s67 ho6 (by decide)
  · exact ((hp.cells k b hk).off s67 ho6).cell _ _

set_option maxHeartbeats 4000000 in
theorem outputsOf_any {s : SlJ} {j : JobV} {w : World} (G : Given w s j) :
    Calls Tryz.prog 27 #[jobV s j] w fun e w' => ∃ O vs vp bs ps, e = .returned (.tuple #[pt O, .bool true]) ∧ Alls w s j O vs vp bs ps w' := by
  have M := mayIs G.may
  have b1 := alloc_oneC w (.cells #[.slice s.so j.splits.length s.sc, .int .i64 j.parts, .slice s.mo j.mp.length s.mc, .slice s.co j.cb.length s.cc, .slice s.ro j.rd.length s.rc, .int .i64 j.chunk, .int .i64 j.window, .int .i64 j.fuel, .slice s.ko j.marks.length s.kc] 26)
  have n1 := new_block w (.cells #[.slice s.so j.splits.length s.sc, .int .i64 j.parts, .slice s.mo j.mp.length s.mc, .slice s.co j.cb.length s.cc, .slice s.ro j.rd.length s.rc, .int .i64 j.chunk, .int .i64 j.window, .int .i64 j.fuel, .slice s.ko j.marks.length s.kc] 26)
  have HMay := hid (jobMay_any j s.so s.mo s.co s.ro s.ko s.sc s.mc s.cc s.rc s.kc _ (G.job.below b1))
  have HG := hid G
  have HM := hid M
  have HB1 := hid b1
  have HN1 := hid n1
  have hnot : ∀ (x : Bool) (w : World), (Op.unary .not (.bool x)).run Tryz.prog w = .ok (.bool (!x)) w := fun _ _ => rfl
  clear b1 n1 M G
  go_enter Tryz.func27, Tryz.ntmps27
  go_wp2_with fail
  refine HMay.out.mono ?_
  rintro e w2 ⟨rfl, hb2⟩
  have n2 := (hb2.block _ (lt_of_block HN1.out)).trans HN1.out
  have HB2 := hid (below_then HB1.out hb2 HB1.out.size)
  have hm : mayJ j = true := HG.out.may
  rw [hm]
  have c0 : w2.cell? ⟨w.heap.size, 0, none⟩ = some (.slice s.so j.splits.length s.sc) := cell_of_cells n2
  have c1 : w2.cell? ⟨w.heap.size, 1, none⟩ = some (.int .i64 j.parts) := cell_of_cells n2
  have c2 : w2.cell? ⟨w.heap.size, 2, none⟩ = some (.slice s.mo j.mp.length s.mc) := cell_of_cells n2
  have c3 : w2.cell? ⟨w.heap.size, 3, none⟩ = some (.slice s.co j.cb.length s.cc) := cell_of_cells n2
  have c4 : w2.cell? ⟨w.heap.size, 4, none⟩ = some (.slice s.ro j.rd.length s.rc) := cell_of_cells n2
  have c5 : w2.cell? ⟨w.heap.size, 5, none⟩ = some (.int .i64 j.chunk) := cell_of_cells n2
  have c6 : w2.cell? ⟨w.heap.size, 6, none⟩ = some (.int .i64 j.window) := cell_of_cells n2
  have c7 : w2.cell? ⟨w.heap.size, 7, none⟩ = some (.int .i64 j.fuel) := cell_of_cells n2
  have c8 : w2.cell? ⟨w.heap.size, 8, none⟩ = some (.slice s.ko j.marks.length s.kc) := cell_of_cells n2
  have HN2 := hid n2
  clear hb2 n2 hm HMay HN1 HB1
  have hpn : ((j.parts.toNat : Nat) : Int) = j.parts := Int.toNat_of_nonneg (by have := HM.out.p1; omega)
  have HC2 := hid (fun (O : Nat) (x : World) => hpn ▸ newCells_any 43 O j.parts.toNat (by have := HM.out.p4; omega) x)
  have b3 := below_then HB2.out (alloc_oneC w2 (ouObj s j (.slice none 0 0) (.slice none 0 0))) HB2.out.size
  have n3 := new_block w2 (ouObj s j (.slice none 0 0) (.slice none 0 0))
  have x0 := ((alloc_oneC w2 (ouObj s j (.slice none 0 0) (.slice none 0 0))).block _ (lt_of_block HN2.out)).trans HN2.out
  have d0 : (w2.alloc (ouObj s j (.slice none 0 0) (.slice none 0 0))).cell? ⟨w.heap.size, 0, none⟩ = some (.slice s.so j.splits.length s.sc) := cell_of_cells x0
  have HB3 := hid b3
  have HN3 := hid n3
  have HX3 := hid x0
  clear b3 n3 x0 HN2 hpn
  go_wp2_with fail
  refine (newCells_any 42 w2.heap.size j.splits.length (by have := HM.out.sp; omega) _).mono ?_
  rintro e w4 ⟨u, bs, rfl, hbl, hfr⟩
  have hOx := lt_of_block HX3.out
  have m4 := (hfr.below.block _ (lt_of_block HN3.out)).trans HN3.out
  have x4 := (hfr.below.block _ hOx).trans HX3.out
  obtain ⟨uo, uc, rfl⟩ := own_slice hfr.row
  have k9 : w4.cell? ⟨w2.heap.size, 9, none⟩ = some (.slice none 0 0) := cell_of_cells m4
  have z9 : w4.frozen? ⟨w2.heap.size, 9, none⟩ = false := free_of_cells m4
  have hne : w.heap.size ≠ w2.heap.size := by
    rintro e
    rw [← e] at m4
    rw [x4] at m4
    cases m4
  have HFR := hid hfr
  have HM4 := hid m4
  have HX4 := hid x4
  have HBL := hid hbl
  clear hfr m4 x4 hbl
  have e1 : (w4.setCell ⟨w2.heap.size, 9, none⟩ (.slice uo bs.length uc)).cell? ⟨w.heap.size, 1, none⟩ = some (.int .i64 j.parts) := by
    have h := (((Sav.refl (Just w2.heap.size) w4).setCell (just _) 9 (.slice uo bs.length uc)).at HX4.out hne)
    exact cell_of_cells h
  have e2 : w4.cell? ⟨w.heap.size, 1, none⟩ = some (.int .i64 j.parts) := cell_of_cells HX4.out
  have hne2 := hne.symm
  go_wp2_with fail
  refine (HC2.out w2.heap.size _).mono ?_
  rintro e w6 ⟨u2, ps, rfl, hpl, hpr⟩
  have n5 : (w4.setCell ⟨w2.heap.size, 9, none⟩ (.slice uo bs.length uc)).heap[w2.heap.size]? = some (ouObj s j (.slice uo bs.length uc) (.slice none 0 0)) := heap_setCell_same w4 _ 9 _ _ _ HM4.out
  have n6 := (hpr.below.block _ (lt_of_block n5)).trans n5
  obtain ⟨po, pc, rfl⟩ := own_slice hpr.row
  have k10 : w6.cell? ⟨w2.heap.size, 10, none⟩ = some (.slice none 0 0) := cell_of_cells n6
  have z10 : w6.frozen? ⟨w2.heap.size, 10, none⟩ = false := free_of_cells n6
  have HA := hid (alls_new HB3.out HB2.out.size HN3.out HFR.out rfl hpr rfl HBL.out hpl)
  clear hpr hpl n5 n6 HFR HM4 HX4 HBL HN3 HX3 HC2 HB3 e1 e2
  go_wp2
  go_ret2
  exact ⟨_, _, _, bs, ps, rfl, HA.out⟩
end Go.Proofs.YtcahfnjhcngceaaGreatDoor
/-! Split and Run of package model. -/
namespace Go.Proofs.YtcahfnjhcngceaaGreatDoor
open Go.RowKit Go.Lib
set_option linter.unusedVariables false
set_option maxRecDepth 100000

set_option maxHeartbeats 4000000 in
theorem modelSplit_any {s : SlJ} {j : JobV} {w : World} (G : Given w s j) {k : Nat} (hk : k < j.splits.length) :
    Calls Tryz.prog 10 #[jobV s j, .int .i64 k] w (ToldNew w (splitL j.mp j.cb j.fuel (j.splits[k]))) := by
  have b1 := alloc_oneC w (.cells #[.slice s.so j.splits.length s.sc, .int .i64 j.parts, .slice s.mo j.mp.length s.mc, .slice s.co j.cb.length s.cc, .slice s.ro j.rd.length s.rc, .int .i64 j.chunk, .int .i64 j.window, .int .i64 j.fuel, .slice s.ko j.marks.length s.kc] 26)
  have HG1 := hid (G.on b1)
  have HO := hid (outputsOf_any (G.on b1))
  have HB1 := hid b1
  have hnot : ∀ (x : Bool) (w : World), (Op.unary .not (.bool x)).run Tryz.prog w = .ok (.bool (!x)) w := fun _ _ => rfl
  clear G b1
  go_enter Tryz.func10, Tryz.ntmps10
  go_wp2_with fail
  refine HO.out.mono ?_
  rintro e w2 ⟨O, vs, vp, bs, ps, rfl, hA⟩
  have HA := hid hA
  clear hA HO
  go_wp2_with fail
  refine (split_any HG1.out HA.out.outs hk).mono ?_
  rintro e w3 ⟨ao, n, c, r, rfl, ⟨rfl, ho⟩, hj, hs⟩
  generalize hR : splitL j.mp j.cb j.fuel (j.splits[k]) = R at *
  have HR := hid hR
  obtain ⟨ao', c', e'⟩ := own_slice ho
  cases e'
  have HO3 := hid (ho.alloc (.cells #[.slice ao R.1.length c, .int .i64 R.2] 65))
  have HB3 := hid (below_then (below_then HB1.out hj.below HB1.out.size) (alloc_oneC w3 (.cells #[.slice ao R.1.length c, .int .i64 R.2] 65)) (by have := HB1.out.size; have := hj.below.size; omega))
  have HO4 := hid (show (w3.alloc (.cells #[.slice ao R.1.length c, .int .i64 R.2] 65)).drew.ownsRow w.heap.size 53 2 (.slice ao R.1.length c) R.1.length (fl encP R.1) from owns_mono HO3.out (by have := HB1.out.size; omega))
  have HB4 := hid (show Below w.heap.size w (w3.alloc (.cells #[.slice ao R.1.length c, .int .i64 R.2] 65)).drew from ⟨HB3.out.os, HB3.out.tape, HB3.out.output, HB3.out.size, HB3.out.block⟩)
  clear ho hj hs HA hR
  go_wp2_with fail
  go_region
  all_goals
    go_wp2
    go_ret2
    exact ⟨.slice ao R.1.length c, by rw [HR.out]; rfl, by rw [HR.out]; exact HO4.out, HB4.out⟩

set_option maxHeartbeats 4000000 in
theorem modelRun_any {s : SlJ} {j : JobV} {w : World} (G : Given w s j) {k : Nat} (hk : k < j.splits.length) (p : Int) :
    Calls Tryz.prog 11 #[jobV s j, .int .i64 k, .int .i64 p] w (ToldNew w (runOf (splitL j.mp j.cb j.fuel (j.splits[k])) j.parts p)) := by
  have b1 := alloc_oneC w (.cells #[.slice s.so j.splits.length s.sc, .int .i64 j.parts, .slice s.mo j.mp.length s.mc, .slice s.co j.cb.length s.cc, .slice s.ro j.rd.length s.rc, .int .i64 j.chunk, .int .i64 j.window, .int .i64 j.fuel, .slice s.ko j.marks.length s.kc] 26)
  have HG1 := hid (G.on b1)
  have HO := hid (outputsOf_any (G.on b1))
  have HB1 := hid b1
  have hnot : ∀ (x : Bool) (w : World), (Op.unary .not (.bool x)).run Tryz.prog w = .ok (.bool (!x)) w := fun _ _ => rfl
  clear G b1
  go_enter Tryz.func11, Tryz.ntmps11
  go_wp2_with fail
  refine HO.out.mono ?_
  rintro e w2 ⟨O, vs, vp, bs, ps, rfl, hA⟩
  have HA := hid hA
  clear hA HO
  go_wp2_with fail
  refine (run_any HG1.out HA.out.outs hk p).mono ?_
  rintro e w3 ⟨ao, n, c, r, rfl, ⟨rfl, ho⟩, hj, hs⟩
  generalize hR : runOf (splitL j.mp j.cb j.fuel (j.splits[k])) j.parts p = R at *
  have HR := hid hR
  obtain ⟨ao', c', e'⟩ := own_slice ho
  cases e'
  have HO3 := hid (ho.alloc (.cells #[.slice ao R.1.length c, .int .i64 R.2] 65))
  have HB3 := hid (below_then (below_then HB1.out hj.below HB1.out.size) (alloc_oneC w3 (.cells #[.slice ao R.1.length c, .int .i64 R.2] 65)) (by have := HB1.out.size; have := hj.below.size; omega))
  have HO4 := hid (show (w3.alloc (.cells #[.slice ao R.1.length c, .int .i64 R.2] 65)).drew.ownsRow w.heap.size 53 2 (.slice ao R.1.length c) R.1.length (fl encP R.1) from owns_mono HO3.out (by have := HB1.out.size; omega))
  have HB4 := hid (show Below w.heap.size w (w3.alloc (.cells #[.slice ao R.1.length c, .int .i64 R.2] 65)).drew from ⟨HB3.out.os, HB3.out.tape, HB3.out.output, HB3.out.size, HB3.out.block⟩)
  clear ho hj hs HA hR
  go_wp2_with fail
  go_region
  all_goals
    go_wp2
    go_ret2
    exact ⟨.slice ao R.1.length c, by rw [HR.out]; rfl, by rw [HR.out]; exact HO4.out, HB4.out⟩
end Go.Proofs.YtcahfnjhcngceaaGreatDoor
/-! firstReason, pairsOf and Whole of package model. -/
namespace Go.Proofs.YtcahfnjhcngceaaGreatDoor
open Go.RowKit Go.Lib
set_option linter.unusedVariables false
set_option maxRecDepth 100000

/-- Cells that are asked one by one. -/
structure Fam (wB : World) (s : SlJ) (j : JobV) (O : Nat) (vs vp : Value) (bs ps : List Nat) (u : Value) (cs : List Nat) (Rs : List (List KV × Int)) : Prop where
  len : cs.length = Rs.length
  at_ : ∀ w, Alls wB s j O vs vp bs ps w → ∀ k b, cs[k]? = some b → ∃ g cap, u = .slice (some ⟨g, 0, none⟩) cs.length cap ∧ g < w.heap.size ∧ w.cell? ⟨g, k, none⟩ = some (pt b)
  get : ∀ w, Alls wB s j O vs vp bs ps w → ∀ (k b : Nat) (R : List KV × Int), cs[k]? = some b → Rs[k]? = some R → Calls Tryz.prog 44 #[pt b] w (Told wB.heap.size R (fun x => x ∈ bs ++ ps) (Alls wB s j O vs vp bs ps) w)
variable {wB : World} {s : SlJ} {j : JobV} {O : Nat} {vs vp : Value} {bs ps : List Nat}
theorem famS (G : Given wB s j) {w : World} (h : Alls wB s j O vs vp bs ps w) : Fam wB s j O vs vp bs ps vs bs (splitsD j) := by
  refine ⟨h.outs.cs.len, fun w h k b hk => ?_, fun w h k b R hk hR => ?_⟩
  · obtain ⟨g, cap, e, h1, h2, _⟩ := h.outs.cs.at hk
    exact ⟨g, cap, e, h1, h2⟩
  · have hl := (List.getElem?_eq_some_iff.1 hR).1
    rw [splitsD_len] at hl
    rw [splitsD_at hl] at hR
    cases hR
    exact getS_all G h hk hl
theorem famP (G : Given wB s j) {w : World} (h : Alls wB s j O vs vp bs ps w) : Fam wB s j O vs vp bs ps vp ps (partsD j) := by
  refine ⟨h.ps.len, fun w h k b hk => ?_, fun w h k b R hk hR => getP G h hk hR⟩
  obtain ⟨g, cap, e, h1, h2, _⟩ := h.ps.at hk
  exact ⟨g, cap, e, h1, h2⟩
/-- A reason and how many are ahead. -/
def firstRes (xs : List (List KV × Int)) : Int × Nat :=
  match firstOf xs with
  | none => (0, 0)
  | some q => (q.2, q.1)
theorem firstRes_fine {xs : List (List KV × Int)} (h : ∀ x ∈ xs, x.2 = 0) : firstRes xs = (0, 0) := by
  unfold firstRes
  rw [firstOf_none.2 h]
theorem firstRes_at {xs : List (List KV × Int)} {k : Nat} {x : List KV × Int} (h : ∀ y ∈ xs.take k, y.2 = 0) (hx : xs[k]? = some x) (hn : ¬ x.2 = 0) : firstRes xs = (x.2, k) := by
  unfold firstRes
  rw [firstOf_at h hx hn]
/-- The lists' length is small. -/
theorem Alls.below {w : World} (h : Alls wB s j O vs vp bs ps w) : Below wB.heap.size wB w := h.outs.below

theorem field0 (a b : Value) (w : World) : (Instr.field 65 (.agg #[a, b]) 0).run Tryz.prog w = .ok a w := by kernel_rfl
theorem field1 (a b : Value) (w : World) : (Instr.field 65 (.agg #[a, b]) 1).run Tryz.prog w = .ok b w := by kernel_rfl
set_option maxHeartbeats 4000000 in
theorem firstReason_any {u : Value} {cs : List Nat} {Rs : List (List KV × Int)} (F : Fam wB s j O vs vp bs ps u cs Rs) (ao : Option Addr) (c : Nat) (hu : u = .slice ao cs.length c) (hn : cs.length ≤ 1000) {w : World} (h : Alls wB s j O vs vp bs ps w) :
    Calls Tryz.prog 28 #[u] w fun e w' => e = .returned (.tuple #[.int .i64 (firstRes Rs).1, .int .i64 (firstRes Rs).2]) ∧ Alls wB s j O vs vp bs ps w' ∧ Sav (fun x => x ∈ bs ++ ps) w w' := by
  have HF := hid F
  have HA := hid h
  clear F h
  subst hu
  have HLen := hid HF.out.len
  have hf1 := field1
  go_enter Tryz.func28, Tryz.ntmps28
  go_wp2
  go_loopw [2, 3, 9] (fun r a i wr => r = .int .i64 0 ∧ a = .int .i64 0 ∧ ∃ k : Nat, k ≤ cs.length ∧ i = .int .i64 k ∧ Hid (∀ y ∈ Rs.take k, y.2 = 0) ∧ Alls wB s j O vs vp bs ps wr ∧ Sav (fun x => x ∈ bs ++ ps) w wr) (fun _ _ i _ => cs.length - (intOf i).toNat)
  case atStart => exact ⟨rfl, rfl, 0, by omega, rfl, hid (fun y hy => by simp at hy), HA.out, Sav.refl _ _⟩
  case round =>
    obtain ⟨rfl, rfl, k, hk, rfl, HR, ha, hs⟩ := hrel
    by_cases hlt : k < cs.length
    · have d1 : decide ((k : Int) < (cs.length : Int)) = true := by simp; omega
      have hb := List.getElem?_eq_getElem hlt
      generalize cs[k] = b at hb
      have hRk := List.getElem?_eq_getElem (show k < Rs.length by have := HLen.out; omega)
      generalize Rs[k]'(show k < Rs.length by have := HLen.out; omega) = R at hRk
      obtain ⟨g, cap, e, hg, c1⟩ := HF.out.at_ wr ha k b hb
      cases e
      have HAr := hid ha
      have HSr := hid hs
      have HRk := hid hRk
      have HBk := hid hb
      clear ha hs hRk hb
      go_wp2_with fail
      refine (HF.out.get wr HAr.out k b R HBk.out HRk.out).mono ?_
      rintro e y ⟨yo, n, yc, r, rfl, ⟨rfl, -⟩, hj, hsy⟩
      have HJ := hid hj
      have HS := hid (HSr.out.trans hsy)
      clear hj hsy HAr HSr
      by_cases hr : R.2 = 0
      · have h0 : (R.2 != 0) = false := by simpa using hr
        have HN := hid (all_take_moreO HR.out HRk.out hr)
        clear hr
        go_wp2
        go_roundw
        case rel => exact ⟨rfl, rfl, k + 1, by omega, by go_num, HN, HJ.out, HS.out⟩
        case measure => simp [intOf]; omega
      · have h0 : (R.2 != 0) = true := by simpa using hr
        have HN := hid (firstRes_at HR.out HRk.out hr)
        clear hr
        go_wp2
        go_ret2
        exact ⟨by rw [HN.out]; rfl, HJ.out, HS.out⟩
    · obtain rfl : k = cs.length := by omega
      have d1 : decide ((cs.length : Int) < (cs.length : Int)) = false := by simp
      have HN := hid (firstRes_fine (xs := Rs) (by have h := HR.out; rw [HLen.out, List.take_length] at h; exact h))
      have HAr := hid ha
      have HSr := hid hs
      clear ha hs
      go_wp2
      go_ret2
      exact ⟨by rw [HN.out]; rfl, HAr.out, HSr.out⟩

set_option maxHeartbeats 4000000 in
theorem pairsOf_any {u : Value} {cs : List Nat} {Rs : List (List KV × Int)} (F : Fam wB s j O vs vp bs ps u cs Rs) (ao : Option Addr) (c : Nat) (hu : u = .slice ao cs.length c) (hn : cs.length ≤ 1000) {w : World} (h : Alls wB s j O vs vp bs ps w) :
    Calls Tryz.prog 29 #[u] w fun e w' => ∃ v, e = .returned v ∧ LRows w.heap.size (Rs.map fun x => x.1) v w' ∧ Alls wB s j O vs vp bs ps w' ∧ Sav (fun x => x ∈ bs ++ ps) w w' := by
  have HF := hid F
  have HA := hid h
  have hB := h.below.size
  clear F h
  subst hu
  have HLen := hid HF.out.len
  have hf0 := field0
  obtain ⟨i0, hi, hz0, hz1, hz2⟩ := info_parts Tryz.infoS
  go_enter Tryz.func29, Tryz.ntmps29
  go_wp2
  go_loopw [3, 8] (fun v i wr => ∃ k : Nat, k ≤ cs.length ∧ i = .int .i64 k ∧ LRows w.heap.size ((Rs.take k).map fun x => x.1) v wr ∧ Alls wB s j O vs vp bs ps wr ∧ Sav (fun x => x ∈ bs ++ ps) w wr) (fun _ i _ => cs.length - (intOf i).toNat)
  case atStart => exact ⟨0, by omega, rfl, LRows.nil _ _, HA.out, Sav.refl _ _⟩
  case round =>
    obtain ⟨k, hk, rfl, hr, ha, hs⟩ := hrel
    by_cases hlt : k < cs.length
    · have d1 : decide ((k : Int) < (cs.length : Int)) = true := by simp; omega
      have hb := List.getElem?_eq_getElem hlt
      generalize cs[k] = b at hb
      have hRk := List.getElem?_eq_getElem (show k < Rs.length by have := HLen.out; omega)
      generalize Rs[k]'(show k < Rs.length by have := HLen.out; omega) = R at hRk
      obtain ⟨g, cap, e, hg, c1⟩ := HF.out.at_ wr ha k b hb
      cases e
      have hsz := hs.size
      have HAr := hid ha
      have HSr := hid hs
      have HRr := hid hr
      have HRk := hid hRk
      have HBk := hid hb
      clear ha hs hRk hb hr
      go_wp2_with fail
      refine (HF.out.get wr HAr.out k b R HBk.out HRk.out).mono ?_
      rintro e y ⟨yo, n, yc, r, rfl, ⟨rfl, ho⟩, hj, hsy⟩
      obtain ⟨yo', yc', e'⟩ := own_slice ho
      cases e'
      have hszy := hsy.size
      have HJ := hid hj
      have HS := hid (HSr.out.trans hsy)
      have HO := hid (show Own 0 (.slice yo R.1.length yc) R.1 y from owns_mono ho (Nat.zero_le _))
      obtain ⟨vs2, hv1, hv2⟩ := HRr.out.cells hsy (fun x hx => HAr.out.tag hx)
      have hlk : ((Rs.take k).map fun x => x.1).length = k := by rw [List.length_map, List.length_take]; have := HLen.out; omega
      rw [hlk] at hv1
      have HMo := hid (show (Rs.take (k + 1)).map (fun x => x.1) = (Rs.take k).map (fun x => x.1) ++ [R.1] by rw [List.take_add_one, HRk.out]; simp)
      have HV1 := hid hv1
      have HV2 := hid hv2
      have HLk := hid hlk
      clear hj hsy ho hv1 hv2 hlk HAr HSr HRr
      go_wp2_with (at_builtin; refine wpList_append_own _ rfl _ _ 22 rfl w.heap.size 31 i0 (.slice none 0 0) 1 24 Tryz.underlying22 hi hz0 hz1 hz2 rfl (by decide) _ k _ rfl (HV1.out.alloc _) ⟨y.heap.size, 0, none⟩ 1 1 [.slice yo R.1.length yc] rfl rfl (one_new _ _ _) (by intro u hu; simp at hu; subst hu; rfl) (by unfold maxLen; omega) (by omega) (by simp; omega) ?_; intro v3 w3 ho3 hg3 _)
      have hal : Below y.heap.size y (y.alloc (.cells #[.slice yo R.1.length yc] 31)) := alloc_oneC _ _
      have hcalm : Calm wB.heap.size (bs ++ ps) _ _ := calm_row (HV1.out.alloc (.cells #[.slice yo R.1.length yc] 31)) hB
      have HJ3 := hid ((HJ.out.on hal).sav hcalm (sav_grown hg3))
      have HS4 := hid ((HS.out.alloc (.cells #[.slice yo R.1.length yc] 31)).then (sav_grown hg3) (fun i hi h => by have := owns_base HV1.out h; omega))
      have HC3 := hid (show LRows w.heap.size ((Rs.take (k + 1)).map fun x => x.1) v3 w3 by
        rw [HMo.out]
        exact LRows.more (by rw [HLk.out]; exact HV1.out.alloc _) (rows_at HV2.out hal) (own_one (HO.out.below hal)) (by rw [HLk.out]; exact ho3) hg3)
      clear ho3 hg3 hal hcalm HV1 HV2 HJ HS HO HMo
      go_wp2
      go_roundw
      case rel => exact ⟨k + 1, by omega, by go_num, HC3.out, HJ3.out, HS4.out⟩
      case measure => simp [intOf]; omega
    · obtain rfl : k = cs.length := by omega
      have d1 : decide ((cs.length : Int) < (cs.length : Int)) = false := by simp
      have HRr := hid (show LRows w.heap.size (Rs.map fun x => x.1) _ wr by rw [HLen.out, List.take_length] at hr; exact hr)
      have HAr := hid ha
      have HSr := hid hs
      clear ha hs hr
      go_wp2
      go_ret
      exact ⟨_, rfl, HRr.out, HAr.out, HSr.out⟩

/-- The whole, out of splits and parts. -/
def wholeR (xs ys : List (List KV × Int)) : List (List KV) × Int × Nat :=
  if (firstRes xs).1 = 0 then (if (firstRes ys).1 = 0 then (ys.map fun x => x.1, 0, 0) else ([], (firstRes ys).1, (firstRes ys).2)) else ([], (firstRes xs).1, (firstRes xs).2)
theorem firstRes_some {xs : List (List KV × Int)} {q : Nat × Int} (h : firstOf xs = some q) : firstRes xs = (q.2, q.1) := by
  unfold firstRes
  rw [h]
theorem wholeD_eq {j : JobV} (h : 1 ≤ j.parts) : wholeD j = wholeR (splitsD j) (partsD j) := by
  have hp : ((j.parts.toNat : Nat) : Int) = j.parts := Int.toNat_of_nonneg (by omega)
  unfold wholeD wholeL wholeR
  rw [hp]
  have e1 : (j.splits.map (splitL j.mp j.cb j.fuel)) = splitsD j := rfl
  have e2 : ((List.range j.parts.toNat).map fun (p : Nat) => partOfL j.rd j.fuel j.parts p (splitsD j)) = partsD j := rfl
  have e3 : ((List.range j.parts.toNat).map fun (p : Nat) => (partOfL j.rd j.fuel j.parts p (splitsD j)).1) = (partsD j).map fun x => x.1 := by
    unfold partsD partD
    rw [List.map_map]
    rfl
  rw [e1, e2, e3]
  cases h1 : firstOf (splitsD j) with
  | some q =>
    have hn := firstOf_not _ _ h1
    rw [firstRes_some h1, if_neg hn]
  | none =>
    rw [firstRes_fine (firstOf_none.1 h1), if_pos rfl]
    cases h2 : firstOf (partsD j) with
    | some q =>
      have hn := firstOf_not _ _ h2
      rw [firstRes_some h2]
      simp only
      rw [if_neg hn]
    | none => rw [firstRes_fine (firstOf_none.1 h2), if_pos rfl]
/-- What Whole answers. -/
def WholeNew (w : World) (R : List (List KV) × Int × Nat) (e : Ending) (w' : World) : Prop := ∃ v, e = .returned (.tuple #[v, .int .i64 R.2.1, .int .i64 R.2.2]) ∧ LRows w.heap.size R.1 v w' ∧ Below w.heap.size w w'
theorem sav_kept {w w' : World} {U : Nat → Prop} (hs : Sav U w w') (hU : ∀ k, U k → ∃ cs, w.heap[k]? = some (.cells cs 112 (0, 0))) {x : Nat} {cs : Array Value} {t : TypeId} (h : w.heap[x]? = some (.cells cs t (0, 0))) (ht : t ≠ 112) : w'.heap[x]? = some (.cells cs t (0, 0)) := by
  refine hs.at h fun hu => ?_
  obtain ⟨ds, hd⟩ := hU x hu
  rw [h] at hd
  cases hd
  exact ht rfl

set_option maxHeartbeats 8000000 in
theorem modelWhole_any {s : SlJ} {j : JobV} {w : World} (G : Given w s j) :
    Calls Tryz.prog 9 #[jobV s j] w (WholeNew w (wholeD j)) := by
  rw [wholeD_eq (mayIs G.may).p1]
  have hpl : j.parts.toNat ≤ 4 := by have := (mayIs G.may).p4; omega
  have hsl := (mayIs G.may).sp
  have b1 := alloc_oneC w (.cells #[.slice s.so j.splits.length s.sc, .int .i64 j.parts, .slice s.mo j.mp.length s.mc, .slice s.co j.cb.length s.cc, .slice s.ro j.rd.length s.rc, .int .i64 j.chunk, .int .i64 j.window, .int .i64 j.fuel, .slice s.ko j.marks.length s.kc] 26)
  have hz1 : (w.alloc (.cells #[.slice s.so j.splits.length s.sc, .int .i64 j.parts, .slice s.mo j.mp.length s.mc, .slice s.co j.cb.length s.cc, .slice s.ro j.rd.length s.rc, .int .i64 j.chunk, .int .i64 j.window, .int .i64 j.fuel, .slice s.ko j.marks.length s.kc] 26)).heap.size = w.heap.size + 1 := by simp
  have HG1 := hid (G.on b1)
  have HO := hid (outputsOf_any (G.on b1))
  have HB1 := hid b1
  have hnot : ∀ (x : Bool) (w : World), (Op.unary .not (.bool x)).run Tryz.prog w = .ok (.bool (!x)) w := fun _ _ => rfl
  clear G b1
  go_enter Tryz.func9, Tryz.ntmps9
  go_wp2_with fail
  generalize w.alloc (.cells #[.slice s.so j.splits.length s.sc, .int .i64 j.parts, .slice s.mo j.mp.length s.mc, .slice s.co j.cb.length s.cc, .slice s.ro j.rd.length s.rc, .int .i64 j.chunk, .int .i64 j.window, .int .i64 j.fuel, .slice s.ko j.marks.length s.kc] 26) = w1 at HG1 HO HB1 hz1 ⊢
  refine HO.out.mono ?_
  rintro e w2 ⟨O, vs, vp, bs, ps, rfl, hA⟩
  obtain ⟨so, sc, hso⟩ := own_slice hA.outs.cs.row
  obtain ⟨po, pc, hpo⟩ := own_slice hA.ps.row
  subst hso hpo
  have hbl : bs.length ≤ 6 := by rw [hA.outs.cs.len, splitsD_len]; exact hsl
  have hpl2 : ps.length ≤ 4 := by rw [hA.ps.len, partsD_len]; exact hpl
  have HFs := hid (famS HG1.out hA)
  have HFp := hid (famP HG1.out hA)
  have o9 : w2.cell? ⟨O, 9, none⟩ = some (.slice so bs.length sc) := cell_of_cells hA.outs.obj
  have o10 : w2.cell? ⟨O, 10, none⟩ = some (.slice po ps.length pc) := cell_of_cells hA.outs.obj
  have n9 := World.new_ne w2 _ o9
  simp only at n9
  have HA := hid hA
  clear hA HO
  go_wp2
  go_region
  have hbe : Below w2.heap.size w2 (w2.alloc (.cells #[.slice so bs.length sc, .slice po ps.length pc] 57)).drew := ⟨rfl, rfl, rfl, (alloc_oneC w2 _).size, (alloc_oneC w2 _).block⟩
  have hn3 : (w2.alloc (.cells #[.slice so bs.length sc, .slice po ps.length pc] 57)).drew.heap[w2.heap.size]? = some (.cells #[.slice so bs.length sc, .slice po ps.length pc] 57 (0, 0)) := new_block w2 _
  have HA3 := hid (HA.out.on hbe)
  have HN3 := hid hn3
  clear hbe hn3 HA o9 o10 n9
  generalize (w2.alloc (.cells #[.slice so bs.length sc, .slice po ps.length pc] 57)).drew = w3 at HA3 HN3 ⊢
  generalize w2.heap.size = g at HN3 ⊢
  go_wp2
  go_loopw [2, 3, 4, 28] (fun r a b i wr => r = .slice none 0 0 ∧ a = .int .i64 0 ∧ b = .int .i64 0 ∧ ∃ k : Nat, k ≤ 2 ∧ i = .int .i64 k ∧ Hid ((0 < k → (firstRes (splitsD j)).1 = 0) ∧ (1 < k → (firstRes (partsD j)).1 = 0)) ∧ Alls w1 s j O (.slice so bs.length sc) (.slice po ps.length pc) bs ps wr ∧ wr.heap[g]? = some (.cells #[.slice so bs.length sc, .slice po ps.length pc] 57 (0, 0))) (fun _ _ _ i _ => 2 - (intOf i).toNat)
  case atStart => exact ⟨rfl, rfl, rfl, 0, by omega, rfl, hid ⟨fun h => by omega, fun h => by omega⟩, HA3.out, HN3.out⟩
  case round =>
    obtain ⟨rfl, rfl, rfl, k, hk, rfl, HR, ha, hn⟩ := hrel
    have g0 : wr.cell? ⟨g, 0, none⟩ = some (.slice so bs.length sc) := cell_of_cells hn
    have g1 : wr.cell? ⟨g, 1, none⟩ = some (.slice po ps.length pc) := cell_of_cells hn
    have HAr := hid ha
    have HNr := hid hn
    clear ha hn
    have hc : k = 0 ∨ k = 1 ∨ k = 2 := by omega
    rcases hc with rfl | rfl | rfl
    · have d1 : decide (((0 : Nat) : Int) < 2) = true := by decide
      go_wp2_with fail
      refine (firstReason_any HFs.out so sc rfl (by omega) HAr.out).mono ?_
      rintro e y ⟨rfl, hj, hs⟩
      have HJ := hid hj
      have HN2 := hid (sav_kept hs (fun x hx => HAr.out.tag hx) HNr.out (by decide))
      clear hj hs g0 g1 HAr HNr
      by_cases hr : (firstRes (splitsD j)).1 = 0
      · have h0 : ((firstRes (splitsD j)).1 != 0) = false := by simpa using hr
        have HR0 := hid hr
        clear hr
        go_wp2
        go_roundw
        case rel => exact ⟨rfl, rfl, rfl, 1, by omega, rfl, hid ⟨fun _ => HR0.out, fun h => by omega⟩, HJ.out, HN2.out⟩
        case measure => simp [intOf]
      · have h0 : ((firstRes (splitsD j)).1 != 0) = true := by simpa using hr
        have HW := hid (show wholeR (splitsD j) (partsD j) = ([], (firstRes (splitsD j)).1, (firstRes (splitsD j)).2) from if_neg hr)
        have HBe := hid (below_then HB1.out HJ.out.below HB1.out.size)
        clear hr
        go_wp2
        go_ret3
        exact ⟨.slice none 0 0, by rw [HW.out]; rfl, by rw [HW.out]; exact LRows.nil _ _, HBe.out⟩
    · have d1 : decide (((1 : Nat) : Int) < 2) = true := by decide
      go_wp2_with fail
      refine (firstReason_any HFp.out po pc rfl (by omega) HAr.out).mono ?_
      rintro e y ⟨rfl, hj, hs⟩
      have HJ := hid hj
      have HN2 := hid (sav_kept hs (fun x hx => HAr.out.tag hx) HNr.out (by decide))
      clear hj hs g0 g1 HAr HNr
      by_cases hr : (firstRes (partsD j)).1 = 0
      · have h0 : ((firstRes (partsD j)).1 != 0) = false := by simpa using hr
        have HR0 := hid hr
        clear hr
        go_wp2
        go_roundw
        case rel => exact ⟨rfl, rfl, rfl, 2, by omega, rfl, hid ⟨fun _ => HR.out.1 (by omega), fun _ => HR0.out⟩, HJ.out, HN2.out⟩
        case measure => simp [intOf]
      · have h0 : ((firstRes (partsD j)).1 != 0) = true := by simpa using hr
        have HW := hid (show wholeR (splitsD j) (partsD j) = ([], (firstRes (partsD j)).1, (firstRes (partsD j)).2) from by
          unfold wholeR
          rw [if_pos (HR.out.1 (by omega)), if_neg hr])
        have HBe := hid (below_then HB1.out HJ.out.below HB1.out.size)
        clear hr
        go_wp2
        go_ret3
        exact ⟨.slice none 0 0, by rw [HW.out]; rfl, by rw [HW.out]; exact LRows.nil _ _, HBe.out⟩
    · have d1 : decide (((2 : Nat) : Int) < 2) = false := by decide
      have HW := hid (show wholeR (splitsD j) (partsD j) = ((partsD j).map (fun x => x.1), 0, 0) from by
        unfold wholeR
        rw [if_pos (HR.out.1 (by omega)), if_pos (HR.out.2 (by omega))])
      have o10 : wr.cell? ⟨O, 10, none⟩ = some (.slice po ps.length pc) := cell_of_cells HAr.out.outs.obj
      have hszr := HAr.out.below.size
      clear g0 g1 HNr
      go_wp2_with fail
      refine (pairsOf_any HFp.out po pc rfl (by omega) HAr.out).mono ?_
      rintro e y ⟨v, rfl, hv, hj, hs⟩
      have HV := hid (show LRows w.heap.size _ v y from hv.mono (by omega))
      have HBe := hid (below_then HB1.out hj.below HB1.out.size)
      clear hv hj hs HAr
      go_wp2
      go_ret3
      exact ⟨v, by rw [HW.out]; rfl, by rw [HW.out]; exact HV.out, HBe.out⟩
end Go.Proofs.YtcahfnjhcngceaaGreatDoor
/-! Lists of lists held against each other: SameRuns. -/
namespace Go.Proofs.YtcahfnjhcngceaaGreatDoor
open Go.RowKit
set_option linter.unusedVariables false
set_option maxRecDepth 100000

set_option maxHeartbeats 4000000 in
theorem sameRuns_dec (a b : Value) (ls ms : List (List KV)) (w : World) (ha : Lis w a ls) (hb : Lis w b ms) :
    Calls Tryz.prog 17 #[a, b] w fun e w' => e = .returned (.bool (decide (ls = ms))) ∧ Below w.heap.size w w' := by
  have HA := hid ha
  have HB := hid hb
  obtain ⟨ao, ca, rfl, a1, a2, -⟩ := ha.slice
  obtain ⟨bo, cb, rfl, b1, b2, -⟩ := hb.slice
  unfold maxLen at a2 b2
  clear ha hb
  have hnot : ∀ (x : Bool) (w : World), (Op.unary .not (.bool x)).run Tryz.prog w = .ok (.bool (!x)) w := fun _ _ => rfl
  by_cases hlen : ls.length = ms.length
  · have e1 : ((ls.length : Int) != (ms.length : Int)) = false := by simp; omega
    have HL := hid hlen
    clear hlen
    go_enter Tryz.func17, Tryz.ntmps17
    go_wp2
    go_loopw [4, 5] (fun r i wr => r = .bool false ∧ ∃ k : Nat, k ≤ ls.length ∧ i = .int .i64 k ∧ Hid (ls.take k = ms.take k) ∧ Below w.heap.size w wr) (fun _ i _ => ls.length - (intOf i).toNat)
    case atStart => exact ⟨rfl, 0, by omega, rfl, hid rfl, Below.refl _ _⟩
    case round =>
      obtain ⟨rfl, k, hk, rfl, HT, hbe⟩ := hrel
      have HBe := hid hbe
      clear hbe
      by_cases hlt : k < ls.length
      · have hd5 : decide ((k : Int) < (ls.length : Int)) = true := by simp; omega
        have hlm : k < ms.length := by have := HL.out; omega
        have hd6 : decide ((k : Int) < (ms.length : Int)) = true := by simp; omega
        obtain ⟨p, po, l, xo, xc, hl, rfl, hp, c0, hpl⟩ := (HA.out.below HBe.out).cell hlt
        obtain ⟨q, qo, m, yo, yc, hm, rfl, hq, d0, hqm⟩ := (HB.out.below HBe.out).cell hlm
        have HX := hid hl
        have HY := hid hm
        have HPl := hid (show Prs wr.drew (.slice xo l.length xc) l from hpl)
        have HQm := hid (show Prs wr.drew (.slice yo m.length yc) m from hqm)
        clear hl hm hpl hqm
        go_wp2_with fail
        go_region_held3 (fun w' => w'.cell? ⟨p, po + k, none⟩ = some (.slice xo l.length xc) ∧ w'.cell? ⟨q, qo + k, none⟩ = some (.slice yo m.length yc)) (first | exact ⟨f0, f1⟩ | go_keep)
          (first | (go_at_call 13; refine (samePairs_dec _ _ l m wr.drew HPl.out HQm.out).mono ?_; rintro e y ⟨rfl, t, hy⟩; have hby : Below wr.heap.size wr y := (by rw [hy]; exact ⟨rfl, rfl, rfl, Nat.le_refl _, fun _ _ => rfl⟩); have f0 := (hby.cell (p := ⟨p, po + k, none⟩) hp).trans c0; have f1 := (hby.cell (p := ⟨q, qo + k, none⟩) hq).trans d0; have HBy := hid (below_then HBe.out hby HBe.out.size); clear hy hby))
        clear f0 f1 c0 d0
        by_cases hxy : l = m
        · have hd : decide (l = m) = true := by simpa using hxy
          rw [hd]
          have HT2 := hid (show ls.take (k + 1) = ms.take (k + 1) from take_same HT.out HL.out hlt (by rw [HX.out, HY.out, hxy]))
          clear hd hxy
          go_wp2
          go_roundw
          case rel => exact ⟨rfl, k + 1, by omega, by go_num, HT2, HBy.out⟩
          case measure => simp [intOf]; omega
        · have hd : decide (l = m) = false := by simpa using hxy
          rw [hd]
          have H3 := hid (show decide (ls = ms) = false from decide_eq_false (take_less HX.out HY.out hxy))
          clear hd hxy
          go_wp2
          go_ret
          exact ⟨by rw [H3.out]; rfl, HBy.out⟩
      · obtain rfl : k = ls.length := by omega
        have hd5 : decide ((ls.length : Int) < (ls.length : Int)) = false := by simp
        have H3 := hid (show decide (ls = ms) = true from decide_eq_true (by
          have h1 := HT.out
          have h2 := HL.out
          rw [List.take_of_length_le (Nat.le_refl _), List.take_of_length_le (by omega)] at h1
          exact h1))
        go_wp2
        go_ret
        exact ⟨by rw [H3.out]; rfl, HBe.out⟩
  · have e1 : ((ls.length : Int) != (ms.length : Int)) = true := by simp; omega
    have H3 := hid (show decide (ls = ms) = false from decide_eq_false (fun e => hlen (by rw [e])))
    clear hlen
    go_enter Tryz.func17, Tryz.ntmps17
    go_wp2
    go_ret
    exact ⟨by rw [H3.out]; rfl, Below.refl _ _⟩
end Go.Proofs.YtcahfnjhcngceaaGreatDoor
/-! awake of chapter 13's statements: it is true. -/
namespace Go.Proofs.YtcahfnjhcngceaaGreatDoor
open Go.RowKit Go.Lib
set_option linter.unusedVariables false
set_option maxRecDepth 100000

def baF : List KV := [(bF, n1), (aF, n2)]
def abF : List KV := [(aF, n2), (bF, n1)]
def smallJ : JobV := ⟨[baF], 1, firstP, [], firstP, 1, 1, 9, []⟩
theorem bad_firstP : bad firstP < 0 := may_all (by simp [firstP]) (by
  intro x hx
  simp only [firstP, List.mem_cons, List.mem_nil_iff, or_false] at hx
  rcases hx with rfl | rfl | rfl | rfl <;> simp [good])
theorem bad_nil : bad ([] : List Inst) < 0 := by decide
theorem smallJ_may : mayJ smallJ = true := by
  unfold mayJ smallJ
  simp only [bad_firstP, bad_nil, decide_true]
  decide
theorem smallJ_fit : JobFit smallJ := ⟨first_nums, (fun x hx => by simp [smallJ] at hx), first_nums, i64_small (by simp [smallJ]) (by simp [smallJ]), i64_small (by simp [smallJ]) (by simp [smallJ]), i64_small (by simp [smallJ]) (by simp [smallJ]), i64_small (by simp [smallJ]) (by simp [smallJ])⟩
theorem ba_srt : srt baF = abF := by decide
theorem ab_srt : srt abF = abF := by decide
theorem small_map : mapL firstP baF 9 = (baF, 0) := by
  have h1 := first_one bF n1 (by decide) (by decide)
  have h2 := first_one aF n2 (by decide) (by decide)
  have hr : mapR firstP 9 baF = 0 := by
    unfold baF
    rw [mapR_cons, h1, if_pos rfl, mapR_cons, h2, if_pos rfl]
    rfl
  have ht : mapT firstP 9 baF = baF := by
    unfold mapT baF
    rw [List.flatMap_cons, List.flatMap_cons, h1, h2]
    rfl
  unfold mapL
  rw [if_pos hr, ht, if_pos (by decide)]
theorem small_split : splitL firstP [] 9 baF = (abF, 0) := by
  unfold splitL
  rw [small_map, if_pos rfl]
  unfold combineL
  rw [if_pos (show ([] : List Inst).length = 0 from rfl), ba_srt]
theorem only_one (l : List KV) : onlyL l 1 0 = l := by
  unfold onlyL
  rw [List.filter_eq_self]
  intro x _
  have h := ofK_bd (s := x.1) (parts := 1) (by omega)
  unfold isP
  simp
  omega
theorem small_part : partD smallJ 0 = (abF, 0) := by
  have hs : splitsD smallJ = [(abF, 0)] := by
    show [splitL firstP [] 9 baF] = _
    rw [small_split]
  unfold partD
  rw [hs, partOfL_fine (by simp)]
  show eachL firstP (srt [onlyL abF 1 0].flatten) 9 = _
  rw [only_one, show [abF].flatten = abF by simp, ab_srt]
  unfold eachL foldL
  have hk : keysOf abF = [aF, bF] := by decide
  have ha : runK false firstP aF (valsOf aF abF) 9 = ([(aF, n2)], 0) := by
    unfold runK
    rw [show valsOf aF abF = [n2] by decide, first_one aF n2 (by decide) (by decide)]
    rfl
  have hb : runK false firstP bF (valsOf bF abF) 9 = ([(bF, n1)], 0) := by
    unfold runK
    rw [show valsOf bF abF = [n1] by decide, first_one bF n1 (by decide) (by decide)]
    rfl
  rw [hk, foldK_yes ha rfl, foldK_yes hb rfl]
  rfl
theorem small_whole : wholeD smallJ = ([abF], 0, 0) := by
  rw [wholeD_eq (by decide)]
  have hs : splitsD smallJ = [(abF, 0)] := by
    show [splitL firstP [] 9 baF] = _
    rw [small_split]
  have hp : partsD smallJ = [(abF, 0)] := by
    show [partD smallJ 0] = _
    rw [small_part]
  rw [hs, hp]
  rfl
theorem is_nilO (w : World) : Is w (.slice none 0 0) [] := ⟨none, 0, rfl, Nat.le_refl _, by unfold maxLen; omega, fun _ => ⟨rfl, rfl⟩, fun h => absurd rfl h⟩
/-- What small answers. -/
def SmallIs (w : World) (e : Ending) (w' : World) : Prop :=
  ∃ s : SlJ, e = .returned (jobV s smallJ) ∧ JobIs w' s.so s.mo s.co s.ro s.ko s.sc s.mc s.cc s.rc s.kc smallJ ∧ Below w.heap.size w w'
set_option maxHeartbeats 4000000 in
theorem small_any (w : World) : Calls Tryz.prog 26 #[] w (SmallIs w) := by
  have h0 : ∀ o : Obj, JobIs ((((w.alloc o).alloc (.cells (icl firstP).toArray 41)).alloc (.cells (fl encP baF).toArray 53)).alloc (.cells #[.slice (some ⟨w.heap.size + 2, 0, none⟩) 2 2] 31)) (some ⟨w.heap.size + 3, 0, none⟩) (some ⟨w.heap.size + 1, 0, none⟩) none (some ⟨w.heap.size + 1, 0, none⟩) none 1 4 0 4 0 smallJ ∧
      Below w.heap.size w ((((w.alloc o).alloc (.cells (icl firstP).toArray 41)).alloc (.cells (fl encP baF).toArray 53)).alloc (.cells #[.slice (some ⟨w.heap.size + 2, 0, none⟩) 2 2] 31)) := by
    intro o
    have z1 : (w.alloc o).heap.size = w.heap.size + 1 := by simp
    have hc := Co.made firstP (w.alloc o) (by simp [firstP])
    rw [z1] at hc
    have z2 : ((w.alloc o).alloc (.cells (icl firstP).toArray 41)).heap.size = w.heap.size + 2 := by simp
    have hp := pairs_made baF ((w.alloc o).alloc (.cells (icl firstP).toArray 41)) (by simp [baF])
    rw [z2] at hp
    have hc2 := (hc.below (alloc_one _ (.cells (fl encP baF).toArray 53))).below (alloc_one _ (.cells #[.slice (some ⟨w.heap.size + 2, 0, none⟩) 2 2] 31))
    have b1 := alloc_one w o
    have b2 := below_then b1 (alloc_one _ (.cells (icl firstP).toArray 41)) b1.size
    have b3 := below_then b2 (alloc_one _ (.cells (fl encP baF).toArray 53)) b2.size
    have b4 := below_then b3 (alloc_one _ (.cells #[.slice (some ⟨w.heap.size + 2, 0, none⟩) 2 2] 31)) b3.size
    have z3 : (((w.alloc o).alloc (.cells (icl firstP).toArray 41)).alloc (.cells (fl encP baF).toArray 53)).heap.size = w.heap.size + 3 := by simp
    have hl := lis_made [.slice (some ⟨w.heap.size + 2, 0, none⟩) 2 2] [baF] (((w.alloc o).alloc (.cells (icl firstP).toArray 41)).alloc (.cells (fl encP baF).toArray 53)) (by simp) rfl fun j l hj => by
      match j, hj with
      | 0, hj => simp at hj; subst hj; exact ⟨_, rfl, hp⟩
      | j + 1, hj => simp at hj
    rw [z3] at hl
    exact ⟨⟨hl, hc2, co_nil _, hc2, is_nilO _⟩, b4⟩
  have H0 := hid h0
  clear h0
  go_enter Tryz.func26, Tryz.ntmps26
  go_wp2
  go_returns
  exact ⟨⟨_, _, none, _, none, 1, 4, 0, 4, 0⟩, rfl, (H0.out _).1, (H0.out _).2⟩

theorem smallG {w : World} {s : SlJ} (T : Tabs w) (h : JobIs w s.so s.mo s.co s.ro s.ko s.sc s.mc s.cc s.rc s.kc smallJ) : Given w s smallJ := ⟨h, smallJ_fit, smallJ_may, T⟩
set_option maxHeartbeats 8000000 in
theorem awakeM (w : World) (T : Tabs w) : Calls Tryz.prog 8 #[] w fun e w' => e = .returned (.bool true) ∧ Below w.heap.size w w' := by
  have HT := hid T
  clear T
  go_enter Tryz.func8, Tryz.ntmps8
  go_wp2_with fail
  refine (small_any w).mono ?_
  rintro e w1 ⟨s, rfl, hj, hb1⟩
  have G1 := hid (smallG (HT.out.on hb1) hj)
  have K1 := hid hb1
  clear hj hb1
  go_wp2_with fail
  refine (modelSplit_any (k := 0) G1.out (by decide)).mono ?_
  intro e w2 h2
  have h3 : ToldNew w1 (abF, 0) e w2 := by
    have h := h2
    rw [show splitL smallJ.mp smallJ.cb smallJ.fuel (smallJ.splits[0]'(by decide)) = (abF, 0) from small_split] at h
    exact h
  obtain ⟨x, rfl, ho, hb2⟩ := h3
  obtain ⟨ao, ac, rfl⟩ := own_slice ho
  have HO2 := hid (show Prs w2 (.slice ao abF.length ac) abF from Reads.own encP_len (by decide) ho)
  have K2 := hid (below_then K1.out hb2 K1.out.size)
  clear h2 ho hb2 G1 K1
  go_wp2_with fail
  refine (small_any w2).mono ?_
  rintro e w3 ⟨s2, rfl, hj, hb3⟩
  have K3 := hid (below_then K2.out hb3 K2.out.size)
  have HO3 := hid (HO2.out.below hb3)
  have G3 := hid (smallG (HT.out.on K3.out) hj)
  clear hj hb3 HO2 K2
  go_wp2_with fail
  refine (modelWhole_any G3.out).mono ?_
  rw [small_whole]
  rintro e w4 ⟨v, rfl, hv, hb4⟩
  have K4 := hid (below_then K3.out hb4 K3.out.size)
  have HO4 := hid (HO3.out.below hb4)
  have hl := hv.lis
  obtain ⟨vo, vc, rfl, -⟩ := hl.slice
  have HL4 := hid hl
  clear hv hl hb4 HO3 K3 G3
  have hpm := pairs_made abF w4 (by simp [abF])
  have k5 := alloc_one w4 (.cells (fl encP abF).toArray 53)
  have HP5 := hid hpm
  have HO5 := hid (HO4.out.below k5)
  have HL5 := hid (HL4.out.below k5)
  have K5 := hid (below_then K4.out k5 K4.out.size)
  have hz5 : (w4.alloc (.cells (fl encP abF).toArray 53)).heap.size = w4.heap.size + 1 := by simp
  clear hpm k5 HO4 HL4 K4
  go_wp2_with fail
  change Calls _ _ _ (w4.alloc (.cells (fl encP abF).toArray 53)) _
  generalize w4.alloc (.cells (fl encP abF).toArray 53) = w5 at HP5 HO5 HL5 K5 hz5 ⊢
  refine (samePairs_dec _ _ abF abF w5 HO5.out HP5.out).mono ?_
  rintro e w6 ⟨rfl, t, hw6⟩
  have hb6 : Below w5.heap.size w5 w6 := by rw [hw6]; exact ⟨rfl, rfl, rfl, Nat.le_refl _, fun _ _ => rfl⟩
  rw [show decide (abF = abF) = true by simp]
  have hz6 : w6.heap.size = w4.heap.size + 1 := by rw [hw6]; exact hz5
  have HP6 := hid (HP5.out.below hb6)
  have HL6 := hid (HL5.out.below hb6)
  have K6 := hid (below_then K5.out hb6 K5.out.size)
  clear hb6 hw6 HP5 HL5 K5 HO5
  have hlm := lis_made [.slice (some ⟨w4.heap.size, 0, none⟩) abF.length abF.length] [abF] w6 (by simp) rfl fun j l hj => by
    match j, hj with
    | 0, hj => simp at hj; subst hj; exact ⟨_, rfl, HP6.out⟩
    | j + 1, hj => simp at hj
  rw [hz6] at hlm
  have HM7 := hid hlm
  have k7 := alloc_one w6 (.cells #[.slice (some ⟨w4.heap.size, 0, none⟩) abF.length abF.length] 31)
  have HL7 := hid (HL6.out.below k7)
  have K7 := hid (below_then K6.out k7 K6.out.size)
  clear hlm k7 HL6 K6 HP6
  go_wp2_with fail
  refine (sameRuns_dec _ _ [abF] [abF] (w6.alloc (.cells #[.slice (some ⟨w4.heap.size, 0, none⟩) abF.length abF.length] 31)) HL7.out HM7.out).mono ?_
  rintro e w8 ⟨rfl, hb8⟩
  rw [show decide ([abF] = [abF]) = true by simp]
  have K8 := hid (below_then K7.out hb8 K7.out.size)
  clear hb8 HL7 HM7 K7
  go_wp2
  go_ret
  exact ⟨rfl, K8.out⟩
end Go.Proofs.YtcahfnjhcngceaaGreatDoor
