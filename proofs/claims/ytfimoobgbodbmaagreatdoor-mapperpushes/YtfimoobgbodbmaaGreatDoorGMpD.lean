/- Laid together: MpNew MpNew2. -/
import Derived.Test.YtfimoobgbodbmaaGreatDoorGMpA
import Derived.Test.YtfimoobgbodbmaaGreatDoorGOb
import Derived.Test.YtfimoobgbodbmaaGreatDoorAppAny
import Derived.Test.YtfimoobgbodbmaaGreatDoorNewStruct
import Derived.Test.YtfimoobgbodbmaaGreatDoorGJarg
/-! package mapper: jobOf (a job with one split alone, in memory of its own) and New. -/
namespace Go.Proofs.YtfimoobgbodbmaaGreatDoor
open Go.RowKit Go.Lib
set_option linter.unusedVariables false
set_option maxRecDepth 100000

theorem Tryz.infoInsM : (Tryz.prog.info? 118).map (fun i => (i.zero, i.size, i.bytes)) = some (some (.agg #[.int .i64 0, .int .i64 0, .string ⟨#[]⟩]), 3, 32) := by kernel_rfl
/-- The cells of what comes in, one by one. -/
theorem Co.newsM {w w' : World} {ao : Option Addr} {cap : Nat} {l : List Inst} (h : Co w (.slice ao l.length cap) l) (hb : Below w.heap.size w w') : ∀ ad, ao = some ad → ∀ j u, (icl l)[j]? = some u → w'.cell? (ad.add j) = some u := by
  intro ad had j u hu
  obtain ⟨ao', cap', hv, h1, h2, h3, h4⟩ := h.below hb
  cases hv
  have hj : j < l.length * 3 := by
    have := (List.getElem?_eq_some_iff.1 hu).1
    rwa [icl_length] at this
  obtain ⟨b, off, e, hlt, hc⟩ := h4 (by intro e; rw [e] at hj; simp at hj)
  rw [had] at e
  cases e
  have hq : j / 3 < l.length := by omega
  obtain ⟨c0, c1, c2⟩ := hc (j / 3) hq
  obtain ⟨a0, a1, a2⟩ := icl_at l (j / 3) hq
  rw [addr_add]
  have : j = j / 3 * 3 ∨ j = j / 3 * 3 + 1 ∨ j = j / 3 * 3 + 2 := by omega
  rcases this with e | e | e
  · rw [e] at hu ⊢
    rw [c0, ← a0]; exact hu
  · rw [e] at hu ⊢
    rw [← Nat.add_assoc, c1, ← a1]; exact hu
  · rw [e] at hu ⊢
    rw [← Nat.add_assoc, c2, ← a2]; exact hu
theorem Co.noneM {w : World} {ao : Option Addr} {cap n : Nat} {l : List Inst} (h : Co w (.slice ao n cap) l) : (ao = none → n = 0 ∧ cap = 0) ∧ n = l.length := by
  obtain ⟨ao', cap', hv, h1, h2, h3, h4⟩ := h
  cases hv
  exact ⟨fun e => ⟨by rw [(h3 e).1]; rfl, (h3 e).2⟩, rfl⟩
/-- A job's block. -/
abbrev joCs (v0 : Value) (p : Int) (v2 v3 v4 : Value) (c w f : Int) (v8 : Value) : Array Value := #[v0, .int .i64 p, v2, v3, v4, .int .i64 c, .int .i64 w, .int .i64 f, v8]
def noJob : Array Value := joCs (.slice none 0 0) 0 (.slice none 0 0) (.slice none 0 0) (.slice none 0 0) 0 0 0 (.slice none 0 0)

set_option maxHeartbeats 4000000 in
theorem jobOf_any {s : SlJ} {j : JobV} {w : World} (h : JobIs w s.so s.mo s.co s.ro s.ko s.sc s.mc s.cc s.rc s.kc j) (M : MayIs j) {k : Nat} (hk : k < j.splits.length) :
    Calls Tryz.prog 37 #[jobV s j, .int .i64 k] w fun e w' => ∃ s' : SlJ, e = .returned (jobV s' (aloneJ j (j.splits.getD k []))) ∧ FrJ w.heap.size s' j (j.splits.getD k []) (fun g => w.heap.size ≤ g ∧ g < w'.heap.size) w' ∧ Below w.heap.size w w' := by
  obtain ⟨i0, hi, hz0, hz1, hz2⟩ := info_parts Tryz.infoP
  obtain ⟨i1, hj, hy0, hy1, hy2⟩ := info_parts Tryz.infoInsM
  obtain ⟨sb, soff, l, xo, xc, hl, hso, hsb, hsx, hpx⟩ := h.sp.cell hk
  have hl2 : j.splits.getD k [] = l := by rw [List.getD_eq_getElem?_getD, hl]; rfl
  rw [hl2]
  have hl8 : l.length ≤ 8 := (M.recs l (List.mem_of_getElem? hl)).1
  have hm40 := bad_short M.mp
  have hc40 := bad_short M.cb
  have hr40 := bad_short M.rd
  unfold jobV
  rw [hso]
  have hA : ((w.alloc (.cells (joCs (.slice (some ⟨sb, soff, none⟩) j.splits.length s.sc) j.parts (.slice s.mo j.mp.length s.mc) (.slice s.co j.cb.length s.cc) (.slice s.ro j.rd.length s.rc) j.chunk j.window j.fuel (.slice s.ko j.marks.length s.kc)) 26)).alloc (.cells noJob 26)).heap[w.heap.size]? = some (.cells (joCs (.slice (some ⟨sb, soff, none⟩) j.splits.length s.sc) j.parts (.slice s.mo j.mp.length s.mc) (.slice s.co j.cb.length s.cc) (.slice s.ro j.rd.length s.rc) j.chunk j.window j.fuel (.slice s.ko j.marks.length s.kc)) 26 (0, 0)) := ((alloc_one _ _).block _ (by simp)).trans (new_block _ _)
  have hR : ((w.alloc (.cells (joCs (.slice (some ⟨sb, soff, none⟩) j.splits.length s.sc) j.parts (.slice s.mo j.mp.length s.mc) (.slice s.co j.cb.length s.cc) (.slice s.ro j.rd.length s.rc) j.chunk j.window j.fuel (.slice s.ko j.marks.length s.kc)) 26)).alloc (.cells noJob 26)).heap[w.heap.size + 1]? = some (.cells noJob 26 (0, 0)) := by
    have := new_block (w.alloc (.cells (joCs (.slice (some ⟨sb, soff, none⟩) j.splits.length s.sc) j.parts (.slice s.mo j.mp.length s.mc) (.slice s.co j.cb.length s.cc) (.slice s.ro j.rd.length s.rc) j.chunk j.window j.fuel (.slice s.ko j.marks.length s.kc)) 26)) (.cells noJob 26)
    simpa using this
  have hB : Below w.heap.size w ((w.alloc (.cells (joCs (.slice (some ⟨sb, soff, none⟩) j.splits.length s.sc) j.parts (.slice s.mo j.mp.length s.mc) (.slice s.co j.cb.length s.cc) (.slice s.ro j.rd.length s.rc) j.chunk j.window j.fuel (.slice s.ko j.marks.length s.kc)) 26)).alloc (.cells noJob 26)) := below_then (alloc_one _ _) (alloc_one _ _) (by simp)
  have HL := hid hl8
  have HM := hid (And.intro hm40 (And.intro hc40 hr40))
  have HMP := hid h.mp
  have HCB := hid h.cb
  have HRD := hid h.rd
  have HPX := hid hpx
  have hkn : (k : Int) < (j.splits.length : Int) := by omega
  have hk0 : (0 : Int) ≤ (k : Int) := by omega
  have hnx := hpx.noneOf
  have hnm := (Co.noneM h.mp).1
  have hnc := (Co.noneM h.cb).1
  have hnr := (Co.noneM h.rd).1
  have HNX := hid hnx
  have HNM := hid hnm
  have HNC := hid hnc
  have HNR := hid hnr
  clear h M hl hso hl2 hl8 hm40 hc40 hr40 hpx hnx hnm hnc hnr
  have HA := hid hA
  have HR := hid hR
  have HB := hid hB
  clear hA hR hB
  unfold joCs noJob joCs at HA HR HB
  go_enter Tryz.func37, Tryz.ntmps37
  go_upto_region 1 with fail
  generalize (w.alloc (.cells #[.slice (some ⟨sb, soff, none⟩) j.splits.length s.sc, .int .i64 j.parts, .slice s.mo j.mp.length s.mc, .slice s.co j.cb.length s.cc, .slice s.ro j.rd.length s.rc, .int .i64 j.chunk, .int .i64 j.window, .int .i64 j.fuel, .slice s.ko j.marks.length s.kc] 26)).alloc (.cells #[.slice none 0 0, .int .i64 0, .slice none 0 0, .slice none 0 0, .slice none 0 0, .int .i64 0, .int .i64 0, .int .i64 0, .slice none 0 0] 26) = w1 at *
  have c0 : w1.cell? ⟨w.heap.size, 0, none⟩ = some (.slice (some ⟨sb, soff, none⟩) j.splits.length s.sc) := cell_of_cells HA.out
  have hsx1 : w1.cell? ⟨sb, soff + k, none⟩ = some (.slice xo l.length xc) := (HB.out.cell (p := ⟨sb, soff + k, none⟩) hsb).trans hsx
  clear hsx
  go_upto_region 2 with (at_builtin; refine wpList_append_own_any _ rfl _ _ 51 rfl w.heap.size 105 i0 _ 2 32 Tryz.underlying51 hi hz0 hz1 hz2 rfl (by decide) (.slice none 0 0) 0 [] rfl (World.ownsRow_nil _ _ _ _) xo l.length xc (fl encP l) rfl (fl_length encP_len l) HNX.out (HPX.out.news encP_len (by decide) HB.out) (fl_one encP_one l) (by have := HL.out; unfold maxLen; omega) (by have := HL.out; omega) HB.out.size ?_; intro v2 w2 ho hg; rw [Nat.zero_add] at ho; (obtain ⟨a2, k2, rfl⟩ := own_slice ho); have hb2 := below_none hg; have hA2 := (hb2.block _ (lt_of_block HA.out)).trans HA.out; have hR2 := (hb2.block _ (lt_of_block HR.out)).trans HR.out; have HB2 := below_then HB.out hb2 HB.out.size; have hA3 := ((alloc_one w2 (.cells #[.slice a2 l.length k2] 51)).block _ (lt_of_block hA2)).trans hA2; have hR3 := ((alloc_one w2 (.cells #[.slice a2 l.length k2] 51)).block _ (lt_of_block hR2)).trans hR2; have hG3 := new_block w2 (.cells #[.slice a2 l.length k2] 51); have hB3 := below_then HB2 (alloc_one w2 (.cells #[.slice a2 l.length k2] 51)) HB2.size; have hO3 := ho.alloc (.cells #[.slice a2 l.length k2] 51); have hlt : w.heap.size + 1 < w2.heap.size := lt_of_block hR2; have HLT := hid (show w.heap.size + 1 < w2.heap.size from lt_of_block hR2); have x0 : (w2.alloc (.cells #[.slice a2 l.length k2] 51)).cell? ⟨w.heap.size, 0, none⟩ = some (.slice (some ⟨sb, soff, none⟩) j.splits.length s.sc) := cell_of_cells hA3; have f0 : (w2.alloc (.cells #[.slice a2 l.length k2] 51)).frozen? ⟨w.heap.size, 0, none⟩ = false := free_of_cells hA3; have hs : Sav (Just w.heap.size) (w2.alloc (.cells #[.slice a2 l.length k2] 51)) ((w2.alloc (.cells #[.slice a2 l.length k2] 51)).setCell ⟨w.heap.size, 0, none⟩ (.slice (some ⟨w2.heap.size, 0, none⟩) 1 1)) := (Sav.refl _ _).setCell (just _) 0 _; have HA4 := hid (show ((w2.alloc (.cells #[.slice a2 l.length k2] 51)).setCell ⟨w.heap.size, 0, none⟩ (.slice (some ⟨w2.heap.size, 0, none⟩) 1 1)).heap[w.heap.size]? = some (.cells #[.slice (some ⟨w2.heap.size, 0, none⟩) 1 1, .int .i64 j.parts, .slice s.mo j.mp.length s.mc, .slice s.co j.cb.length s.cc, .slice s.ro j.rd.length s.rc, .int .i64 j.chunk, .int .i64 j.window, .int .i64 j.fuel, .slice s.ko j.marks.length s.kc] 26 (0, 0)) from set_same hA3); have HR4 := hid (hs.at hR3 (by unfold Just; omega)); have HB4 := hid (hB3.trans (hs.below (B := w.heap.size) (fun g hg => by unfold Just at hg; omega) hB3.size)); have HO4 := hid (owns_sav hO3 hs (fun g hg e => owns_ne hO3 hA3 (by decide) (by rw [hg, show g = w.heap.size from e]))); have HG4 := hid (hs.at hG3 (by unfold Just; omega)); clear ho hg hb2 hA2 hR2 HB2 hA3 hR3 hG3 hB3 hO3 HA HR HB hs)
  clear x0 f0 c0 hsx1
  generalize hq : w2.heap.size = q at *
  clear hq
  generalize ((w2.alloc (.cells #[.slice a2 l.length k2] 51)).setCell ⟨w.heap.size, 0, none⟩ (.slice (some ⟨q, 0, none⟩) 1 1)) = w4 at *
  have y : w4.cell? ⟨w.heap.size, 2, none⟩ = some (.slice s.mo j.mp.length s.mc) := cell_of_cells HA4.out
  go_upto_region 3 with (at_builtin; refine wpList_append_own_any _ rfl _ _ 23 rfl w.heap.size 118 i1 _ 3 32 Tryz.underlying23 hj hy0 hy1 hy2 rfl (by decide) (.slice none 0 0) 0 [] rfl (World.ownsRow_nil _ _ _ _) s.mo j.mp.length s.mc (icl j.mp) rfl (icl_length j.mp) HNM.out (HMP.out.newsM HB4.out) (icl_oneCell j.mp) (by have := HM.out.1; unfold maxLen; omega) (by have := HM.out.1; omega) HB4.out.size ?_; intro v5 x5 ho hg; rw [Nat.zero_add] at ho; (obtain ⟨a5, k5, rfl⟩ := own_slice ho); have hb := below_none hg; have hA := (hb.block _ (lt_of_block HA4.out)).trans HA4.out; have hR := (hb.block _ (lt_of_block HR4.out)).trans HR4.out; have hB := below_then HB4.out hb HB4.out.size; have hG := (hb.block _ (lt_of_block HG4.out)).trans HG4.out; have z : x5.cell? ⟨w.heap.size, 2, none⟩ = some (.slice s.mo j.mp.length s.mc) := cell_of_cells hA; have f : x5.frozen? ⟨w.heap.size, 2, none⟩ = false := free_of_cells hA; have hs : Sav (Just w.heap.size) x5 (x5.setCell ⟨w.heap.size, 2, none⟩ (.slice a5 j.mp.length k5)) := (Sav.refl _ _).setCell (just _) 2 _; have HA5 := hid (show (x5.setCell ⟨w.heap.size, 2, none⟩ (.slice a5 j.mp.length k5)).heap[w.heap.size]? = some (.cells #[.slice (some ⟨q, 0, none⟩) 1 1, .int .i64 j.parts, .slice a5 j.mp.length k5, .slice s.co j.cb.length s.cc, .slice s.ro j.rd.length s.rc, .int .i64 j.chunk, .int .i64 j.window, .int .i64 j.fuel, .slice s.ko j.marks.length s.kc] 26 (0, 0)) from set_same hA); have HR5 := hid (hs.at hR (by unfold Just; omega)); have HB5 := hid (hB.trans (hs.below (B := w.heap.size) (fun g hg => by unfold Just at hg; omega) hB.size)); have HG5 := hid (hs.at hG (by have := HLT.out; unfold Just; omega)); have HO5 := hid (owns_sav (owns_below HO4.out hb) hs (fun g hg e => owns_ne (owns_below HO4.out hb) hA (by decide) (by rw [hg, show g = w.heap.size from e]))); have HP5 := hid (owns_sav ho hs (fun g hg e => owns_ne ho hA (by decide) (by rw [hg, show g = w.heap.size from e]))); clear ho hg hb hA hR hB hG hs y HA4 HR4 HB4 HG4 HO4)
  clear z f
  generalize (x5.setCell ⟨w.heap.size, 2, none⟩ (.slice a5 j.mp.length k5)) = w5 at *
  have y : w5.cell? ⟨w.heap.size, 3, none⟩ = some (.slice s.co j.cb.length s.cc) := cell_of_cells HA5.out
  go_upto_region 4 with (at_builtin; refine wpList_append_own_any _ rfl _ _ 23 rfl w.heap.size 118 i1 _ 3 32 Tryz.underlying23 hj hy0 hy1 hy2 rfl (by decide) (.slice none 0 0) 0 [] rfl (World.ownsRow_nil _ _ _ _) s.co j.cb.length s.cc (icl j.cb) rfl (icl_length j.cb) HNC.out (HCB.out.newsM HB5.out) (icl_oneCell j.cb) (by have := HM.out.2.1; unfold maxLen; omega) (by have := HM.out.2.1; omega) HB5.out.size ?_; intro v6 x6 ho hg; rw [Nat.zero_add] at ho; (obtain ⟨a6, k6, rfl⟩ := own_slice ho); have hb := below_none hg; have hA := (hb.block _ (lt_of_block HA5.out)).trans HA5.out; have hR := (hb.block _ (lt_of_block HR5.out)).trans HR5.out; have hB := below_then HB5.out hb HB5.out.size; have hG := (hb.block _ (lt_of_block HG5.out)).trans HG5.out; have z : x6.cell? ⟨w.heap.size, 3, none⟩ = some (.slice s.co j.cb.length s.cc) := cell_of_cells hA; have f : x6.frozen? ⟨w.heap.size, 3, none⟩ = false := free_of_cells hA; have hs : Sav (Just w.heap.size) x6 (x6.setCell ⟨w.heap.size, 3, none⟩ (.slice a6 j.cb.length k6)) := (Sav.refl _ _).setCell (just _) 3 _; have HA6 := hid (show (x6.setCell ⟨w.heap.size, 3, none⟩ (.slice a6 j.cb.length k6)).heap[w.heap.size]? = some (.cells #[.slice (some ⟨q, 0, none⟩) 1 1, .int .i64 j.parts, .slice a5 j.mp.length k5, .slice a6 j.cb.length k6, .slice s.ro j.rd.length s.rc, .int .i64 j.chunk, .int .i64 j.window, .int .i64 j.fuel, .slice s.ko j.marks.length s.kc] 26 (0, 0)) from set_same hA); have HR6 := hid (hs.at hR (by unfold Just; omega)); have HB6 := hid (hB.trans (hs.below (B := w.heap.size) (fun g hg => by unfold Just at hg; omega) hB.size)); have HG6 := hid (hs.at hG (by have := HLT.out; unfold Just; omega)); have HO6 := hid (owns_sav (owns_below HO5.out hb) hs (fun g hg e => owns_ne (owns_below HO5.out hb) hA (by decide) (by rw [hg, show g = w.heap.size from e]))); have HP6 := hid (owns_sav (owns_below HP5.out hb) hs (fun g hg e => owns_ne (owns_below HP5.out hb) hA (by decide) (by rw [hg, show g = w.heap.size from e]))); have HC6 := hid (owns_sav ho hs (fun g hg e => owns_ne ho hA (by decide) (by rw [hg, show g = w.heap.size from e]))); clear ho hg hb hA hR hB hG hs y HA5 HR5 HB5 HG5 HO5 HP5)
  clear z f
  generalize (x6.setCell ⟨w.heap.size, 3, none⟩ (.slice a6 j.cb.length k6)) = w6 at *
  have y : w6.cell? ⟨w.heap.size, 4, none⟩ = some (.slice s.ro j.rd.length s.rc) := cell_of_cells HA6.out
  go_upto_region 5 with (at_builtin; refine wpList_append_own_any _ rfl _ _ 23 rfl w.heap.size 118 i1 _ 3 32 Tryz.underlying23 hj hy0 hy1 hy2 rfl (by decide) (.slice none 0 0) 0 [] rfl (World.ownsRow_nil _ _ _ _) s.ro j.rd.length s.rc (icl j.rd) rfl (icl_length j.rd) HNR.out (HRD.out.newsM HB6.out) (icl_oneCell j.rd) (by have := HM.out.2.2; unfold maxLen; omega) (by have := HM.out.2.2; omega) HB6.out.size ?_; intro v7 x7 ho hg; rw [Nat.zero_add] at ho; (obtain ⟨a7, k7, rfl⟩ := own_slice ho); have hb := below_none hg; have hA := (hb.block _ (lt_of_block HA6.out)).trans HA6.out; have hR := (hb.block _ (lt_of_block HR6.out)).trans HR6.out; have hB := below_then HB6.out hb HB6.out.size; have hG := (hb.block _ (lt_of_block HG6.out)).trans HG6.out; have z : x7.cell? ⟨w.heap.size, 4, none⟩ = some (.slice s.ro j.rd.length s.rc) := cell_of_cells hA; have f : x7.frozen? ⟨w.heap.size, 4, none⟩ = false := free_of_cells hA; have hs : Sav (Just w.heap.size) x7 (x7.setCell ⟨w.heap.size, 4, none⟩ (.slice a7 j.rd.length k7)) := (Sav.refl _ _).setCell (just _) 4 _; have HA7 := hid (show (x7.setCell ⟨w.heap.size, 4, none⟩ (.slice a7 j.rd.length k7)).heap[w.heap.size]? = some (.cells #[.slice (some ⟨q, 0, none⟩) 1 1, .int .i64 j.parts, .slice a5 j.mp.length k5, .slice a6 j.cb.length k6, .slice a7 j.rd.length k7, .int .i64 j.chunk, .int .i64 j.window, .int .i64 j.fuel, .slice s.ko j.marks.length s.kc] 26 (0, 0)) from set_same hA); have HR7 := hid (hs.at hR (by unfold Just; omega)); have HB7 := hid (hB.trans (hs.below (B := w.heap.size) (fun g hg => by unfold Just at hg; omega) hB.size)); have HG7 := hid (hs.at hG (by have := HLT.out; unfold Just; omega)); have HO7 := hid (owns_sav (owns_below HO6.out hb) hs (fun g hg e => owns_ne (owns_below HO6.out hb) hA (by decide) (by rw [hg, show g = w.heap.size from e]))); have HP7 := hid (owns_sav (owns_below HP6.out hb) hs (fun g hg e => owns_ne (owns_below HP6.out hb) hA (by decide) (by rw [hg, show g = w.heap.size from e]))); have HC7 := hid (owns_sav (owns_below HC6.out hb) hs (fun g hg e => owns_ne (owns_below HC6.out hb) hA (by decide) (by rw [hg, show g = w.heap.size from e]))); have HD7 := hid (owns_sav ho hs (fun g hg e => owns_ne ho hA (by decide) (by rw [hg, show g = w.heap.size from e]))); clear ho hg hb hA hR hB hG hs y HA6 HR6 HB6 HG6 HO6 HP6 HC6)
  clear z f
  generalize (x7.setCell ⟨w.heap.size, 4, none⟩ (.slice a7 j.rd.length k7)) = w7 at *
  have z : w7.cell? ⟨w.heap.size, 8, none⟩ = some (.slice s.ko j.marks.length s.kc) := cell_of_cells HA7.out
  have f : w7.frozen? ⟨w.heap.size, 8, none⟩ = false := free_of_cells HA7.out
  have hs : Sav (Just w.heap.size) w7 (w7.setCell ⟨w.heap.size, 8, none⟩ (.slice none 0 0)) := (Sav.refl _ _).setCell (just _) 8 _
  have HA8 := hid (show (w7.setCell ⟨w.heap.size, 8, none⟩ (.slice none 0 0)).heap[w.heap.size]? = some (.cells #[.slice (some ⟨q, 0, none⟩) 1 1, .int .i64 j.parts, .slice a5 j.mp.length k5, .slice a6 j.cb.length k6, .slice a7 j.rd.length k7, .int .i64 j.chunk, .int .i64 j.window, .int .i64 j.fuel, .slice none 0 0] 26 (0, 0)) from set_same HA7.out)
  have HR8 := hid (hs.at HR7.out (by unfold Just; omega))
  have HB8 := hid (HB7.out.trans (hs.below (B := w.heap.size) (fun g hg => by unfold Just at hg; omega) HB7.out.size))
  have HG8 := hid (hs.at HG7.out (by have := HLT.out; unfold Just; omega))
  have HO8 := hid (owns_sav HO7.out hs (fun g hg e => owns_ne HO7.out HA7.out (by decide) (by rw [hg, show g = w.heap.size from e])))
  have HP8 := hid (owns_sav HP7.out hs (fun g hg e => owns_ne HP7.out HA7.out (by decide) (by rw [hg, show g = w.heap.size from e])))
  have HC8 := hid (owns_sav HC7.out hs (fun g hg e => owns_ne HC7.out HA7.out (by decide) (by rw [hg, show g = w.heap.size from e])))
  have HD8 := hid (owns_sav HD7.out hs (fun g hg e => owns_ne HD7.out HA7.out (by decide) (by rw [hg, show g = w.heap.size from e])))
  clear hs HA7 HR7 HB7 HG7 HO7 HP7 HC7 HD7
  go_upto_region 6 with fail
  clear z f
  generalize (w7.setCell ⟨w.heap.size, 8, none⟩ (.slice none 0 0)) = w8 at *
  have c0 : w8.cell? ⟨w.heap.size, 0, none⟩ = some (.slice (some ⟨q, 0, none⟩) 1 1) := cell_of_cells HA8.out
  have c1 : w8.cell? ⟨w.heap.size, 1, none⟩ = some (.int .i64 j.parts) := cell_of_cells HA8.out
  have c2 : w8.cell? ⟨w.heap.size, 2, none⟩ = some (.slice a5 j.mp.length k5) := cell_of_cells HA8.out
  have c3 : w8.cell? ⟨w.heap.size, 3, none⟩ = some (.slice a6 j.cb.length k6) := cell_of_cells HA8.out
  have c4 : w8.cell? ⟨w.heap.size, 4, none⟩ = some (.slice a7 j.rd.length k7) := cell_of_cells HA8.out
  have c5 : w8.cell? ⟨w.heap.size, 5, none⟩ = some (.int .i64 j.chunk) := cell_of_cells HA8.out
  have c6 : w8.cell? ⟨w.heap.size, 6, none⟩ = some (.int .i64 j.window) := cell_of_cells HA8.out
  have c7 : w8.cell? ⟨w.heap.size, 7, none⟩ = some (.int .i64 j.fuel) := cell_of_cells HA8.out
  have c8 : w8.cell? ⟨w.heap.size, 8, none⟩ = some (.slice none 0 0) := cell_of_cells HA8.out
  have d0 : w8.cell? ⟨w.heap.size + 1, 0, none⟩ = some (.slice none 0 0) := cell_of_cells HR8.out
  have f0 : w8.frozen? ⟨w.heap.size + 1, 0, none⟩ = false := free_of_cells HR8.out
  have d1 : w8.cell? ⟨w.heap.size + 1, 1, none⟩ = some (.int .i64 0) := cell_of_cells HR8.out
  have f1 : w8.frozen? ⟨w.heap.size + 1, 1, none⟩ = false := free_of_cells HR8.out
  have d2 : w8.cell? ⟨w.heap.size + 1, 2, none⟩ = some (.slice none 0 0) := cell_of_cells HR8.out
  have f2 : w8.frozen? ⟨w.heap.size + 1, 2, none⟩ = false := free_of_cells HR8.out
  have d3 : w8.cell? ⟨w.heap.size + 1, 3, none⟩ = some (.slice none 0 0) := cell_of_cells HR8.out
  have f3 : w8.frozen? ⟨w.heap.size + 1, 3, none⟩ = false := free_of_cells HR8.out
  have d4 : w8.cell? ⟨w.heap.size + 1, 4, none⟩ = some (.slice none 0 0) := cell_of_cells HR8.out
  have f4 : w8.frozen? ⟨w.heap.size + 1, 4, none⟩ = false := free_of_cells HR8.out
  have d5 : w8.cell? ⟨w.heap.size + 1, 5, none⟩ = some (.int .i64 0) := cell_of_cells HR8.out
  have f5 : w8.frozen? ⟨w.heap.size + 1, 5, none⟩ = false := free_of_cells HR8.out
  have d6 : w8.cell? ⟨w.heap.size + 1, 6, none⟩ = some (.int .i64 0) := cell_of_cells HR8.out
  have f6 : w8.frozen? ⟨w.heap.size + 1, 6, none⟩ = false := free_of_cells HR8.out
  have d7 : w8.cell? ⟨w.heap.size + 1, 7, none⟩ = some (.int .i64 0) := cell_of_cells HR8.out
  have f7 : w8.frozen? ⟨w.heap.size + 1, 7, none⟩ = false := free_of_cells HR8.out
  have d8 : w8.cell? ⟨w.heap.size + 1, 8, none⟩ = some (.slice none 0 0) := cell_of_cells HR8.out
  have f8 : w8.frozen? ⟨w.heap.size + 1, 8, none⟩ = false := free_of_cells HR8.out
  have hs : Sav (Just (w.heap.size + 1)) w8 (((((((((w8.setCell ⟨w.heap.size + 1, 0, none⟩ (.slice (some ⟨q, 0, none⟩) 1 1)).setCell ⟨w.heap.size + 1, 1, none⟩ (.int .i64 j.parts)).setCell ⟨w.heap.size + 1, 2, none⟩ (.slice a5 j.mp.length k5)).setCell ⟨w.heap.size + 1, 3, none⟩ (.slice a6 j.cb.length k6)).setCell ⟨w.heap.size + 1, 4, none⟩ (.slice a7 j.rd.length k7)).setCell ⟨w.heap.size + 1, 5, none⟩ (.int .i64 j.chunk)).setCell ⟨w.heap.size + 1, 6, none⟩ (.int .i64 j.window)).setCell ⟨w.heap.size + 1, 7, none⟩ (.int .i64 j.fuel)).setCell ⟨w.heap.size + 1, 8, none⟩ (.slice none 0 0)) := ((((((((((Sav.refl _ _).setCell (just _) 0 _).setCell (just _) 1 _).setCell (just _) 2 _).setCell (just _) 3 _).setCell (just _) 4 _).setCell (just _) 5 _).setCell (just _) 6 _).setCell (just _) 7 _).setCell (just _) 8 _)
  have HR9 := hid (show (((((((((w8.setCell ⟨w.heap.size + 1, 0, none⟩ (.slice (some ⟨q, 0, none⟩) 1 1)).setCell ⟨w.heap.size + 1, 1, none⟩ (.int .i64 j.parts)).setCell ⟨w.heap.size + 1, 2, none⟩ (.slice a5 j.mp.length k5)).setCell ⟨w.heap.size + 1, 3, none⟩ (.slice a6 j.cb.length k6)).setCell ⟨w.heap.size + 1, 4, none⟩ (.slice a7 j.rd.length k7)).setCell ⟨w.heap.size + 1, 5, none⟩ (.int .i64 j.chunk)).setCell ⟨w.heap.size + 1, 6, none⟩ (.int .i64 j.window)).setCell ⟨w.heap.size + 1, 7, none⟩ (.int .i64 j.fuel)).setCell ⟨w.heap.size + 1, 8, none⟩ (.slice none 0 0)).heap[w.heap.size + 1]? = some (.cells #[.slice (some ⟨q, 0, none⟩) 1 1, .int .i64 j.parts, .slice a5 j.mp.length k5, .slice a6 j.cb.length k6, .slice a7 j.rd.length k7, .int .i64 j.chunk, .int .i64 j.window, .int .i64 j.fuel, .slice none 0 0] 26 (0, 0)) from (set_same (set_same (set_same (set_same (set_same (set_same (set_same (set_same (set_same HR8.out))))))))))
  have HB9 := hid (HB8.out.trans (hs.below (B := w.heap.size) (fun g hg => by unfold Just at hg; omega) HB8.out.size))
  have HG9 := hid (hs.at HG8.out (by have := HLT.out; unfold Just; omega))
  have HO9 := hid (owns_sav HO8.out hs (fun g hg e => owns_ne HO8.out HR8.out (by decide) (by rw [hg, show g = w.heap.size + 1 from e])))
  have HP9 := hid (owns_sav HP8.out hs (fun g hg e => owns_ne HP8.out HR8.out (by decide) (by rw [hg, show g = w.heap.size + 1 from e])))
  have HC9 := hid (owns_sav HC8.out hs (fun g hg e => owns_ne HC8.out HR8.out (by decide) (by rw [hg, show g = w.heap.size + 1 from e])))
  have HD9 := hid (owns_sav HD8.out hs (fun g hg e => owns_ne HD8.out HR8.out (by decide) (by rw [hg, show g = w.heap.size + 1 from e])))
  clear hs HA8 HR8 HB8 HG8 HO8 HP8 HC8 HD8
  go_wp2
  clear c0 d0 f0 c1 d1 f1 c2 d2 f2 c3 d3 f3 c4 d4 f4 c5 d5 f5 c6 d6 f6 c7 d7 f7 c8 d8 f8
  generalize ((((((((w8.setCell ⟨w.heap.size + 1, 0, none⟩ (.slice (some ⟨q, 0, none⟩) 1 1)).setCell ⟨w.heap.size + 1, 1, none⟩ (.int .i64 j.parts)).setCell ⟨w.heap.size + 1, 2, none⟩ (.slice a5 j.mp.length k5)).setCell ⟨w.heap.size + 1, 3, none⟩ (.slice a6 j.cb.length k6)).setCell ⟨w.heap.size + 1, 4, none⟩ (.slice a7 j.rd.length k7)).setCell ⟨w.heap.size + 1, 5, none⟩ (.int .i64 j.chunk)).setCell ⟨w.heap.size + 1, 6, none⟩ (.int .i64 j.window)).setCell ⟨w.heap.size + 1, 7, none⟩ (.int .i64 j.fuel)).setCell ⟨w.heap.size + 1, 8, none⟩ (.slice none 0 0) = w9 at *
  have e0 : w9.cell? ⟨w.heap.size + 1, 0, none⟩ = some (.slice (some ⟨q, 0, none⟩) 1 1) := cell_of_cells HR9.out
  have e1 : w9.cell? ⟨w.heap.size + 1, 1, none⟩ = some (.int .i64 j.parts) := cell_of_cells HR9.out
  have e2 : w9.cell? ⟨w.heap.size + 1, 2, none⟩ = some (.slice a5 j.mp.length k5) := cell_of_cells HR9.out
  have e3 : w9.cell? ⟨w.heap.size + 1, 3, none⟩ = some (.slice a6 j.cb.length k6) := cell_of_cells HR9.out
  have e4 : w9.cell? ⟨w.heap.size + 1, 4, none⟩ = some (.slice a7 j.rd.length k7) := cell_of_cells HR9.out
  have e5 : w9.cell? ⟨w.heap.size + 1, 5, none⟩ = some (.int .i64 j.chunk) := cell_of_cells HR9.out
  have e6 : w9.cell? ⟨w.heap.size + 1, 6, none⟩ = some (.int .i64 j.window) := cell_of_cells HR9.out
  have e7 : w9.cell? ⟨w.heap.size + 1, 7, none⟩ = some (.int .i64 j.fuel) := cell_of_cells HR9.out
  have e8 : w9.cell? ⟨w.heap.size + 1, 8, none⟩ = some (.slice none 0 0) := cell_of_cells HR9.out
  refine bodyPost_ret (by simp [results, Tryz.results37, go_sem, e0, e1, e2, e3, e4, e5, e6, e7, e8]; try rfl) rfl ?_
  have hq1 : w.heap.size ≤ q := by have := HLT.out; omega
  have hq2 := lt_of_block HG9.out
  refine ⟨⟨some ⟨q, 0, none⟩, a5, a6, a7, none, 1, k5, k6, k7, 0⟩, rfl, ⟨⟨.slice a2 l.length k2, ⟨rfl, .inr ⟨q, 1, _, rfl, hq1, HG9.out, Nat.le_refl _, by unfold maxLen; omega, rfl, rfl⟩⟩, HO9.out, ?_, fun g hg => HO9.out.lt g hg⟩, ⟨HP9.out, fun g hg => HP9.out.lt g hg⟩, ⟨HC9.out, fun g hg => HC9.out.lt g hg⟩, ⟨HD9.out, fun g hg => HD9.out.lt g hg⟩, rfl, rfl⟩, HB9.out⟩
  intro g hg
  cases hg
  exact ⟨hq1, hq2⟩
end Go.Proofs.YtfimoobgbodbmaaGreatDoor
/-! package mapper: New, where the attempt may be. -/
namespace Go.Proofs.YtfimoobgbodbmaaGreatDoor
open Go.RowKit Go.Lib
set_option linter.unusedVariables false
set_option maxRecDepth 100000

theorem FrJ.low {B C : Nat} {s : SlJ} {j : JobV} {l : List KV} {I : Nat → Prop} {w : World} (h : FrJ B s j l I w) (hc : C ≤ B) : FrJ C s j l I w := by
  obtain ⟨⟨x, h1, h2, h3, h4⟩, ⟨m1, m2⟩, ⟨c1, c2⟩, ⟨r1, r2⟩, k1, k2⟩ := h
  exact ⟨⟨x, owns_mono h1 hc, owns_mono h2 hc, h3, h4⟩, ⟨owns_mono m1 hc, m2⟩, ⟨owns_mono c1 hc, c2⟩, ⟨owns_mono r1 hc, r2⟩, k1, k2⟩
/-- A configuration's cells. -/
abbrev cfgV (s : SlJ) (c : CfgV) : Value := .agg #[.slice s.so c.job.splits.length s.sc, .int .i64 c.job.parts, .slice s.mo c.job.mp.length s.mc, .slice s.co c.job.cb.length s.cc, .slice s.ro c.job.rd.length s.rc, .int .i64 c.job.chunk, .int .i64 c.job.window, .int .i64 c.job.fuel, .slice s.ko c.job.marks.length s.kc, .int .i64 c.workers, .int .i64 c.tries, .int .i64 c.timeout]
/-- What New answers of an attempt that may be. -/
def NewM (W : World) (c : CfgV) (k : Nat) (a : Int) (w : World) (e : Ending) (w' : World) : Prop :=
  ∃ b s I, e = .returned (.tuple #[pt b, .int .i64 0]) ∧ Fr W c k a b s 0 I w' ∧ (∀ g, I g → w.heap.size ≤ g) ∧ Below w.heap.size w w'
set_option maxHeartbeats 8000000 in
theorem mpNew_any {W : World} {c : CfgV} {k : Nat} {a : Int} {s : SlJ} {w : World} (HBs : Base W c k a) (hb : Below W.heap.size W w) (hj : JobIs w s.so s.mo s.co s.ro s.ko s.sc s.mc s.cc s.rc s.kc c.job) :
    Calls Tryz.prog 9 #[cfgV s c, .int .i64 k, .int .i64 a] w (NewM W c k a w) := by
  have HF := hid (Hj.new w c hj)
  have HS := hid HBs
  have HW := hid hb
  have hnot : ∀ (x : Bool) (w : World), (Op.unary .not (.bool x)).run Tryz.prog w = .ok (.bool (!x)) w := fun _ _ => rfl
  have d1 : decide ((k : Int) < 0) = false := by simp
  have d2 : decide ((k : Int) ≥ (c.job.splits.length : Int)) = false := by have := HBs.lt; simp; omega
  have d2' : decide ((c.job.splits.length : Int) ≤ (k : Int)) = false := by have := HBs.lt; simp; omega
  have d2n : decide (c.job.splits.length ≤ k) = false := by have := HBs.lt; simp; omega
  have d3 : decide (a < 1) = false := by have := HBs.a1; simp; omega
  have d4 : decide (c.tries < a) = false := by have := HBs.a3; simp; omega
  clear HBs hb hj
  go_enter Tryz.func9, Tryz.ntmps9
  go_wp2_with fail
  refine (mayConfig_any c s.so s.mo s.co s.ro s.ko s.sc s.mc s.cc s.rc s.kc _ HF.out.job).mono ?_
  rintro e w2 ⟨rfl, hb2⟩
  replace HF := hid (HF.out.on hb2)
  rw [HS.out.may]
  obtain ⟨c0, c1, c2, c3, c4, c5, c6, c7, c8, c9, c10, c11⟩ := HF.out.eqs
  clear hb2
  go_wp2_with fail
  refine (jobOf_any (s := s) HF.out.job (mayIs (mayC_job HS.out.may)) HS.out.lt).mono ?_
  rintro e w3 ⟨s', he, hfr, hb3⟩
  have he2 : e = .returned (.agg #[.slice s'.so 1 s'.sc, .int .i64 c.job.parts, .slice s'.mo c.job.mp.length s'.mc, .slice s'.co c.job.cb.length s'.cc, .slice s'.ro c.job.rd.length s'.rc, .int .i64 c.job.chunk, .int .i64 c.job.window, .int .i64 c.job.fuel, .slice s'.ko 0 s'.kc]) := he
  clear he
  subst he2
  have HB3 := hid (below_then HF.out.below hb3 HF.out.below.size)
  have HFR := hid hfr
  have hz := HF.out.below.size
  have hz3 := hb3.size
  clear c0 c1 c2 c3 c4 c5 c6 c7 c8 c9 c10 c11 hfr hb3
  go_wp2
  go_ret2
  refine ⟨w3.heap.size, s', (fun g => w.heap.size ≤ g ∧ g < w3.heap.size + 1), rfl, ?_, fun g hg => hg.1, below_then HB3.out (alloc_one _ _) (by omega)⟩
  have hko := HFR.out.ko
  have hkc := HFR.out.kc
  refine ⟨below_then (below_then HW.out HB3.out HW.out.size) (alloc_one _ _) (by have := HW.out.size; omega), ?_, ?_, ⟨by omega, by omega⟩, ?_, fun g hg => ⟨by have := HW.out.size; omega, by simp; omega⟩⟩
  · rw [new_block]
    rw [hko, hkc]
  · have := (HFR.out.sav (Sav.of_below (S := Non) (alloc_one w3 (.cells #[.int .i64 k, .int .i64 a, .int .u32 0, .int .i32 0, .int .u32 0, .slice s'.so 1 s'.sc, .int .i64 c.job.parts, .slice s'.mo c.job.mp.length s'.mc, .slice s'.co c.job.cb.length s'.cc, .slice s'.ro c.job.rd.length s'.rc, .int .i64 c.job.chunk, .int .i64 c.job.window, .int .i64 c.job.fuel, .slice s'.ko 0 s'.kc, .int .i64 0, .slice none 0 0] 90))) (fun _ _ h => h)).mono (J := fun g => w.heap.size ≤ g ∧ g < w3.heap.size + 1) (fun g hg => ⟨by omega, by omega⟩)
    exact this.low (by have := HW.out.size; omega)
  · obtain ⟨x, h1, h2, h3, h4⟩ := HFR.out.sp
    intro g hg e
    have := (h1.lt g hg).2
    omega
end Go.Proofs.YtfimoobgbodbmaaGreatDoor
