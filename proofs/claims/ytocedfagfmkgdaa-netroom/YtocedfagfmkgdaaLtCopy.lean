/- copied: a letter with lists of its own. -/
import Derived.Test.YtocedfagfmkgdaaLtRow
namespace Go.Proofs.Ytocedfagfmkgdaa
open Go.RowKit
set_option linter.unusedVariables false

theorem Is.news {w w' : World} {ao : Option Addr} {m c : Nat} {l : List Int} (h : Is w (.slice ao m c) l) (hb : Below w.heap.size w w') : ∀ ad, ao = some ad → ∀ j u, (ict l)[j]? = some u → w'.cell? (ad.add j) = some u := by
  intro ad had j u hu
  have hj := (List.getElem?_eq_some_iff.1 hu).1
  rw [ict_length] at hj
  rw [ict_at hj] at hu
  obtain ⟨ao', cap', hv, h1, h2, h3, h4⟩ := h.below hb
  cases hv
  obtain ⟨b, off, e, hlt, hc⟩ := h4 (by intro e; rw [e] at hj; simp at hj)
  rw [had] at e
  cases e
  rw [addr_add, hc j hj]
  exact hu
theorem Is.nothing {w : World} {ao : Option Addr} {m c : Nat} {l : List Int} (h : Is w (.slice ao m c) l) : ao = none → l.length = 0 ∧ c = 0 := by
  obtain ⟨ao', cap', hv, h1, h2, h3, h4⟩ := h
  cases hv
  exact fun e => ⟨by rw [(h3 e).1]; rfl, (h3 e).2⟩
theorem Reads.nothing {α : Type} {n : Nat} {enc : α → List Value} {w : World} {ao : Option Addr} {m c : Nat} {l : List α} (h : Reads n enc w (.slice ao m c) l) : ao = none → l.length = 0 ∧ c = 0 := by
  obtain ⟨ao', cap', hv, h1, h2, h3, h4⟩ := h
  cases hv
  exact fun e => ⟨by rw [(h3 e).1]; rfl, (h3 e).2⟩
theorem ict_one (l : List Int) : ∀ u ∈ ict l, u.oneCell' = true := by
  intro u hu
  obtain ⟨x, _, rfl⟩ := List.mem_map.1 hu
  rfl
theorem below_set {B b j : Nat} {w w' : World} {v : Value} (h : Below B w w') (hb : B ≤ b) : Below B w (w'.setCell ⟨b, j, none⟩ v) :=
  ⟨h.os, h.tape, h.output, Nat.le_trans h.size (by simp [World.setCell]), fun k hk => (Below.heap_setCell _ _ _ _ (by simp only; omega)).trans (h.block k hk)⟩
theorem set_two {w : World} {b c j : Nat} {o : Obj} {v : Value} (h : w.heap[b]? = some o) (hn : b ≠ c) : (w.setCell ⟨c, j, none⟩ v).heap[b]? = some o := (Below.heap_setCell _ _ _ _ (by simpa using hn)).trans h
/-- Twelve cells are written. -/
theorem set_twelve {w : World} {b : Nat} {t : TypeId} {z0 z1 z2 z3 z4 z5 z6 z7 z8 z9 z10 z11 : Value} (h0 : w.heap[b]? = some (.cells #[z0, z1, z2, z3, z4, z5, z6, z7, z8, z9, z10, z11] t (0, 0))) (v0 v1 v2 v3 v4 v5 v6 v7 v8 v9 v10 v11 : Value) :
    ((((((((((((w.setCell ⟨b, 0, none⟩ v0).setCell ⟨b, 1, none⟩ v1).setCell ⟨b, 2, none⟩ v2).setCell ⟨b, 3, none⟩ v3).setCell ⟨b, 4, none⟩ v4).setCell ⟨b, 5, none⟩ v5).setCell ⟨b, 6, none⟩ v6).setCell ⟨b, 7, none⟩ v7).setCell ⟨b, 8, none⟩ v8).setCell ⟨b, 9, none⟩ v9).setCell ⟨b, 10, none⟩ v10).setCell ⟨b, 11, none⟩ v11).heap[b]? = some (.cells #[v0, v1, v2, v3, v4, v5, v6, v7, v8, v9, v10, v11] t (0, 0)) ∧ Sav (Just b) w ((((((((((((w.setCell ⟨b, 0, none⟩ v0).setCell ⟨b, 1, none⟩ v1).setCell ⟨b, 2, none⟩ v2).setCell ⟨b, 3, none⟩ v3).setCell ⟨b, 4, none⟩ v4).setCell ⟨b, 5, none⟩ v5).setCell ⟨b, 6, none⟩ v6).setCell ⟨b, 7, none⟩ v7).setCell ⟨b, 8, none⟩ v8).setCell ⟨b, 9, none⟩ v9).setCell ⟨b, 10, none⟩ v10).setCell ⟨b, 11, none⟩ v11) := by
  refine ⟨?_, (((((((((((((Sav.refl _ w).setCell (just b) 0 v0).setCell (just b) 1 v1).setCell (just b) 2 v2).setCell (just b) 3 v3).setCell (just b) 4 v4).setCell (just b) 5 v5).setCell (just b) 6 v6).setCell (just b) 7 v7).setCell (just b) 8 v8).setCell (just b) 9 v9).setCell (just b) 10 v10).setCell (just b) 11 v11)⟩
  have h1 : (w.setCell ⟨b, 0, none⟩ v0).heap[b]? = some (.cells #[v0, z1, z2, z3, z4, z5, z6, z7, z8, z9, z10, z11] t (0, 0)) := by rw [set_same h0]; simp
  have h2 : ((w.setCell ⟨b, 0, none⟩ v0).setCell ⟨b, 1, none⟩ v1).heap[b]? = some (.cells #[v0, v1, z2, z3, z4, z5, z6, z7, z8, z9, z10, z11] t (0, 0)) := by rw [set_same h1]; simp
  have h3 : (((w.setCell ⟨b, 0, none⟩ v0).setCell ⟨b, 1, none⟩ v1).setCell ⟨b, 2, none⟩ v2).heap[b]? = some (.cells #[v0, v1, v2, z3, z4, z5, z6, z7, z8, z9, z10, z11] t (0, 0)) := by rw [set_same h2]; simp
  have h4 : ((((w.setCell ⟨b, 0, none⟩ v0).setCell ⟨b, 1, none⟩ v1).setCell ⟨b, 2, none⟩ v2).setCell ⟨b, 3, none⟩ v3).heap[b]? = some (.cells #[v0, v1, v2, v3, z4, z5, z6, z7, z8, z9, z10, z11] t (0, 0)) := by rw [set_same h3]; simp
  have h5 : (((((w.setCell ⟨b, 0, none⟩ v0).setCell ⟨b, 1, none⟩ v1).setCell ⟨b, 2, none⟩ v2).setCell ⟨b, 3, none⟩ v3).setCell ⟨b, 4, none⟩ v4).heap[b]? = some (.cells #[v0, v1, v2, v3, v4, z5, z6, z7, z8, z9, z10, z11] t (0, 0)) := by rw [set_same h4]; simp
  have h6 : ((((((w.setCell ⟨b, 0, none⟩ v0).setCell ⟨b, 1, none⟩ v1).setCell ⟨b, 2, none⟩ v2).setCell ⟨b, 3, none⟩ v3).setCell ⟨b, 4, none⟩ v4).setCell ⟨b, 5, none⟩ v5).heap[b]? = some (.cells #[v0, v1, v2, v3, v4, v5, z6, z7, z8, z9, z10, z11] t (0, 0)) := by rw [set_same h5]; simp
  have h7 : (((((((w.setCell ⟨b, 0, none⟩ v0).setCell ⟨b, 1, none⟩ v1).setCell ⟨b, 2, none⟩ v2).setCell ⟨b, 3, none⟩ v3).setCell ⟨b, 4, none⟩ v4).setCell ⟨b, 5, none⟩ v5).setCell ⟨b, 6, none⟩ v6).heap[b]? = some (.cells #[v0, v1, v2, v3, v4, v5, v6, z7, z8, z9, z10, z11] t (0, 0)) := by rw [set_same h6]; simp
  have h8 : ((((((((w.setCell ⟨b, 0, none⟩ v0).setCell ⟨b, 1, none⟩ v1).setCell ⟨b, 2, none⟩ v2).setCell ⟨b, 3, none⟩ v3).setCell ⟨b, 4, none⟩ v4).setCell ⟨b, 5, none⟩ v5).setCell ⟨b, 6, none⟩ v6).setCell ⟨b, 7, none⟩ v7).heap[b]? = some (.cells #[v0, v1, v2, v3, v4, v5, v6, v7, z8, z9, z10, z11] t (0, 0)) := by rw [set_same h7]; simp
  have h9 : (((((((((w.setCell ⟨b, 0, none⟩ v0).setCell ⟨b, 1, none⟩ v1).setCell ⟨b, 2, none⟩ v2).setCell ⟨b, 3, none⟩ v3).setCell ⟨b, 4, none⟩ v4).setCell ⟨b, 5, none⟩ v5).setCell ⟨b, 6, none⟩ v6).setCell ⟨b, 7, none⟩ v7).setCell ⟨b, 8, none⟩ v8).heap[b]? = some (.cells #[v0, v1, v2, v3, v4, v5, v6, v7, v8, z9, z10, z11] t (0, 0)) := by rw [set_same h8]; simp
  have h10 : ((((((((((w.setCell ⟨b, 0, none⟩ v0).setCell ⟨b, 1, none⟩ v1).setCell ⟨b, 2, none⟩ v2).setCell ⟨b, 3, none⟩ v3).setCell ⟨b, 4, none⟩ v4).setCell ⟨b, 5, none⟩ v5).setCell ⟨b, 6, none⟩ v6).setCell ⟨b, 7, none⟩ v7).setCell ⟨b, 8, none⟩ v8).setCell ⟨b, 9, none⟩ v9).heap[b]? = some (.cells #[v0, v1, v2, v3, v4, v5, v6, v7, v8, v9, z10, z11] t (0, 0)) := by rw [set_same h9]; simp
  have h11 : (((((((((((w.setCell ⟨b, 0, none⟩ v0).setCell ⟨b, 1, none⟩ v1).setCell ⟨b, 2, none⟩ v2).setCell ⟨b, 3, none⟩ v3).setCell ⟨b, 4, none⟩ v4).setCell ⟨b, 5, none⟩ v5).setCell ⟨b, 6, none⟩ v6).setCell ⟨b, 7, none⟩ v7).setCell ⟨b, 8, none⟩ v8).setCell ⟨b, 9, none⟩ v9).setCell ⟨b, 10, none⟩ v10).heap[b]? = some (.cells #[v0, v1, v2, v3, v4, v5, v6, v7, v8, v9, v10, z11] t (0, 0)) := by rw [set_same h10]; simp
  have h12 : ((((((((((((w.setCell ⟨b, 0, none⟩ v0).setCell ⟨b, 1, none⟩ v1).setCell ⟨b, 2, none⟩ v2).setCell ⟨b, 3, none⟩ v3).setCell ⟨b, 4, none⟩ v4).setCell ⟨b, 5, none⟩ v5).setCell ⟨b, 6, none⟩ v6).setCell ⟨b, 7, none⟩ v7).setCell ⟨b, 8, none⟩ v8).setCell ⟨b, 9, none⟩ v9).setCell ⟨b, 10, none⟩ v10).setCell ⟨b, 11, none⟩ v11).heap[b]? = some (.cells #[v0, v1, v2, v3, v4, v5, v6, v7, v8, v9, v10, v11] t (0, 0)) := by rw [set_same h11]; simp
  exact h12
theorem results_cell2 {P : Program} {fn : Func} {p u : Tmp} {ty : TypeId} (h : fn.results = #[.cell p ty, .tmp u]) (tmps : Array Value) (w : World) (g : Nat) (t : TypeId) (cs : Array Value) (fr : Nat × Nat) (d : TypeDesc)
    (hp : tmps.getD p undef = .pointer (some ⟨g, 0, none⟩)) (hg : w.heap[g]? = some (.cells cs t fr))
    (hu : P.underlying ty = some d) (hd : (match d with | .struct _ | .array _ _ => true | _ => false) = true) (hi : (P.info? ty).map (·.size) = some cs.size) :
    (results fn tmps).run P w = .ok (.tuple #[.agg cs, tmps.getD u undef]) w := by
  have hp' : tmps[p]?.getD undef = .pointer (some ⟨g, 0, none⟩) := by simpa using hp
  simp [results, h, hp', asAddr, run_loadVar_row w g t ty cs fr d hg hu hd hi]
/-- The box of what is copied, and the answer's. -/
structure Bx (W : World) (A Z : Array Value) (w : World) : Prop where
  box : w.heap[W.heap.size]? = some (.cells A 36 (0, 0))
  ans : w.heap[W.heap.size + 1]? = some (.cells Z 36 (0, 0))
  bel : Below W.heap.size W w
theorem Bx.new (W : World) (A Z : Array Value) : Bx W A Z ((W.alloc (.cells A 36)).alloc (.cells Z 36)) :=
  ⟨((alloc_one (W.alloc (.cells A 36)) _).block _ (by simp)).trans (new_block W _), by have := new_block (W.alloc (.cells A 36)) (.cells Z 36); simpa using this, two_below W _ _⟩
theorem Bx.on {W w w' : World} {A Z : Array Value} (h : Bx W A Z w) (hb : Below w.heap.size w w') : Bx W A Z w' :=
  ⟨(hb.block _ (lt_of_block h.box)).trans h.box, (hb.block _ (lt_of_block h.ans)).trans h.ans, below_then h.bel hb h.bel.size⟩
theorem Bx.put {W w : World} {A Z : Array Value} (h : Bx W A Z w) (j : Nat) (v : Value) : Bx W (A.setIfInBounds j v) Z (w.setCell ⟨W.heap.size, j, none⟩ v) :=
  ⟨set_same h.box, set_two h.ans (by omega), below_set h.bel (Nat.le_refl _)⟩
theorem Bx.cell {W w : World} {A Z : Array Value} (h : Bx W A Z w) (j : Nat) : w.cell? ⟨W.heap.size, j, none⟩ = A[j]? := cell_of_cells h.box
theorem Bx.free {W w : World} {A Z : Array Value} (h : Bx W A Z w) (j : Nat) : w.frozen? ⟨W.heap.size, j, none⟩ = false := free_of_cells h.box
theorem Bx.low {W w : World} {A Z : Array Value} (h : Bx W A Z w) : W.heap.size ≤ w.heap.size := h.bel.size
theorem Bx.size {W w : World} {A Z : Array Value} (h : Bx W A Z w) : W.heap.size + 1 < w.heap.size := lt_of_block h.ans
theorem Bx.keep {W w : World} {A Z : Array Value} {B e s n : Nat} {v : Value} {xs : List Value} (h : Bx W A Z w) (ho : w.ownsRow B e s v n xs) (he : 36 ≠ e) (j : Nat) (u : Value) : (w.setCell ⟨W.heap.size, j, none⟩ u).ownsRow B e s v n xs :=
  owns_sav (S := Just W.heap.size) ho ((Sav.refl _ _).setCell (just _) j u) (fun k hk e1 => owns_ne ho h.box he (by rw [hk]; exact congrArg some e1.symm))
theorem Bx.last {W w w' : World} {A Z : Array Value} {B e s n : Nat} {v : Value} {xs : List Value} (h : Bx W A Z w) (hs : Sav (Just (W.heap.size + 1)) w w') (ho : w.ownsRow B e s v n xs) (he : 36 ≠ e) : w'.ownsRow B e s v n xs :=
  owns_sav ho hs (fun k hk e1 => owns_ne ho h.ans he (by rw [hk]; exact congrArg some e1.symm))
set_option maxHeartbeats 8000000 in
set_option maxRecDepth 100000 in
theorem copied_any (x : LetX) (w : World) (hx : x.Is w) (hs : Sm x.r) :
    Calls Try.prog 28 #[.agg #[.int .i64 x.r.from_, .int .i64 x.r.to_, .int .i64 x.r.kind, .int .i64 x.r.split, .int .i64 x.r.attempt, .int .i64 x.r.part, .int .i64 x.r.seq, .int .i64 x.r.next, .int .i64 x.r.epoch, .int .i64 x.r.reason, .slice x.so x.r.set.length x.sc, .slice x.po x.r.prs.length x.pc]] w fun e w' => ∃ y : LetX, e = .returned (.agg #[.int .i64 y.r.from_, .int .i64 y.r.to_, .int .i64 y.r.kind, .int .i64 y.r.split, .int .i64 y.r.attempt, .int .i64 y.r.part, .int .i64 y.r.seq, .int .i64 y.r.next, .int .i64 y.r.epoch, .int .i64 y.r.reason, .slice y.so y.r.set.length y.sc, .slice y.po y.r.prs.length y.pc]) ∧ y.r = x.r ∧ y.Own w.heap.size w' ∧ Below w.heap.size w w' := by
  obtain ⟨i0, hi, hz0, hz1, hz2⟩ := info_parts Try.info3
  obtain ⟨i1, hp, hy0, hy1, hy2⟩ := info_parts Try.infoP
  have HX := hid hx
  obtain ⟨hs1, hs2⟩ := hs
  have hno1 := hx.1.nothing
  have hno2 := hx.2.nothing
  have H0 := hid (Bx.new w #[.int .i64 x.r.from_, .int .i64 x.r.to_, .int .i64 x.r.kind, .int .i64 x.r.split, .int .i64 x.r.attempt, .int .i64 x.r.part, .int .i64 x.r.seq, .int .i64 x.r.next, .int .i64 x.r.epoch, .int .i64 x.r.reason, .slice x.so x.r.set.length x.sc, .slice x.po x.r.prs.length x.pc] #[.int .i64 zeroX.r.from_, .int .i64 zeroX.r.to_, .int .i64 zeroX.r.kind, .int .i64 zeroX.r.split, .int .i64 zeroX.r.attempt, .int .i64 zeroX.r.part, .int .i64 zeroX.r.seq, .int .i64 zeroX.r.next, .int .i64 zeroX.r.epoch, .int .i64 zeroX.r.reason, .slice zeroX.so zeroX.r.set.length zeroX.sc, .slice zeroX.po zeroX.r.prs.length zeroX.pc])
  clear hx
  go_enter Try.func28, Try.ntmps28
  go_wp2_with (first
    | (at_builtin; refine wpList_append_at_any _ rfl _ _ 31 rfl w.heap.size 3 i0 (.int .i64 0) 1 8 Try.underlying31 hi hz0 hz1 hz2 rfl (by decide) (.slice none 0 0) 0 [] rfl (World.ownsRow_nil _ _ _ _) x.so x.r.set.length x.sc (ict x.r.set) rfl (by rw [ict_length]; omega) hno1 (HX.out.set.news H0.out.bel) (ict_one _) (by unfold maxLen; omega) (by omega) H0.out.low ?_; intro v1 w3 ho1 hg1 hat1; obtain ⟨a1, k1, rfl⟩ := owns_slice ho1; simp only [Nat.zero_add, List.nil_append] at ho1; have H1 := hid (H0.out.on (below_none hg1)); have O1 := hid ho1; have c10 := H1.out.cell 10; have f10 := H1.out.free 10; have H2 := hid (H1.out.put 10 (.slice a1 x.r.set.length k1)); have c11 := H2.out.cell 11; have f11 := H2.out.free 11; clear ho1 hg1 hat1; simp at c10 c11)
    | (at_builtin; refine wpList_append_at_any _ rfl _ _ 32 rfl w.heap.size 80 i1 _ 2 32 Try.underlying32 hp hy0 hy1 hy2 rfl (by decide) (.slice none 0 0) 0 [] rfl (World.ownsRow_nil _ _ _ _) x.po x.r.prs.length x.pc (fl encP x.r.prs) rfl (by rw [fl_length encP_len]) hno2 (Reads.news encP_len (by decide) HX.out.prs H2.out.bel) (fl_one encP_one _) (by unfold maxLen; omega) (by omega) H2.out.low ?_; intro v2 w5 ho2 hg2 hat2; obtain ⟨a2, k2, rfl⟩ := owns_slice ho2; simp only [Nat.zero_add, List.nil_append] at ho2; have H3 := hid (H2.out.on (below_none hg2)); have O2 := hid ho2; have hb2 := below_none hg2; have O1' := hid (owns_below (H1.out.keep O1.out (by decide) 10 (.slice a1 x.r.set.length k1)) hb2); have b0 := H3.out.cell 0; have d0 : w5.cell? ⟨w.heap.size + 1, 0, none⟩ = _ := cell_of_cells (j := 0) H3.out.ans; have b1 := H3.out.cell 1; have d1 : w5.cell? ⟨w.heap.size + 1, 1, none⟩ = _ := cell_of_cells (j := 1) H3.out.ans; have b2 := H3.out.cell 2; have d2 : w5.cell? ⟨w.heap.size + 1, 2, none⟩ = _ := cell_of_cells (j := 2) H3.out.ans; have b3 := H3.out.cell 3; have d3 : w5.cell? ⟨w.heap.size + 1, 3, none⟩ = _ := cell_of_cells (j := 3) H3.out.ans; have b4 := H3.out.cell 4; have d4 : w5.cell? ⟨w.heap.size + 1, 4, none⟩ = _ := cell_of_cells (j := 4) H3.out.ans; have b5 := H3.out.cell 5; have d5 : w5.cell? ⟨w.heap.size + 1, 5, none⟩ = _ := cell_of_cells (j := 5) H3.out.ans; have b6 := H3.out.cell 6; have d6 : w5.cell? ⟨w.heap.size + 1, 6, none⟩ = _ := cell_of_cells (j := 6) H3.out.ans; have b7 := H3.out.cell 7; have d7 : w5.cell? ⟨w.heap.size + 1, 7, none⟩ = _ := cell_of_cells (j := 7) H3.out.ans; have b8 := H3.out.cell 8; have d8 : w5.cell? ⟨w.heap.size + 1, 8, none⟩ = _ := cell_of_cells (j := 8) H3.out.ans; have b9 := H3.out.cell 9; have d9 : w5.cell? ⟨w.heap.size + 1, 9, none⟩ = _ := cell_of_cells (j := 9) H3.out.ans; have b10 := H3.out.cell 10; have d10 : w5.cell? ⟨w.heap.size + 1, 10, none⟩ = _ := cell_of_cells (j := 10) H3.out.ans; have b11 := H3.out.cell 11; have d11 : w5.cell? ⟨w.heap.size + 1, 11, none⟩ = _ := cell_of_cells (j := 11) H3.out.ans; have fb : ∀ j, w5.frozen? ⟨w.heap.size, j, none⟩ = false := fun j => H3.out.free j; have fd : ∀ j, w5.frozen? ⟨w.heap.size + 1, j, none⟩ = false := fun j => free_of_cells H3.out.ans; have H4 := hid (H3.out.put 11 (.slice a2 x.r.prs.length k2)); clear ho2 hg2 hat2 hb2 c11 f11 c10 f10; simp at b0 d0 b1 d1 b2 d2 b3 d3 b4 d4 b5 d5 b6 d6 b7 d7 b8 d8 b9 d9 b10 d10 b11 d11))
  obtain ⟨hblk, hsv⟩ := set_twelve H4.out.ans (.int .i64 x.r.from_) (.int .i64 x.r.to_) (.int .i64 x.r.kind) (.int .i64 x.r.split) (.int .i64 x.r.attempt) (.int .i64 x.r.part) (.int .i64 x.r.seq) (.int .i64 x.r.next) (.int .i64 x.r.epoch) (.int .i64 x.r.reason) (.slice a1 x.r.set.length k1) (.slice a2 x.r.prs.length k2)
  refine bodyPost_ret (results_cell_row rfl _ _ (w.heap.size + 1) 36 _ (0, 0) _ (by rfl) hblk Try.underlying36 rfl (by kernel_rfl)) rfl ?_
  have o1 := H4.out.last hsv (H3.out.keep O1'.out (by decide) 11 (.slice a2 x.r.prs.length k2)) (by decide)
  have o2 := H4.out.last hsv (H3.out.keep O2.out (by decide) 11 (.slice a2 x.r.prs.length k2)) (by decide)
  exact ⟨⟨x.r, a1, k1, a2, k2⟩, rfl, rfl, ⟨o1, o2⟩, H4.out.bel.trans (hsv.below (fun k hk => by rw [show k = w.heap.size + 1 from hk]; omega) H4.out.low)⟩
end Go.Proofs.Ytocedfagfmkgdaa
