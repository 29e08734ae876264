/- OverMessage, OverLetters: what was answered is written over, and nothing else. -/
import Derived.Test.YtocedfagfmkgdaaLtList
namespace Go.Proofs.Ytocedfagfmkgdaa
open Go.RowKit
set_option linter.unusedVariables false

theorem overInts_nil (w : World) : Calls Try.prog 37 #[.slice none 0 0] w fun e w' => e = .returned (.tuple #[]) ∧ w.grownBy w' none := by
  obtain ⟨i0, hi, hz0, hz1, hz2⟩ := info_parts Try.info3
  go_enter Try.func37, Try.ntmps37
  go_wp2
  go_loop [2] (fun i => i = .int .i64 0) (fun _ => 0)
  case atStart => rfl
  case round =>
    subst hrel
    go_wp2_with (at_builtin; refine wpList_append_own _ rfl _ _ 31 rfl w.heap.size 3 i0 (.int .i64 0) 1 8 Try.underlying31 hi hz0 hz1 hz2 rfl (by decide) _ 0 [] rfl ((World.ownsRow_nil _ _ _ _).alloc _) ⟨w.heap.size, 0, none⟩ 1 1 [.int .i64 (-999)] rfl rfl (cell_one_new _ _ _) (by intro u hu; simp at hu; subst hu; rfl) (by unfold maxLen; omega) (by omega) (by simp) ?_; intro v1 w1 ho1 hg1 _)
    go_end0
    exact ⟨rfl, grownBy_trans (grownBy_alloc _ _ _) hg1⟩
theorem overInts_own (n base : Nat) (v : Value) (xs : List Value) (w : World) (ho : w.ownsRow base 3 1 v n xs) (hb : base ≤ w.heap.size) (hn : n ≤ 1000000) :
    Calls Try.prog 37 #[v] w fun e w' => e = .returned (.tuple #[]) ∧ w.grownBy w' v.ownBlock := by
  rcases ho.2 with ⟨rfl, rfl⟩ | ⟨g, cap, cur, rfl, _⟩
  · exact overInts_nil w
  · exact overInts_any g n cap base xs w ho hb (by omega)
set_option maxHeartbeats 4000000 in
theorem overMsg_any (B : Nat) (x : LetX) (w : World) (h : x.Own B w) (hB : B ≤ w.heap.size) (hs : Sm x.r) :
    Calls Try.prog 29 #[.agg #[.int .i64 x.r.kind, .int .i64 x.r.split, .int .i64 x.r.attempt, .int .i64 x.r.part, .int .i64 x.r.seq, .int .i64 x.r.next, .int .i64 x.r.epoch, .int .i64 x.r.reason, .slice x.so x.r.set.length x.sc, .slice x.po x.r.prs.length x.pc]] w fun e w' => e = .returned (.tuple #[]) ∧ ∃ w1, w.grownBy w1 x.sv.ownBlock ∧ w1.grownBy w' x.pv.ownBlock := by
  have hb := alloc_one w (.cells #[.int .i64 x.r.kind, .int .i64 x.r.split, .int .i64 x.r.attempt, .int .i64 x.r.part, .int .i64 x.r.seq, .int .i64 x.r.next, .int .i64 x.r.epoch, .int .i64 x.r.reason, .slice x.so x.r.set.length x.sc, .slice x.po x.r.prs.length x.pc] 34)
  have H := hid (h.below hb)
  have HB := hid hb
  have hbx := new_block w (.cells #[.int .i64 x.r.kind, .int .i64 x.r.split, .int .i64 x.r.attempt, .int .i64 x.r.part, .int .i64 x.r.seq, .int .i64 x.r.next, .int .i64 x.r.epoch, .int .i64 x.r.reason, .slice x.so x.r.set.length x.sc, .slice x.po x.r.prs.length x.pc] 34)
  have HBX := hid hbx
  have hs1 := hs.set
  have hs2 := hs.prs
  have hlow : B ≤ (w.alloc (.cells #[.int .i64 x.r.kind, .int .i64 x.r.split, .int .i64 x.r.attempt, .int .i64 x.r.part, .int .i64 x.r.seq, .int .i64 x.r.next, .int .i64 x.r.epoch, .int .i64 x.r.reason, .slice x.so x.r.set.length x.sc, .slice x.po x.r.prs.length x.pc] 34)).heap.size := Nat.le_trans hB hb.size
  clear h hb hbx
  go_enter Try.func29, Try.ntmps29
  go_wp2_with fail
  refine (overInts_own _ B _ _ _ H.out.set hlow (by omega)).mono ?_
  rintro e w1 ⟨rfl, hg1⟩
  have hbx1 := grown_at H.out.set hg1 HBX.out (by decide)
  have c9 : w1.cell? ⟨w.heap.size, 9, none⟩ = _ := cell_of_cells (j := 9) hbx1
  simp at c9
  have hp1 := owns_grown H.out.prs H.out.set (by decide) hg1
  have hlow1 := Nat.le_trans hlow hg1.size
  have HG := hid (grownBy_trans (grownBy_below HB.out x.sv.ownBlock) hg1)
  clear hbx1 hg1
  go_wp2_with fail
  refine (overPairs_grown _ B _ _ w1 hp1 hlow1 (by omega)).mono ?_
  rintro e w2 ⟨rfl, hg2⟩
  have HG2 := hid hg2
  clear hg2 hp1
  go_wp2
  go_end0
  exact ⟨rfl, w1, HG.out, HG2.out⟩
/-- Letters from the k-th on are as they were. -/
structure OV (B g n cap : Nat) (xs : List LetX) (k : Nat) (W w : World) : Prop where
  row : ∃ ys, w.ownsRow B 36 12 (.slice (some ⟨g, 0, none⟩) n cap) n ys ∧ ys.drop (k * 12) = (fl encL xs).drop (k * 12)
  own : ∀ j x, k ≤ j → xs[j]? = some x → x.Own B w
  bel : Below B W w
  low : B ≤ W.heap.size
theorem OV.size {B g n cap : Nat} {xs : List LetX} {k : Nat} {W w : World} (h : OV B g n cap xs k W w) : B ≤ w.heap.size := Nat.le_trans h.low h.bel.size
theorem row_cell {B g n cap : Nat} {xs : List LetX} {k : Nat} {w : World} {x : LetX} (h : ∃ ys, w.ownsRow B 36 12 (.slice (some ⟨g, 0, none⟩) n cap) n ys ∧ ys.drop (k * 12) = (fl encL xs).drop (k * 12)) (hx : xs[k]? = some x) (hn : xs.length = n) {i : Nat} {u : Value} (hu : (encL x)[i]? = some u) : w.cell? ⟨g, k * 12 + i, none⟩ = some u := by
  obtain ⟨ys, h1, h2⟩ := h
  have hk := (List.getElem?_eq_some_iff.1 hx).1
  have hi := (List.getElem?_eq_some_iff.1 hu).1
  rw [encL_len] at hi
  rw [h1.cellAt (k * 12 + i) (by omega), ← List.getElem?_drop, h2, List.getElem?_drop]
  exact fl_at encL_len xs k i x u hx hu
theorem row_any {B g n cap : Nat} {xs : List LetX} {k : Nat} {w : World} (h : ∃ ys, w.ownsRow B 36 12 (.slice (some ⟨g, 0, none⟩) n cap) n ys ∧ ys.drop (k * 12) = (fl encL xs).drop (k * 12)) {j : Nat} (hj : j < n * 12) : (∃ u, w.cell? ⟨g, j, none⟩ = some u) ∧ w.frozen? ⟨g, j, none⟩ = false := by
  obtain ⟨ys, h1, h2⟩ := h
  exact ⟨owns_cell h1 hj, h1.frozenAt j⟩
/-- The row, behind the first of the k-th letter's lists. -/
theorem OV.row1 {B g n cap : Nat} {xs : List LetX} {k : Nat} {W w w1 : World} {x : LetX} (h : OV B g n cap xs k W w) (hx : xs[k]? = some x) (hg1 : w.grownBy w1 x.sv.ownBlock) : (∃ ys, w1.ownsRow B 36 12 (.slice (some ⟨g, 0, none⟩) n cap) n ys ∧ ys.drop (k * 12) = (fl encL xs).drop (k * 12)) ∧ w1.ownsRow B 80 2 x.pv x.r.prs.length (fl encP x.r.prs) := by
  have hO := h.own k x (Nat.le_refl _) hx
  obtain ⟨ys, h1, h2⟩ := h.row
  exact ⟨⟨ys, owns_grown h1 hO.set (by decide) hg1, h2⟩, owns_grown hO.prs hO.set (by decide) hg1⟩
/-- The k-th letter's lists are written over. -/
theorem OV.lists {B g n cap : Nat} {xs : List LetX} {k : Nat} {W w w1 w2 : World} {x : LetX} (h : OV B g n cap xs k W w) (hx : xs[k]? = some x) (hp : xs.Pairwise LetX.Apart) (hg1 : w.grownBy w1 x.sv.ownBlock) (hg2 : w1.grownBy w2 x.pv.ownBlock) :
    (∃ ys, w2.ownsRow B 36 12 (.slice (some ⟨g, 0, none⟩) n cap) n ys ∧ ys.drop (k * 12) = (fl encL xs).drop (k * 12)) ∧ (∀ j y, k + 1 ≤ j → xs[j]? = some y → y.Own B w2) ∧ Below B W w2 := by
  have hO := h.own k x (Nat.le_refl _) hx
  have hO1 : w1.ownsRow B 80 2 x.pv x.r.prs.length (fl encP x.r.prs) := owns_grown hO.prs hO.set (by decide) hg1
  obtain ⟨ys, h1, h2⟩ := h.row
  have hb1 : Below B W w1 := h.bel.grown hg1 h.size (fun q hq => (hO.set.lt q hq).1)
  refine ⟨⟨ys, owns_grown (owns_grown h1 hO.set (by decide) hg1) hO1 (by decide) hg2, h2⟩, fun j y hj hy => ?_, hb1.grown hg2 (Nat.le_trans h.low hb1.size) (fun q hq => (hO1.lt q hq).1)⟩
  have hY := h.own j y (by omega) hy
  have ha : LetX.Apart x y := by
    rw [List.pairwise_iff_getElem] at hp
    obtain ⟨hk, rfl⟩ := List.getElem?_eq_some_iff.1 hx
    obtain ⟨hj', rfl⟩ := List.getElem?_eq_some_iff.1 hy
    exact hp k j hk hj' (by omega)
  have s1 : w1.ownsRow B 3 1 y.sv y.r.set.length (ict y.r.set) := owns_grown_ne hY.set hg1 (fun q hq e => ha.1 q e hq)
  have p1 : w1.ownsRow B 80 2 y.pv y.r.prs.length (fl encP y.r.prs) := owns_grown hY.prs hO.set (by decide) hg1
  exact ⟨owns_grown s1 hO1 (by decide) hg2, owns_grown_ne p1 hg2 (fun q hq e => ha.2 q e hq)⟩
/-- The k-th letter itself is written over. -/
theorem OV.twelve {B g n cap : Nat} {xs : List LetX} {k : Nat} {W w : World} (h1 : ∃ ys, w.ownsRow B 36 12 (.slice (some ⟨g, 0, none⟩) n cap) n ys ∧ ys.drop (k * 12) = (fl encL xs).drop (k * 12)) (h2 : ∀ j y, k + 1 ≤ j → xs[j]? = some y → y.Own B w) (h3 : Below B W w) (h4 : B ≤ W.heap.size) (v0 v1 v2 v3 v4 v5 v6 v7 v8 v9 v10 v11 : Value) :
    OV B g n cap xs (k + 1) W ((((((((((((w.setCell ⟨g, k * 12, none⟩ v0).setCell ⟨g, k * 12 + 1, none⟩ v1).setCell ⟨g, k * 12 + 2, none⟩ v2).setCell ⟨g, k * 12 + 3, none⟩ v3).setCell ⟨g, k * 12 + 4, none⟩ v4).setCell ⟨g, k * 12 + 5, none⟩ v5).setCell ⟨g, k * 12 + 6, none⟩ v6).setCell ⟨g, k * 12 + 7, none⟩ v7).setCell ⟨g, k * 12 + 8, none⟩ v8).setCell ⟨g, k * 12 + 9, none⟩ v9).setCell ⟨g, k * 12 + 10, none⟩ v10).setCell ⟨g, k * 12 + 11, none⟩ v11) := by
  obtain ⟨ys, r0, e0⟩ := h1
  have r1 := r0.stored (k * 12) v0
  have r2 := r1.1.stored (k * 12 + 1) v1
  have r3 := r2.1.stored (k * 12 + 2) v2
  have r4 := r3.1.stored (k * 12 + 3) v3
  have r5 := r4.1.stored (k * 12 + 4) v4
  have r6 := r5.1.stored (k * 12 + 5) v5
  have r7 := r6.1.stored (k * 12 + 6) v6
  have r8 := r7.1.stored (k * 12 + 7) v7
  have r9 := r8.1.stored (k * 12 + 8) v8
  have r10 := r9.1.stored (k * 12 + 9) v9
  have r11 := r10.1.stored (k * 12 + 10) v10
  have r12 := r11.1.stored (k * 12 + 11) v11
  have hg := grownBy_trans (grownBy_trans (grownBy_trans (grownBy_trans (grownBy_trans (grownBy_trans (grownBy_trans (grownBy_trans (grownBy_trans (grownBy_trans (grownBy_trans r1.2 r2.2) r3.2) r4.2) r5.2) r6.2) r7.2) r8.2) r9.2) r10.2) r11.2) r12.2
  have hgb : B ≤ g := (r0.lt g rfl).1
  obtain ⟨cur, hcur⟩ : ∃ cur, w.heap[g]? = some (.cells cur 36 (0, 0)) := by
    rcases r0.2 with ⟨h', _⟩ | ⟨g', cap', cur, h', _, hg', _⟩
    · cases h'
    · simp only [Value.slice.injEq, Option.some.injEq, Addr.mk.injEq, and_true, true_and] at h'
      obtain ⟨rfl, _⟩ := h'
      exact ⟨cur, hg'⟩
  refine ⟨⟨_, r12.1, ?_⟩, fun j y hj hy => ?_, h3.grown hg (Nat.le_trans h4 h3.size) (fun q hq => by cases hq; exact hgb), h4⟩
  · have e : ys.drop ((k + 1) * 12) = (fl encL xs).drop ((k + 1) * 12) := by
      have := congrArg (List.drop 12) e0
      rwa [List.drop_drop, List.drop_drop, show k * 12 + 12 = (k + 1) * 12 by omega] at this
    rw [← e]
    rw [List.drop_set_of_lt (by omega), List.drop_set_of_lt (by omega), List.drop_set_of_lt (by omega), List.drop_set_of_lt (by omega), List.drop_set_of_lt (by omega), List.drop_set_of_lt (by omega), List.drop_set_of_lt (by omega), List.drop_set_of_lt (by omega), List.drop_set_of_lt (by omega), List.drop_set_of_lt (by omega), List.drop_set_of_lt (by omega), List.drop_set_of_lt (by omega)]
  · have hY := h2 j y hj hy
    exact ⟨owns_grown_ne hY.set hg (fun q hq e => owns_off hY.set hcur (by decide) (hq.trans e.symm)), owns_grown_ne hY.prs hg (fun q hq e => owns_off hY.prs hcur (by decide) (hq.trans e.symm))⟩
set_option maxRecDepth 100000 in
set_option maxHeartbeats 16000000 in
theorem overLetters_any (B : Nat) (xs : List LetX) (u : Value) (W w : World) (h : LRowA B xs u w) (hb : Below B W w) (hl : B ≤ W.heap.size) (hn : xs.length ≤ 1000000) (hm : ∀ x ∈ xs, Sm x.r) :
    Calls Try.prog 18 #[u] w fun e w' => e = .returned (.tuple #[]) ∧ Below B W w' := by
  have HM := hid hm
  clear hm
  rcases h.row.row.2 with ⟨rfl, h0⟩ | ⟨g, cap, cur, rfl, _⟩
  · have HB := hid hb
    clear h hb
    go_enter Try.func18, Try.ntmps18
    go_wp2
    go_loop [2] (fun i => i = .int .i64 0) (fun _ => 0)
    case atStart => rfl
    case round =>
      subst hrel
      go_wp2
      go_end0
      exact ⟨rfl, HB.out⟩
  · obtain ⟨n, hxn⟩ : ∃ n, xs.length = n := ⟨_, rfl⟩
    have HN := hid hxn
    have H0 := hid (show OV B g n cap xs 0 W w from ⟨⟨_, by have := h.row.row; rw [hxn] at this; exact this, rfl⟩, fun j x _ hx => h.row.own x (List.mem_of_getElem? hx), hb, hl⟩)
    have HP := hid h.apart
    have hcap : n ≤ 9223372036854775807 := by omega
    rw [hxn]
    clear h hb hxn
    go_enter Try.func18, Try.ntmps18
    go_wp2
    go_loopw [2] (fun i wr => ∃ k : Nat, k ≤ n ∧ i = .int .i64 k ∧ OV B g n cap xs k W wr) (fun i _ => n - (intOf i).toNat)
    case atStart => exact ⟨0, by omega, rfl, H0.out⟩
    case round =>
      obtain ⟨k, hk, rfl, ho⟩ := hrel
      have HO := hid ho
      clear ho H0
      by_cases hlt : k < n
      · have hd : decide ((k : Int) < (n : Int)) = true := by simp; omega
        obtain ⟨x, hx⟩ : ∃ x, xs[k]? = some x := ⟨_, List.getElem?_eq_getElem (by rw [HN.out]; exact hlt)⟩
        have HX := hid hx
        have hfit := HM.out x (List.mem_of_getElem? hx)
        have HF := hid hfit
        clear hx hfit
        have c2 : wr.cell? ⟨g, k * 12 + 2, none⟩ = some (.int .i64 x.r.kind) := row_cell HO.out.row HX.out HN.out (i := 2) rfl
        have c3 : wr.cell? ⟨g, k * 12 + 3, none⟩ = some (.int .i64 x.r.split) := row_cell HO.out.row HX.out HN.out (i := 3) rfl
        have c4 : wr.cell? ⟨g, k * 12 + 4, none⟩ = some (.int .i64 x.r.attempt) := row_cell HO.out.row HX.out HN.out (i := 4) rfl
        have c5 : wr.cell? ⟨g, k * 12 + 5, none⟩ = some (.int .i64 x.r.part) := row_cell HO.out.row HX.out HN.out (i := 5) rfl
        have c6 : wr.cell? ⟨g, k * 12 + 6, none⟩ = some (.int .i64 x.r.seq) := row_cell HO.out.row HX.out HN.out (i := 6) rfl
        have c7 : wr.cell? ⟨g, k * 12 + 7, none⟩ = some (.int .i64 x.r.next) := row_cell HO.out.row HX.out HN.out (i := 7) rfl
        have c8 : wr.cell? ⟨g, k * 12 + 8, none⟩ = some (.int .i64 x.r.epoch) := row_cell HO.out.row HX.out HN.out (i := 8) rfl
        have c9 : wr.cell? ⟨g, k * 12 + 9, none⟩ = some (.int .i64 x.r.reason) := row_cell HO.out.row HX.out HN.out (i := 9) rfl
        have c10 : wr.cell? ⟨g, k * 12 + 10, none⟩ = some (.slice x.so x.r.set.length x.sc) := row_cell HO.out.row HX.out HN.out (i := 10) rfl
        have c11 : wr.cell? ⟨g, k * 12 + 11, none⟩ = some (.slice x.po x.r.prs.length x.pc) := row_cell HO.out.row HX.out HN.out (i := 11) rfl
        go_wp2_with fail
        refine (overMsg_any B x wr (HO.out.own k x (Nat.le_refl _) HX.out) HO.out.size HF.out).mono ?_
        rintro e w2 ⟨rfl, w1, hg1, hg2⟩
        obtain ⟨hr2, ho2, hb2⟩ := HO.out.lists HX.out HP.out hg1 hg2
        have R2 := hid hr2
        have HO3 := hid (fun v0 v1 v2 v3 v4 v5 v6 v7 v8 v9 v10 v11 => OV.twelve hr2 ho2 hb2 hl v0 v1 v2 v3 v4 v5 v6 v7 v8 v9 v10 v11)
        clear hg1 hg2 hr2 ho2 hb2 c2 c3 c4 c5 c6 c7 c8 c9 c10 c11
        obtain ⟨⟨t0, ht0⟩, hf0⟩ := row_any R2.out (j := k * 12) (by omega)
        obtain ⟨⟨t1, ht1⟩, hf1⟩ := row_any R2.out (j := k * 12 + 1) (by omega)
        obtain ⟨⟨t2, ht2⟩, hf2⟩ := row_any R2.out (j := k * 12 + 2) (by omega)
        obtain ⟨⟨t3, ht3⟩, hf3⟩ := row_any R2.out (j := k * 12 + 3) (by omega)
        obtain ⟨⟨t4, ht4⟩, hf4⟩ := row_any R2.out (j := k * 12 + 4) (by omega)
        obtain ⟨⟨t5, ht5⟩, hf5⟩ := row_any R2.out (j := k * 12 + 5) (by omega)
        obtain ⟨⟨t6, ht6⟩, hf6⟩ := row_any R2.out (j := k * 12 + 6) (by omega)
        obtain ⟨⟨t7, ht7⟩, hf7⟩ := row_any R2.out (j := k * 12 + 7) (by omega)
        obtain ⟨⟨t8, ht8⟩, hf8⟩ := row_any R2.out (j := k * 12 + 8) (by omega)
        obtain ⟨⟨t9, ht9⟩, hf9⟩ := row_any R2.out (j := k * 12 + 9) (by omega)
        obtain ⟨⟨t10, ht10⟩, hf10⟩ := row_any R2.out (j := k * 12 + 10) (by omega)
        obtain ⟨⟨t11, ht11⟩, hf11⟩ := row_any R2.out (j := k * 12 + 11) (by omega)
        go_wp2
        go_roundw
        case rel => exact ⟨k + 1, by omega, by go_num, HO3.out _ _ _ _ _ _ _ _ _ _ _ _⟩
        case measure => simp [intOf]; omega
      · have hd : decide ((k : Int) < (n : Int)) = false := by simp; omega
        go_wp2
        go_end0
        exact ⟨rfl, HO.out.bel⟩
end Go.Proofs.Ytocedfagfmkgdaa
