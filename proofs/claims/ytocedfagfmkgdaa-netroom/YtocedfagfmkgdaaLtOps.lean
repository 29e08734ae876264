/- put where there is no room; Double; Take. -/
import Derived.Test.YtocedfagfmkgdaaLtNet
import Derived.Test.YtocedfagfmkgdaaLtMath
namespace Go.Proofs.Ytocedfagfmkgdaa
open Go.RowKit
set_option linter.unusedVariables false

theorem plain_snoc (xs : List LetX) (y : LetX) : plain (xs ++ [y]) = plain xs ++ [y.r] := by simp [plain]
theorem plain_out (xs : List LetX) (k : Nat) : plain (outL xs k) = outN (plain xs) k := map_outN _ _ _
theorem plain_none {xs : List LetX} {k : Nat} (h : (plain xs)[k]? = none) : xs.length ≤ k := by
  rw [← plain_len xs]
  exact List.getElem?_eq_none_iff.1 h
theorem place_eq (xs : List LetX) (i : Int) : placeX xs i = placeN (plain xs) i := by unfold placeX placeN; rw [plain_len]
theorem Next.refl (w : World) (u : Value) : Next w u u := .inl rfl
/-- A new state of the net: its letters, what has turned, where its row lies. -/
def Turns (B b : Nat) (u : Value) (l : List LetV) (w w' : World) : Prop := ∃ u' ys, plain ys = l ∧ Nt B b u' ys w' ∧ Sav (Ow b u) w w' ∧ Next w u u'
theorem Turns.stay {B b : Nat} {u : Value} {xs : List LetX} {w w' : World} (h : Nt B b u xs w) (hb : Below w.heap.size w w') : Turns B b u (plain xs) w w' := ⟨u, xs, rfl, h.below hb, Sav.of_below hb, .inl rfl⟩
theorem Turns.late {B b : Nat} {u : Value} {l : List LetV} {w w1 w' : World} (hb : Below w.heap.size w w1) (h : Turns B b u l w1 w') : Turns B b u l w w' := by
  obtain ⟨u', ys, h1, h2, h3, h4⟩ := h
  exact ⟨u', ys, h1, h2, (Sav.of_below hb).trans h3, h4.elim .inl (fun e => .inr (fun k hk => Nat.le_trans hb.size (e k hk)))⟩
set_option maxHeartbeats 4000000 in
theorem put_full (B b : Nat) (u : Value) (xs : List LetX) (x : LetX) (w : World) (h : Nt B b u xs w) (hf : 128 ≤ xs.length) :
    Calls Try.prog 22 #[.pointer (some ⟨b, 0, none⟩), .agg #[.int .i64 x.r.from_, .int .i64 x.r.to_, .int .i64 x.r.kind, .int .i64 x.r.split, .int .i64 x.r.attempt, .int .i64 x.r.part, .int .i64 x.r.seq, .int .i64 x.r.next, .int .i64 x.r.epoch, .int .i64 x.r.reason, .slice x.so x.r.set.length x.sc, .slice x.po x.r.prs.length x.pc]] w fun e w' => e = .returned (.bool false) ∧ Below w.heap.size w w' := by
  obtain ⟨ao, cap, rfl⟩ := h.slice
  have hb := alloc_one w (.cells #[.int .i64 x.r.from_, .int .i64 x.r.to_, .int .i64 x.r.kind, .int .i64 x.r.split, .int .i64 x.r.attempt, .int .i64 x.r.part, .int .i64 x.r.seq, .int .i64 x.r.next, .int .i64 x.r.epoch, .int .i64 x.r.reason, .slice x.so x.r.set.length x.sc, .slice x.po x.r.prs.length x.pc] 36)
  have c0 := (h.below hb).c0
  have hfew := h.few
  have HB := hid hb
  have hd : decide ((128 : Int) ≤ (xs.length : Int)) = true := by simp; omega
  clear h hb
  go_enter Try.func22, Try.ntmps22
  go_wp2
  go_ret
  exact ⟨rfl, HB.out⟩
theorem double_nil (i : Int) (w : World) : Calls Try.prog 14 #[.pointer none, .int .i64 i] w fun e w' => e = .returned (.bool false) ∧ w = w' := by
  go_enter Try.func14, Try.ntmps14
  go_wp2_with fail
  refine (hasN_nil i w).mono ?_
  rintro e w1 ⟨rfl, rfl⟩
  go_wp2
  go_ret
  exact ⟨rfl, rfl⟩
set_option maxHeartbeats 8000000 in
theorem double_net (B b : Nat) (u : Value) (xs : List LetX) (i : Int) (w : World) (h : Nt B b u xs w) :
    Calls Try.prog 14 #[.pointer (some ⟨b, 0, none⟩), .int .i64 i] w fun e w' => e = .returned (.bool (okD (plain xs) i)) ∧ Turns B b u (dblN (plain xs) i) w w' := by
  have H := hid h
  obtain ⟨g, hg⟩ : ∃ g, placeX xs i = g := ⟨_, rfl⟩
  have HG := hid hg
  cases g
  · have hN := dblN_none (l := plain xs) (i := i) (by rw [← place_eq]; exact hg)
    rw [hN.1, hN.2]
    clear h hN
    go_enter Try.func14, Try.ntmps14
    go_wp2_with fail
    refine (has_net B b u xs i w H.out).mono ?_
    rintro e w1 ⟨rfl, rfl⟩
    rw [HG.out]
    go_wp2
    go_ret
    exact ⟨rfl, Turns.stay H.out (Below.refl _ _)⟩
  · obtain ⟨k, rfl, hk⟩ := placeN_yes (by rw [← place_eq]; exact hg)
    rw [plain_len] at hk
    obtain ⟨ao, cap, rfl⟩ := h.slice
    have c0 := h.c0
    obtain ⟨p, po1, x, hx, rfl, hp, hix, q0, q1, q2, q3, q4, q5, q6, q7, q8, q9, qa, qb⟩ := h.row.lets.cell hk
    have HX := hid hx
    have HI := hid hix
    have hki : (k : Int) < (xs.length : Int) := by omega
    have hfew := h.few
    by_cases hr : xs.length < 128
    · have hN := dblN_yes (plain_at hx) (by rw [plain_len]; exact hr)
      rw [hN.1, hN.2]
      clear h hN hg hx hix
      go_enter Try.func14, Try.ntmps14
      go_wp2_with fail
      refine (has_net B b _ xs k w H.out).mono ?_
      rintro e w1 ⟨rfl, rfl⟩
      rw [HG.out]
      go_wp2_with fail
      refine (put_net B b _ xs x w H.out HI.out (H.out.sm x (List.mem_of_getElem? HX.out)) hr).mono ?_
      rintro e w2 ⟨rfl, u', y, hy, hn, hs, hnx⟩
      have HT := hid (show Turns B b (.slice (some ⟨p, po1, none⟩) xs.length cap) (plain xs ++ [x.r]) w w2 from ⟨u', _, by rw [plain_snoc, hy], hn, hs, hnx⟩)
      clear hn hs hnx hy
      go_wp2
      go_ret
      exact ⟨rfl, HT.out⟩
    · have hN := dblN_full (l := plain xs) (i := k) (by rw [plain_len]; omega)
      rw [hN.1, hN.2]
      clear h hN hg hx hix
      go_enter Try.func14, Try.ntmps14
      go_wp2_with fail
      refine (has_net B b _ xs k w H.out).mono ?_
      rintro e w1 ⟨rfl, rfl⟩
      rw [HG.out]
      go_wp2_with fail
      refine (put_full B b _ xs x w H.out (by omega)).mono ?_
      rintro e w2 ⟨rfl, hb2⟩
      have HT := hid (Turns.stay H.out hb2)
      clear hb2
      go_wp2
      go_ret
      exact ⟨rfl, HT.out⟩

/-! ### Take -/
theorem take_nil (i : Int) (w : World) : Calls Try.prog 11 #[.pointer none, .int .i64 i] w fun e w' => e = .returned (.tuple #[.agg #[.int .i64 zeroX.r.from_, .int .i64 zeroX.r.to_, .int .i64 zeroX.r.kind, .int .i64 zeroX.r.split, .int .i64 zeroX.r.attempt, .int .i64 zeroX.r.part, .int .i64 zeroX.r.seq, .int .i64 zeroX.r.next, .int .i64 zeroX.r.epoch, .int .i64 zeroX.r.reason, .slice zeroX.so zeroX.r.set.length zeroX.sc, .slice zeroX.po zeroX.r.prs.length zeroX.pc], .bool false]) ∧ Below w.heap.size w w' := by
  have hr0 : (w.alloc (.cells #[.int .i64 zeroX.r.from_, .int .i64 zeroX.r.to_, .int .i64 zeroX.r.kind, .int .i64 zeroX.r.split, .int .i64 zeroX.r.attempt, .int .i64 zeroX.r.part, .int .i64 zeroX.r.seq, .int .i64 zeroX.r.next, .int .i64 zeroX.r.epoch, .int .i64 zeroX.r.reason, .slice zeroX.so zeroX.r.set.length zeroX.sc, .slice zeroX.po zeroX.r.prs.length zeroX.pc] 36)).heap[w.heap.size]? = _ := new_block w (.cells #[.int .i64 zeroX.r.from_, .int .i64 zeroX.r.to_, .int .i64 zeroX.r.kind, .int .i64 zeroX.r.split, .int .i64 zeroX.r.attempt, .int .i64 zeroX.r.part, .int .i64 zeroX.r.seq, .int .i64 zeroX.r.next, .int .i64 zeroX.r.epoch, .int .i64 zeroX.r.reason, .slice zeroX.so zeroX.r.set.length zeroX.sc, .slice zeroX.po zeroX.r.prs.length zeroX.pc] 36)
  have HR0 := hid hr0
  have HB := hid (alloc_one w (.cells #[.int .i64 zeroX.r.from_, .int .i64 zeroX.r.to_, .int .i64 zeroX.r.kind, .int .i64 zeroX.r.split, .int .i64 zeroX.r.attempt, .int .i64 zeroX.r.part, .int .i64 zeroX.r.seq, .int .i64 zeroX.r.next, .int .i64 zeroX.r.epoch, .int .i64 zeroX.r.reason, .slice zeroX.so zeroX.r.set.length zeroX.sc, .slice zeroX.po zeroX.r.prs.length zeroX.pc] 36))
  clear hr0
  go_enter Try.func11, Try.ntmps11
  go_wp2_with fail
  refine (hasN_nil i _).mono ?_
  rintro e w1 ⟨rfl, rfl⟩
  go_wp2
  refine bodyPost_ret (results_cell2 rfl _ _ w.heap.size 36 _ (0, 0) _ (by rfl) HR0.out Try.underlying36 rfl (by kernel_rfl)) rfl ?_
  exact ⟨rfl, HB.out⟩
/-- What Take answers. -/
def Took (B : Nat) (r : LetV) (ok : Bool) (e : Ending) (w' : World) : Prop := ∃ y : LetX, e = .returned (.tuple #[.agg #[.int .i64 y.r.from_, .int .i64 y.r.to_, .int .i64 y.r.kind, .int .i64 y.r.split, .int .i64 y.r.attempt, .int .i64 y.r.part, .int .i64 y.r.seq, .int .i64 y.r.next, .int .i64 y.r.epoch, .int .i64 y.r.reason, .slice y.so y.r.set.length y.sc, .slice y.po y.r.prs.length y.pc], .bool ok]) ∧ y.r = r ∧ y.Own B w'
set_option maxHeartbeats 8000000 in
set_option maxRecDepth 100000 in
theorem take_net (B b : Nat) (u : Value) (xs : List LetX) (i : Int) (w : World) (h : Nt B b u xs w) :
    Calls Try.prog 11 #[.pointer (some ⟨b, 0, none⟩), .int .i64 i] w fun e w' => Took B (tookN zeroL (plain xs) i) (placeN (plain xs) i) e w' ∧ Turns B b u (leftN (plain xs) i) w w' := by
  have HB := hid (alloc_one w (.cells #[.int .i64 zeroX.r.from_, .int .i64 zeroX.r.to_, .int .i64 zeroX.r.kind, .int .i64 zeroX.r.split, .int .i64 zeroX.r.attempt, .int .i64 zeroX.r.part, .int .i64 zeroX.r.seq, .int .i64 zeroX.r.next, .int .i64 zeroX.r.epoch, .int .i64 zeroX.r.reason, .slice zeroX.so zeroX.r.set.length zeroX.sc, .slice zeroX.po zeroX.r.prs.length zeroX.pc] 36))
  have H := hid (h.below HB.out)
  have hr0 : (w.alloc (.cells #[.int .i64 zeroX.r.from_, .int .i64 zeroX.r.to_, .int .i64 zeroX.r.kind, .int .i64 zeroX.r.split, .int .i64 zeroX.r.attempt, .int .i64 zeroX.r.part, .int .i64 zeroX.r.seq, .int .i64 zeroX.r.next, .int .i64 zeroX.r.epoch, .int .i64 zeroX.r.reason, .slice zeroX.so zeroX.r.set.length zeroX.sc, .slice zeroX.po zeroX.r.prs.length zeroX.pc] 36)).heap[w.heap.size]? = _ := new_block w (.cells #[.int .i64 zeroX.r.from_, .int .i64 zeroX.r.to_, .int .i64 zeroX.r.kind, .int .i64 zeroX.r.split, .int .i64 zeroX.r.attempt, .int .i64 zeroX.r.part, .int .i64 zeroX.r.seq, .int .i64 zeroX.r.next, .int .i64 zeroX.r.epoch, .int .i64 zeroX.r.reason, .slice zeroX.so zeroX.r.set.length zeroX.sc, .slice zeroX.po zeroX.r.prs.length zeroX.pc] 36)
  have HR0 := hid hr0
  clear hr0
  obtain ⟨g, hg⟩ : ∃ g, placeX xs i = g := ⟨_, rfl⟩
  have HG := hid hg
  cases g
  · have hp : placeN (plain xs) i = false := by rw [← place_eq]; exact hg
    have hN := tookN_no (d := zeroL) hp
    rw [hN.1, hN.2, hp]
    clear hN hg hp
    have H0 := hid h
    clear h
    go_enter Try.func11, Try.ntmps11
    go_wp2_with fail
    refine (has_net B b u xs i _ H.out).mono ?_
    rintro e w1 ⟨rfl, rfl⟩
    rw [HG.out]
    go_wp2
    refine bodyPost_ret (results_cell2 rfl _ _ w.heap.size 36 _ (0, 0) _ (by rfl) HR0.out Try.underlying36 rfl (by kernel_rfl)) rfl ?_
    exact ⟨⟨zeroX, rfl, rfl, ⟨World.ownsRow_nil _ _ _ _, World.ownsRow_nil _ _ _ _⟩⟩, Turns.stay H0.out HB.out⟩
  · obtain ⟨k, rfl, hk⟩ := placeN_yes (by rw [← place_eq]; exact hg)
    rw [plain_len] at hk
    obtain ⟨gg, cap, rfl⟩ : ∃ gg cap, u = .slice (some ⟨gg, 0, none⟩) xs.length cap := by
      rcases h.row.row.2 with ⟨_, h0⟩ | ⟨gg, cap, cur, rfl, _⟩
      · omega
      · exact ⟨_, _, rfl⟩
    obtain ⟨p, po1, x, hx, e1, hp, hix, q0, q1, q2, q3, q4, q5, q6, q7, q8, q9, qa, qb⟩ := H.out.row.lets.cell hk
    cases e1
    simp only [Nat.zero_add] at q0 q1 q2 q3 q4 q5 q6 q7 q8 q9 qa qb
    have c0 := H.out.c0
    have hgg : gg < w.heap.size := (h.row.row.lt gg rfl).2
    have hbw : b < w.heap.size := h.lt
    have n1 : ¬ b = w.heap.size := by omega
    have n2 : ¬ b = w.heap.size + 1 := by omega
    have n3 : ¬ w.heap.size = b := by omega
    have n4 : ¬ w.heap.size + 1 = b := by omega
    have hfew := h.few
    have H0 := hid h
    have hN := tookN_yes (d := zeroL) (plain_at hx)
    rw [hN.1, hN.2.1, hN.2.2]
    have HX := hid hx
    have hki : (k : Int) < (xs.length : Int) := by omega
    clear h hN hg hx hix
    go_enter Try.func11, Try.ntmps11
    go_wp2_with fail
    refine (has_net B b _ xs k _ H.out).mono ?_
    rintro e w1 ⟨rfl, rfl⟩
    rw [HG.out]
    have H2 := hid (H.out.below (alloc_one _ (.cells #[.int .i64 x.r.from_, .int .i64 x.r.to_, .int .i64 x.r.kind, .int .i64 x.r.split, .int .i64 x.r.attempt, .int .i64 x.r.part, .int .i64 x.r.seq, .int .i64 x.r.next, .int .i64 x.r.epoch, .int .i64 x.r.reason, .slice x.so x.r.set.length x.sc, .slice x.po x.r.prs.length x.pc] 36)))
    have dd0 := H2.out.c0
    go_wp2_with fail
    rw [show (k : Int) + 1 = ((k + 1 : Nat) : Int) from rfl]
    refine (delete_any B gg xs.length cap k (k + 1) xs _ H2.out.row rfl hk rfl).mono ?_
    rintro e w3 ⟨rfl, hr, hg3⟩
    have HR := hid hr
    have HG3 := hid hg3
    have hs3 := hg3.size
    simp only [World.size_alloc] at hs3
    have hob := hid (grown_at (v := (.slice (some ⟨gg, 0, none⟩) xs.length cap)) H2.out.row.row hg3 H2.out.obj (by decide))
    have hr3 : w3.heap[w.heap.size]? = some (.cells #[.int .i64 zeroX.r.from_, .int .i64 zeroX.r.to_, .int .i64 zeroX.r.kind, .int .i64 zeroX.r.split, .int .i64 zeroX.r.attempt, .int .i64 zeroX.r.part, .int .i64 zeroX.r.seq, .int .i64 zeroX.r.next, .int .i64 zeroX.r.epoch, .int .i64 zeroX.r.reason, .slice zeroX.so zeroX.r.set.length zeroX.sc, .slice zeroX.po zeroX.r.prs.length zeroX.pc] 36 (0, 0)) := (hg3.block _ (by simp; omega) (by simp; omega)).trans (((alloc_one _ _).block _ (by simp)).trans HR0.out)
    have hx3 : w3.heap[w.heap.size + 1]? = some (.cells #[.int .i64 x.r.from_, .int .i64 x.r.to_, .int .i64 x.r.kind, .int .i64 x.r.split, .int .i64 x.r.attempt, .int .i64 x.r.part, .int .i64 x.r.seq, .int .i64 x.r.next, .int .i64 x.r.epoch, .int .i64 x.r.reason, .slice x.so x.r.set.length x.sc, .slice x.po x.r.prs.length x.pc] 36 (0, 0)) := (hg3.block _ (by simp) (by simp; omega)).trans (by have := new_block (w.alloc (.cells #[.int .i64 zeroX.r.from_, .int .i64 zeroX.r.to_, .int .i64 zeroX.r.kind, .int .i64 zeroX.r.split, .int .i64 zeroX.r.attempt, .int .i64 zeroX.r.part, .int .i64 zeroX.r.seq, .int .i64 zeroX.r.next, .int .i64 zeroX.r.epoch, .int .i64 zeroX.r.reason, .slice zeroX.so zeroX.r.set.length zeroX.sc, .slice zeroX.po zeroX.r.prs.length zeroX.pc] 36)) (.cells #[.int .i64 x.r.from_, .int .i64 x.r.to_, .int .i64 x.r.kind, .int .i64 x.r.split, .int .i64 x.r.attempt, .int .i64 x.r.part, .int .i64 x.r.seq, .int .i64 x.r.next, .int .i64 x.r.epoch, .int .i64 x.r.reason, .slice x.so x.r.set.length x.sc, .slice x.po x.r.prs.length x.pc] 36); simpa using this)
    have b0 : w3.cell? ⟨w.heap.size + 1, 0, none⟩ = _ := cell_of_cells (j := 0) hx3
    have d0 : w3.cell? ⟨w.heap.size, 0, none⟩ = _ := cell_of_cells (j := 0) hr3
    have b1 : w3.cell? ⟨w.heap.size + 1, 1, none⟩ = _ := cell_of_cells (j := 1) hx3
    have d1 : w3.cell? ⟨w.heap.size, 1, none⟩ = _ := cell_of_cells (j := 1) hr3
    have b2 : w3.cell? ⟨w.heap.size + 1, 2, none⟩ = _ := cell_of_cells (j := 2) hx3
    have d2 : w3.cell? ⟨w.heap.size, 2, none⟩ = _ := cell_of_cells (j := 2) hr3
    have b3 : w3.cell? ⟨w.heap.size + 1, 3, none⟩ = _ := cell_of_cells (j := 3) hx3
    have d3 : w3.cell? ⟨w.heap.size, 3, none⟩ = _ := cell_of_cells (j := 3) hr3
    have b4 : w3.cell? ⟨w.heap.size + 1, 4, none⟩ = _ := cell_of_cells (j := 4) hx3
    have d4 : w3.cell? ⟨w.heap.size, 4, none⟩ = _ := cell_of_cells (j := 4) hr3
    have b5 : w3.cell? ⟨w.heap.size + 1, 5, none⟩ = _ := cell_of_cells (j := 5) hx3
    have d5 : w3.cell? ⟨w.heap.size, 5, none⟩ = _ := cell_of_cells (j := 5) hr3
    have b6 : w3.cell? ⟨w.heap.size + 1, 6, none⟩ = _ := cell_of_cells (j := 6) hx3
    have d6 : w3.cell? ⟨w.heap.size, 6, none⟩ = _ := cell_of_cells (j := 6) hr3
    have b7 : w3.cell? ⟨w.heap.size + 1, 7, none⟩ = _ := cell_of_cells (j := 7) hx3
    have d7 : w3.cell? ⟨w.heap.size, 7, none⟩ = _ := cell_of_cells (j := 7) hr3
    have b8 : w3.cell? ⟨w.heap.size + 1, 8, none⟩ = _ := cell_of_cells (j := 8) hx3
    have d8 : w3.cell? ⟨w.heap.size, 8, none⟩ = _ := cell_of_cells (j := 8) hr3
    have b9 : w3.cell? ⟨w.heap.size + 1, 9, none⟩ = _ := cell_of_cells (j := 9) hx3
    have d9 : w3.cell? ⟨w.heap.size, 9, none⟩ = _ := cell_of_cells (j := 9) hr3
    have b10 : w3.cell? ⟨w.heap.size + 1, 10, none⟩ = _ := cell_of_cells (j := 10) hx3
    have d10 : w3.cell? ⟨w.heap.size, 10, none⟩ = _ := cell_of_cells (j := 10) hr3
    have b11 : w3.cell? ⟨w.heap.size + 1, 11, none⟩ = _ := cell_of_cells (j := 11) hx3
    have d11 : w3.cell? ⟨w.heap.size, 11, none⟩ = _ := cell_of_cells (j := 11) hr3
    simp at b0 d0 b1 d1 b2 d2 b3 d3 b4 d4 b5 d5 b6 d6 b7 d7 b8 d8 b9 d9 b10 d10 b11 d11
    have fd : ∀ j, w3.frozen? ⟨w.heap.size, j, none⟩ = false := fun j => free_of_cells hr3
    have e0 : w3.cell? ⟨b, 0, none⟩ = _ := cell_of_cells (j := 0) hob.out
    have f0 : w3.frozen? ⟨b, 0, none⟩ = false := free_of_cells hob.out
    simp at e0
    have HR3 := hid hr3
    have HXO := hid ((H2.out.row.own x (List.mem_of_getElem? HX.out)).grown H2.out.row.row hg3)
    clear hr hg3 hr3 hx3 c0 dd0 q0 q1 q2 q3 q4 q5 q6 q7 q8 q9 qa qb
    go_wp2
    have hN4 := Nt.put hob.out HR.out (Nat.le_trans H2.out.low HG3.out.size) (by rw [outL_length hk]; omega) (fun z hz => H0.out.sm z (by
      unfold outL at hz
      rcases List.mem_append.1 hz with e | e
      · exact List.mem_of_mem_take e
      · exact List.mem_of_mem_drop e))
    have hx4 : x.Own B (w3.setCell ⟨b, 0, none⟩ (.slice (some ⟨gg, 0, none⟩) (xs.length - 1) cap)) := HXO.out.tag ((Sav.refl (Just b) _).setCell (just b) 0 _) (fun q cs t f hq hc => by
      rw [show q = b from hq, hob.out] at hc
      cases hc
      exact ⟨by decide, by decide⟩)
    have hr4 := set_two (j := 0) (v := .slice (some ⟨gg, 0, none⟩) (xs.length - 1) cap) HR3.out n3
    obtain ⟨hblk, hsv⟩ := set_twelve hr4 (.int .i64 x.r.from_) (.int .i64 x.r.to_) (.int .i64 x.r.kind) (.int .i64 x.r.split) (.int .i64 x.r.attempt) (.int .i64 x.r.part) (.int .i64 x.r.seq) (.int .i64 x.r.next) (.int .i64 x.r.epoch) (.int .i64 x.r.reason) (.slice x.so x.r.set.length x.sc) (.slice x.po x.r.prs.length x.pc)
    have htag : ∀ q cs t f, Just w.heap.size q → (w3.setCell ⟨b, 0, none⟩ (.slice (some ⟨gg, 0, none⟩) (xs.length - 1) cap)).heap[q]? = some (.cells cs t f) → t ≠ 3 ∧ t ≠ 80 := fun q cs t f hq hc => by
      rw [show q = w.heap.size from hq, hr4] at hc
      cases hc
      exact ⟨by decide, by decide⟩
    refine bodyPost_ret (results_cell2 rfl _ _ w.heap.size 36 _ (0, 0) _ (by rfl) hblk Try.underlying36 rfl (by kernel_rfl)) rfl ?_
    refine ⟨⟨x, rfl, rfl, hx4.tag hsv htag⟩, _, _, plain_out xs k, hN4.sav hsv n1 (fun q hq e => ?_) htag, ?_, .inl rfl⟩
    · cases hq
      exact absurd (show gg = w.heap.size from e) (by omega)
    · have s1 : Sav (Ow b (.slice (some ⟨gg, 0, none⟩) xs.length cap)) w w3 := (((Sav.refl _ w).alloc _).alloc _).trans (Sav.grown HG3.out (fun q hq => .inr hq))
      exact (s1.setCell (.inl rfl) 0 _).then hsv (fun q hq e => absurd (show q = w.heap.size from e) (by omega))
end Go.Proofs.Ytocedfagfmkgdaa
