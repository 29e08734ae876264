/- A net as it lies in memory; New, Len, has, put. -/
import Derived.Test.YtocedfagfmkgdaaLtCopy
import Derived.Test.YtocedfagfmkgdaaLtDel
import Derived.Test.YtocedfagfmkgdaaHeldBy
namespace Go.Proofs.Ytocedfagfmkgdaa
open Go.RowKit
set_option linter.unusedVariables false

/-- The object, and where its letters lie. -/
def Ow (b : Nat) (v : Value) (k : Nat) : Prop := k = b ∨ v.ownBlock = some k
/-- Where its letters lie then. -/
def Next (w : World) (v v' : Value) : Prop := v'.ownBlock = v.ownBlock ∨ ∀ k, v'.ownBlock = some k → w.heap.size ≤ k
/-- Letters on their way, in block b. -/
structure Nt (B b : Nat) (u : Value) (xs : List LetX) (w : World) : Prop where
  obj : w.heap[b]? = some (.cells #[u] 53 (0, 0))
  row : LRow B xs u w
  low : B ≤ w.heap.size
  few : xs.length ≤ 128
  sm : ∀ x ∈ xs, Sm x.r
section
variable {B b : Nat} {u u' : Value} {xs ys : List LetX} {w w' : World}
theorem Nt.c0 (h : Nt B b u xs w) : w.cell? ⟨b, 0, none⟩ = some u := cell_of_cells h.obj
theorem Nt.free (h : Nt B b u xs w) (j : Nat) : w.frozen? ⟨b, j, none⟩ = false := free_of_cells h.obj
theorem Nt.below (h : Nt B b u xs w) (hb : Below w.heap.size w w') : Nt B b u xs w' := ⟨(hb.block _ (lt_of_block h.obj)).trans h.obj, h.row.below hb, Nat.le_trans h.low hb.size, h.few, h.sm⟩
theorem Nt.slice (h : Nt B b u xs w) : ∃ ao c, u = .slice ao xs.length c := owns_slice h.row.row
theorem Nt.lt (h : Nt B b u xs w) : b < w.heap.size := lt_of_block h.obj
/-- Blocks turn that are none of its own. -/
theorem Nt.sav {S : Nat → Prop} (h : Nt B b u xs w) (hs : Sav S w w') (h0 : ¬ S b) (h1 : ∀ k, u.ownBlock = some k → ¬ S k) (h2 : ∀ k cs t f, S k → w.heap[k]? = some (.cells cs t f) → t ≠ 3 ∧ t ≠ 80) : Nt B b u xs w' :=
  ⟨hs.at h.obj h0, h.row.sav hs h1 h2, Nat.le_trans h.low hs.size, h.few, h.sm⟩
/-- A new row is put in the elder one's place. -/
theorem Nt.put (h : w.heap[b]? = some (.cells #[u] 53 (0, 0))) (hr : LRow B ys u' w) (hl : B ≤ w.heap.size) (hf : ys.length ≤ 128) (hm : ∀ x ∈ ys, Sm x.r) : Nt B b u' ys (w.setCell ⟨b, 0, none⟩ u') :=
  ⟨by have := set_same (j := 0) (v := u') h; simpa using this, hr.sav ((Sav.refl (Just b) w).setCell (just b) 0 u') (fun k hk e => owns_ne hr.row h (by decide) (by rw [hk]; exact congrArg some e.symm)) (fun k cs t f hk hc => by
    rw [show k = b from hk, h] at hc
    cases hc
    exact ⟨by decide, by decide⟩), by simpa [World.setCell] using hl, hf, hm⟩
end
theorem new_net (w : World) : Calls Try.prog 8 #[] w fun e w' => e = .returned (.pointer (some ⟨w.heap.size, 0, none⟩)) ∧ w' = w.alloc (.cells #[.slice none 0 0] 53) := by
  go_enter Try.func8, Try.ntmps8
  go_wp2
  go_ret
  exact ⟨rfl, rfl⟩
theorem Nt.new (w : World) (B : Nat) (hB : B ≤ w.heap.size) : Nt B w.heap.size (.slice none 0 0) [] (w.alloc (.cells #[.slice none 0 0] 53)) :=
  ⟨new_block _ _, LRow.nil _ _, by simp; omega, by decide, fun x hx => by simp at hx⟩
theorem len_nil (w : World) : Calls Try.prog 17 #[.pointer none] w fun e w' => e = .returned (.int .i64 0) ∧ w = w' := by
  go_enter Try.func17, Try.ntmps17
  go_wp2
  go_ret
  exact ⟨rfl, rfl⟩
theorem len_net (B b : Nat) (u : Value) (xs : List LetX) (w : World) (h : Nt B b u xs w) : Calls Try.prog 17 #[.pointer (some ⟨b, 0, none⟩)] w fun e w' => e = .returned (.int .i64 (xs.length : Int)) ∧ w = w' := by
  obtain ⟨ao, c, rfl⟩ := h.slice
  have c0 := h.c0
  clear h
  go_enter Try.func17, Try.ntmps17
  go_wp2
  go_ret
  exact ⟨rfl, rfl⟩
/-- A place of these. -/
def placeX (xs : List LetX) (i : Int) : Bool := decide (0 ≤ i) && decide (i < (xs.length : Int))
theorem hasN_nil (i : Int) (w : World) : Calls Try.prog 25 #[.pointer none, .int .i64 i] w fun e w' => e = .returned (.bool false) ∧ w = w' := by
  by_cases h0 : 0 ≤ i
  · have d0 : decide ((0 : Int) ≤ i) = true := by simpa using h0
    have d1 : decide (i < (0 : Int)) = false := by simpa using h0
    go_enter Try.func25, Try.ntmps25
    go_wp2_with fail
    refine (len_nil w).mono ?_
    rintro e w1 ⟨rfl, rfl⟩
    go_wp2
    go_ret
    exact ⟨rfl, rfl⟩
  · have d0 : decide ((0 : Int) ≤ i) = false := by simpa using h0
    go_enter Try.func25, Try.ntmps25
    go_wp2
    go_ret
    exact ⟨rfl, rfl⟩
theorem has_net (B b : Nat) (u : Value) (xs : List LetX) (i : Int) (w : World) (h : Nt B b u xs w) : Calls Try.prog 25 #[.pointer (some ⟨b, 0, none⟩), .int .i64 i] w fun e w' => e = .returned (.bool (placeX xs i)) ∧ w = w' := by
  unfold placeX
  have H := hid h
  by_cases h0 : 0 ≤ i
  · have d0 : decide ((0 : Int) ≤ i) = true := by simpa using h0
    rw [d0, Bool.true_and]
    clear h
    go_enter Try.func25, Try.ntmps25
    go_wp2_with fail
    refine (len_net B b u xs w H.out).mono ?_
    rintro e w1 ⟨rfl, rfl⟩
    go_wp2
    go_ret
    exact ⟨rfl, rfl⟩
  · have d0 : decide ((0 : Int) ≤ i) = false := by simpa using h0
    rw [d0, Bool.false_and]
    go_enter Try.func25, Try.ntmps25
    go_wp2
    go_ret
    exact ⟨rfl, rfl⟩
set_option maxHeartbeats 8000000 in
set_option maxRecDepth 100000 in
theorem put_net (B b : Nat) (u : Value) (xs : List LetX) (x : LetX) (w : World) (h : Nt B b u xs w) (hx : x.Is w) (hs : Sm x.r) (hf : xs.length < 128) :
    Calls Try.prog 22 #[.pointer (some ⟨b, 0, none⟩), .agg #[.int .i64 x.r.from_, .int .i64 x.r.to_, .int .i64 x.r.kind, .int .i64 x.r.split, .int .i64 x.r.attempt, .int .i64 x.r.part, .int .i64 x.r.seq, .int .i64 x.r.next, .int .i64 x.r.epoch, .int .i64 x.r.reason, .slice x.so x.r.set.length x.sc, .slice x.po x.r.prs.length x.pc]] w fun e w' => e = .returned (.bool true) ∧ ∃ u' y, y.r = x.r ∧ Nt B b u' (xs ++ [y]) w' ∧ Sav (Ow b u) w w' ∧ Next w u u' := by
  obtain ⟨i0, hi, hz0, hz1, hz2⟩ := info_parts Try.infoL
  obtain ⟨ao, cap, rfl⟩ := h.slice
  have H := hid (h.below (alloc_one w (.cells #[.int .i64 x.r.from_, .int .i64 x.r.to_, .int .i64 x.r.kind, .int .i64 x.r.split, .int .i64 x.r.attempt, .int .i64 x.r.part, .int .i64 x.r.seq, .int .i64 x.r.next, .int .i64 x.r.epoch, .int .i64 x.r.reason, .slice x.so x.r.set.length x.sc, .slice x.po x.r.prs.length x.pc] 36)))
  have HX := hid (hx.below (alloc_one w (.cells #[.int .i64 x.r.from_, .int .i64 x.r.to_, .int .i64 x.r.kind, .int .i64 x.r.split, .int .i64 x.r.attempt, .int .i64 x.r.part, .int .i64 x.r.seq, .int .i64 x.r.next, .int .i64 x.r.epoch, .int .i64 x.r.reason, .slice x.so x.r.set.length x.sc, .slice x.po x.r.prs.length x.pc] 36)))
  have hbx := new_block w (.cells #[.int .i64 x.r.from_, .int .i64 x.r.to_, .int .i64 x.r.kind, .int .i64 x.r.split, .int .i64 x.r.attempt, .int .i64 x.r.part, .int .i64 x.r.seq, .int .i64 x.r.next, .int .i64 x.r.epoch, .int .i64 x.r.reason, .slice x.so x.r.set.length x.sc, .slice x.po x.r.prs.length x.pc] 36)
  have c0 := H.out.c0
  have HS := hid hs
  have hd : decide ((128 : Int) ≤ (xs.length : Int)) = false := by simp; omega
  have h0 := h
  clear h hx
  go_enter Try.func22, Try.ntmps22
  go_wp2_with fail
  have HU := hid (fun k (hk : (Value.slice ao xs.length cap).ownBlock = some k) => (h0.row.row.lt k hk).2)
  have HLB := hid (show B ≤ (w.alloc (.cells #[.int .i64 x.r.from_, .int .i64 x.r.to_, .int .i64 x.r.kind, .int .i64 x.r.split, .int .i64 x.r.attempt, .int .i64 x.r.part, .int .i64 x.r.seq, .int .i64 x.r.next, .int .i64 x.r.epoch, .int .i64 x.r.reason, .slice x.so x.r.set.length x.sc, .slice x.po x.r.prs.length x.pc] 36)).drew.heap.size from H.out.low)
  have HA := hid (show Sav (Ow b (.slice ao xs.length cap)) w (w.alloc (.cells #[.int .i64 x.r.from_, .int .i64 x.r.to_, .int .i64 x.r.kind, .int .i64 x.r.split, .int .i64 x.r.attempt, .int .i64 x.r.part, .int .i64 x.r.seq, .int .i64 x.r.next, .int .i64 x.r.epoch, .int .i64 x.r.reason, .slice x.so x.r.set.length x.sc, .slice x.po x.r.prs.length x.pc] 36)).drew from ((Sav.refl _ w).alloc _).drew)
  have hbw := h0.lt
  clear h0
  have hbd : (w.alloc (.cells #[.int .i64 x.r.from_, .int .i64 x.r.to_, .int .i64 x.r.kind, .int .i64 x.r.split, .int .i64 x.r.attempt, .int .i64 x.r.part, .int .i64 x.r.seq, .int .i64 x.r.next, .int .i64 x.r.epoch, .int .i64 x.r.reason, .slice x.so x.r.set.length x.sc, .slice x.po x.r.prs.length x.pc] 36)).drew.heap[w.heap.size]? = some (.cells #[.int .i64 x.r.from_, .int .i64 x.r.to_, .int .i64 x.r.kind, .int .i64 x.r.split, .int .i64 x.r.attempt, .int .i64 x.r.part, .int .i64 x.r.seq, .int .i64 x.r.next, .int .i64 x.r.epoch, .int .i64 x.r.reason, .slice x.so x.r.set.length x.sc, .slice x.po x.r.prs.length x.pc] 36 (0, 0)) := hbx
  have c1 : (w.alloc (.cells #[.int .i64 x.r.from_, .int .i64 x.r.to_, .int .i64 x.r.kind, .int .i64 x.r.split, .int .i64 x.r.attempt, .int .i64 x.r.part, .int .i64 x.r.seq, .int .i64 x.r.next, .int .i64 x.r.epoch, .int .i64 x.r.reason, .slice x.so x.r.set.length x.sc, .slice x.po x.r.prs.length x.pc] 36)).drew.cell? ⟨b, 0, none⟩ = some (.slice ao xs.length cap) := c0
  replace H := hid (H.out.below (below_drew1 _))
  replace HX := hid (HX.out.below (below_drew1 _))
  refine wp_region_held_drew (S := fun w' => w'.heap[w.heap.size]? = some (.cells #[.int .i64 x.r.from_, .int .i64 x.r.to_, .int .i64 x.r.kind, .int .i64 x.r.split, .int .i64 x.r.attempt, .int .i64 x.r.part, .int .i64 x.r.seq, .int .i64 x.r.next, .int .i64 x.r.epoch, .int .i64 x.r.reason, .slice x.so x.r.set.length x.sc, .slice x.po x.r.prs.length x.pc] 36 (0, 0))) (by kernel_rfl) hbx (fun hHeld => ?_)
  refine takeH 0 11 (.pointer (some ⟨b, 0, none⟩)) rfl rfl (by kernel_rfl) (by kernel_rfl) (by kernel_rfl) (fun _ _ _ h => h) (by rfl) ?_ (by assumption) ?_
  · intro w' hSw
    go_simp
  try simp only [Act.put, List.setIfInBounds_toArray, List.set_cons_zero, List.set_cons_succ]
  refine takeH 1 12 (.pointer (some ⟨b, 0, none⟩)) rfl rfl (by kernel_rfl) (by kernel_rfl) (by kernel_rfl) (fun _ _ _ h => h) (by rfl) ?_ (by assumption) ?_
  · intro w' hSw
    go_simp
  try simp only [Act.put, List.setIfInBounds_toArray, List.set_cons_zero, List.set_cons_succ]
  refine takeH 2 13 (.pointer (some ⟨b, 0, none⟩)) rfl rfl (by kernel_rfl) (by kernel_rfl) (by kernel_rfl) (fun _ _ _ h => h) (by rfl) ?_ (by assumption) ?_
  · intro w' hSw
    go_simp
  try simp only [Act.put, List.setIfInBounds_toArray, List.set_cons_zero, List.set_cons_succ]
  refine takeH 3 14 (.pointer (some ⟨b, 0, none⟩)) rfl rfl (by kernel_rfl) (by kernel_rfl) (by kernel_rfl) (fun _ _ _ h => h) (by rfl) ?_ (by assumption) ?_
  · intro w' hSw
    go_simp
  try simp only [Act.put, List.setIfInBounds_toArray, List.set_cons_zero, List.set_cons_succ]
  refine takeH 5 16 (.agg #[.int .i64 x.r.from_, .int .i64 x.r.to_, .int .i64 x.r.kind, .int .i64 x.r.split, .int .i64 x.r.attempt, .int .i64 x.r.part, .int .i64 x.r.seq, .int .i64 x.r.next, .int .i64 x.r.epoch, .int .i64 x.r.reason, .slice x.so x.r.set.length x.sc, .slice x.po x.r.prs.length x.pc]) rfl rfl (by kernel_rfl) (by kernel_rfl) (by kernel_rfl) (fun _ _ _ h => h) (by rfl) ?_ (by assumption) ?_
  · intro w' hSw
    have q0 := cell_of_cells (j := 0) hSw; have q1 := cell_of_cells (j := 1) hSw; have q2 := cell_of_cells (j := 2) hSw; have q3 := cell_of_cells (j := 3) hSw; have q4 := cell_of_cells (j := 4) hSw; have q5 := cell_of_cells (j := 5) hSw; have q6 := cell_of_cells (j := 6) hSw; have q7 := cell_of_cells (j := 7) hSw; have q8 := cell_of_cells (j := 8) hSw; have q9 := cell_of_cells (j := 9) hSw; have q10 := cell_of_cells (j := 10) hSw; have q11 := cell_of_cells (j := 11) hSw; simp at q0 q1 q2 q3 q4 q5 q6 q7 q8 q9 q10 q11; go_simp
  try simp only [Act.put, List.setIfInBounds_toArray, List.set_cons_zero, List.set_cons_succ]
  refine wpAnyH_ready (rs := [4, 6]) (by kernel_rfl) (by simp) (nextH 4 rfl (by rfl) (fun K hK => ?_) (nextH 6 rfl (by rfl) (fun K hK => ?_) AllReadyH.nil))
  · go_simp
    refine hK.out _ _ (by assumption) (fun hHeld => ?_)
    clear hK K
    try simp only [Act.put, List.setIfInBounds_toArray, List.set_cons_zero, List.set_cons_succ]
    refine wpAnyH_ready (rs := [6]) (by kernel_rfl) (by simp) (nextH 6 rfl (by rfl) (fun K hK => ?_) AllReadyH.nil)
    go_simp
    refine (copied_any x _ HX.out HS.out).mono ?_
    rintro e w3 ⟨y, rfl, hy, hown, hb3⟩
    have H3 := hid (H.out.below hb3)
    have HY := hid hy
    have HO := hid hown
    have HB3 := hid hb3
    have g0 := H3.out.c0
    have hS3 : w3.heap[w.heap.size]? = some (.cells #[.int .i64 x.r.from_, .int .i64 x.r.to_, .int .i64 x.r.kind, .int .i64 x.r.split, .int .i64 x.r.attempt, .int .i64 x.r.part, .int .i64 x.r.seq, .int .i64 x.r.next, .int .i64 x.r.epoch, .int .i64 x.r.reason, .slice x.so x.r.set.length x.sc, .slice x.po x.r.prs.length x.pc] 36 (0, 0)) := (hb3.block _ (lt_of_block hbd)).trans hbd
    have H4 := hid (H3.out.below (alloc_one w3 (.cells #[.int .i64 y.r.from_, .int .i64 y.r.to_, .int .i64 y.r.kind, .int .i64 y.r.split, .int .i64 y.r.attempt, .int .i64 y.r.part, .int .i64 y.r.seq, .int .i64 y.r.next, .int .i64 y.r.epoch, .int .i64 y.r.reason, .slice y.so y.r.set.length y.sc, .slice y.po y.r.prs.length y.pc] 36)))
    have HO4 := hid (HO.out.below (alloc_one w3 (.cells #[.int .i64 y.r.from_, .int .i64 y.r.to_, .int .i64 y.r.kind, .int .i64 y.r.split, .int .i64 y.r.attempt, .int .i64 y.r.part, .int .i64 y.r.seq, .int .i64 y.r.next, .int .i64 y.r.epoch, .int .i64 y.r.reason, .slice y.so y.r.set.length y.sc, .slice y.po y.r.prs.length y.pc] 36)))
    have HB4 := hid (below_then hb3 (alloc_one w3 (.cells #[.int .i64 y.r.from_, .int .i64 y.r.to_, .int .i64 y.r.kind, .int .i64 y.r.split, .int .i64 y.r.attempt, .int .i64 y.r.part, .int .i64 y.r.seq, .int .i64 y.r.next, .int .i64 y.r.epoch, .int .i64 y.r.reason, .slice y.so y.r.set.length y.sc, .slice y.po y.r.prs.length y.pc] 36)) hb3.size)
    have g1 := H4.out.c0
    have hS4 : (w3.alloc (.cells #[.int .i64 y.r.from_, .int .i64 y.r.to_, .int .i64 y.r.kind, .int .i64 y.r.split, .int .i64 y.r.attempt, .int .i64 y.r.part, .int .i64 y.r.seq, .int .i64 y.r.next, .int .i64 y.r.epoch, .int .i64 y.r.reason, .slice y.so y.r.set.length y.sc, .slice y.po y.r.prs.length y.pc] 36)).heap[w.heap.size]? = some (.cells #[.int .i64 x.r.from_, .int .i64 x.r.to_, .int .i64 x.r.kind, .int .i64 x.r.split, .int .i64 x.r.attempt, .int .i64 x.r.part, .int .i64 x.r.seq, .int .i64 x.r.next, .int .i64 x.r.epoch, .int .i64 x.r.reason, .slice x.so x.r.set.length x.sc, .slice x.po x.r.prs.length x.pc] 36 (0, 0)) := ((alloc_one w3 _).block _ (lt_of_block hS3)).trans hS3
    clear hy hown hb3
    refine hK.out _ _ (by assumption) (fun hHeld => ?_)
    clear hK K
    try simp only [Act.put, List.setIfInBounds_toArray, List.set_cons_zero, List.set_cons_succ]
    refine wpAnyH_ready (rs := [7]) (by kernel_rfl) (by simp) (nextH 7 rfl (by rfl) (fun K hK => ?_) AllReadyH.nil)
    go_simp
    refine hK.out _ _ (by assumption) (fun hHeld => ?_)
    clear hK K
    try simp only [Act.put, List.setIfInBounds_toArray, List.set_cons_zero, List.set_cons_succ]
    have hsz := H4.out.low
    refine wpAnyH_ready (rs := [8]) (by kernel_rfl) (by simp) (AllReadyH.cons rfl (fun K hK => ?_) AllReadyH.nil)
    refine step_append_to 19 rfl rfl (.tmp 15) (.tmp 18) 28 rfl B 36 i0 _ 12 128 Try.underlying28 hi hz0 hz1 hz2 rfl (by decide) _ xs.length (fl encL xs) (by simp [Act.eval]) H4.out.row.row ⟨w3.heap.size, 0, none⟩ 1 1 (encL y) (by simp [Act.eval]) rfl (new_cells w3 #[.int .i64 y.r.from_, .int .i64 y.r.to_, .int .i64 y.r.kind, .int .i64 y.r.split, .int .i64 y.r.attempt, .int .i64 y.r.part, .int .i64 y.r.seq, .int .i64 y.r.next, .int .i64 y.r.epoch, .int .i64 y.r.reason, .slice y.so y.r.set.length y.sc, .slice y.po y.r.prs.length y.pc] 36) (encL_one y) (by unfold maxLen; omega) (by omega) hsz ?_
    intro v5 w5 ho5 hg5 hat5
    have HP := hid (H4.out.row.push (HO4.out.low HLB.out) ho5 hg5)
    have hob := hid (grown_at H4.out.row.row hg5 H4.out.obj (by decide))
    have e0 : w5.cell? ⟨b, 0, none⟩ = some (.slice ao xs.length cap) := cell_of_cells hob.out
    have f0 : w5.frozen? ⟨b, 0, none⟩ = false := free_of_cells hob.out
    have hS5 : w5.heap[w.heap.size]? = some (.cells #[.int .i64 x.r.from_, .int .i64 x.r.to_, .int .i64 x.r.kind, .int .i64 x.r.split, .int .i64 x.r.attempt, .int .i64 x.r.part, .int .i64 x.r.seq, .int .i64 x.r.next, .int .i64 x.r.epoch, .int .i64 x.r.reason, .slice x.so x.r.set.length x.sc, .slice x.po x.r.prs.length x.pc] 36 (0, 0)) := (hg5.block _ (lt_of_block hS4) (fun e => by have := HU.out _ e.symm; omega)).trans hS4
    obtain ⟨a5, k5, rfl⟩ := owns_slice ho5
    have HG := hid (((Sav.of_below (S := Ow b (.slice ao xs.length cap)) HB4.out).trans (Sav.grown hg5 (fun k hk => .inr hk))))
    have hs5 := hg5.size
    have HN := hid (show Next w (.slice ao xs.length cap) (.slice a5 (xs.length + 1) k5) from hat5.elim .inl (fun e => .inr (fun k hk => by
      rw [e] at hk
      cases hk
      exact Nat.le_trans HA.out.size HB4.out.size)))
    clear ho5 hg5 hat5
    refine hK.out _ _ (by assumption) (fun hHeld => ?_)
    clear hK K
    try simp only [Act.put, List.setIfInBounds_toArray, List.set_cons_zero, List.set_cons_succ]
    refine takeH 9 20 (.pointer (some ⟨b, 0, none⟩)) rfl rfl (by kernel_rfl) (by kernel_rfl) (by kernel_rfl) (fun _ _ _ h => h) (by rfl) ?_ (by assumption) ?_
    · intro w' hSw
      go_simp
    try simp only [Act.put, List.setIfInBounds_toArray, List.set_cons_zero, List.set_cons_succ]
    refine takeH 10 21 (.pointer (some ⟨b, 0, none⟩)) rfl rfl (by kernel_rfl) (by kernel_rfl) (by kernel_rfl) (fun _ _ _ h => h) (by rfl) ?_ (by assumption) ?_
    · intro w' hSw
      go_simp
    try simp only [Act.put, List.setIfInBounds_toArray, List.set_cons_zero, List.set_cons_succ]
    refine wpAnyH_ready (rs := [11]) (by kernel_rfl) (by simp) (nextH 11 rfl (by rfl) (fun K hK => ?_) AllReadyH.nil)
    go_simp
    have hS6 := set_two (j := 0) (v := Value.slice a5 (xs.length + 1) k5) hS5 (show w.heap.size ≠ b by omega)
    refine hK.out _ _ (by assumption) (fun hHeld => ?_)
    clear hK K
    try simp only [Act.put, List.setIfInBounds_toArray, List.set_cons_zero, List.set_cons_succ]
    refine wpAnyH_done (by kernel_rfl) ?_ _
    go_wp2
    go_ret
    exact ⟨rfl, _, y, HY.out, Nt.put hob.out HP.out (Nat.le_trans hsz hs5) (by rw [List.length_append, List.length_singleton]; omega) (fun z hz => by
      rcases List.mem_append.1 hz with e | e
      · exact H.out.sm z e
      · rw [List.mem_singleton.1 e, HY.out]; exact HS.out), HA.out.trans (HG.out.setCell (.inl rfl) 0 _), HN.out⟩
  · go_simp
    refine (copied_any x _ HX.out HS.out).mono ?_
    rintro e w3 ⟨y, rfl, hy, hown, hb3⟩
    have H3 := hid (H.out.below hb3)
    have HY := hid hy
    have HO := hid hown
    have HB3 := hid hb3
    have g0 := H3.out.c0
    have hS3 : w3.heap[w.heap.size]? = some (.cells #[.int .i64 x.r.from_, .int .i64 x.r.to_, .int .i64 x.r.kind, .int .i64 x.r.split, .int .i64 x.r.attempt, .int .i64 x.r.part, .int .i64 x.r.seq, .int .i64 x.r.next, .int .i64 x.r.epoch, .int .i64 x.r.reason, .slice x.so x.r.set.length x.sc, .slice x.po x.r.prs.length x.pc] 36 (0, 0)) := (hb3.block _ (lt_of_block hbd)).trans hbd
    have H4 := hid (H3.out.below (alloc_one w3 (.cells #[.int .i64 y.r.from_, .int .i64 y.r.to_, .int .i64 y.r.kind, .int .i64 y.r.split, .int .i64 y.r.attempt, .int .i64 y.r.part, .int .i64 y.r.seq, .int .i64 y.r.next, .int .i64 y.r.epoch, .int .i64 y.r.reason, .slice y.so y.r.set.length y.sc, .slice y.po y.r.prs.length y.pc] 36)))
    have HO4 := hid (HO.out.below (alloc_one w3 (.cells #[.int .i64 y.r.from_, .int .i64 y.r.to_, .int .i64 y.r.kind, .int .i64 y.r.split, .int .i64 y.r.attempt, .int .i64 y.r.part, .int .i64 y.r.seq, .int .i64 y.r.next, .int .i64 y.r.epoch, .int .i64 y.r.reason, .slice y.so y.r.set.length y.sc, .slice y.po y.r.prs.length y.pc] 36)))
    have HB4 := hid (below_then hb3 (alloc_one w3 (.cells #[.int .i64 y.r.from_, .int .i64 y.r.to_, .int .i64 y.r.kind, .int .i64 y.r.split, .int .i64 y.r.attempt, .int .i64 y.r.part, .int .i64 y.r.seq, .int .i64 y.r.next, .int .i64 y.r.epoch, .int .i64 y.r.reason, .slice y.so y.r.set.length y.sc, .slice y.po y.r.prs.length y.pc] 36)) hb3.size)
    have g1 := H4.out.c0
    have hS4 : (w3.alloc (.cells #[.int .i64 y.r.from_, .int .i64 y.r.to_, .int .i64 y.r.kind, .int .i64 y.r.split, .int .i64 y.r.attempt, .int .i64 y.r.part, .int .i64 y.r.seq, .int .i64 y.r.next, .int .i64 y.r.epoch, .int .i64 y.r.reason, .slice y.so y.r.set.length y.sc, .slice y.po y.r.prs.length y.pc] 36)).heap[w.heap.size]? = some (.cells #[.int .i64 x.r.from_, .int .i64 x.r.to_, .int .i64 x.r.kind, .int .i64 x.r.split, .int .i64 x.r.attempt, .int .i64 x.r.part, .int .i64 x.r.seq, .int .i64 x.r.next, .int .i64 x.r.epoch, .int .i64 x.r.reason, .slice x.so x.r.set.length x.sc, .slice x.po x.r.prs.length x.pc] 36 (0, 0)) := ((alloc_one w3 _).block _ (lt_of_block hS3)).trans hS3
    clear hy hown hb3
    refine hK.out _ _ (by assumption) (fun hHeld => ?_)
    clear hK K
    try simp only [Act.put, List.setIfInBounds_toArray, List.set_cons_zero, List.set_cons_succ]
    refine wpAnyH_ready (rs := [4, 7]) (by kernel_rfl) (by simp) (nextH 4 rfl (by rfl) (fun K hK => ?_) (nextH 7 rfl (by rfl) (fun K hK => ?_) AllReadyH.nil))
    · go_simp
      refine hK.out _ _ (by assumption) (fun hHeld => ?_)
      clear hK K
      try simp only [Act.put, List.setIfInBounds_toArray, List.set_cons_zero, List.set_cons_succ]
      refine wpAnyH_ready (rs := [7]) (by kernel_rfl) (by simp) (nextH 7 rfl (by rfl) (fun K hK => ?_) AllReadyH.nil)
      go_simp
      refine hK.out _ _ (by assumption) (fun hHeld => ?_)
      clear hK K
      try simp only [Act.put, List.setIfInBounds_toArray, List.set_cons_zero, List.set_cons_succ]
      have hsz := H4.out.low
      refine wpAnyH_ready (rs := [8]) (by kernel_rfl) (by simp) (AllReadyH.cons rfl (fun K hK => ?_) AllReadyH.nil)
      refine step_append_to 19 rfl rfl (.tmp 15) (.tmp 18) 28 rfl B 36 i0 _ 12 128 Try.underlying28 hi hz0 hz1 hz2 rfl (by decide) _ xs.length (fl encL xs) (by simp [Act.eval]) H4.out.row.row ⟨w3.heap.size, 0, none⟩ 1 1 (encL y) (by simp [Act.eval]) rfl (new_cells w3 #[.int .i64 y.r.from_, .int .i64 y.r.to_, .int .i64 y.r.kind, .int .i64 y.r.split, .int .i64 y.r.attempt, .int .i64 y.r.part, .int .i64 y.r.seq, .int .i64 y.r.next, .int .i64 y.r.epoch, .int .i64 y.r.reason, .slice y.so y.r.set.length y.sc, .slice y.po y.r.prs.length y.pc] 36) (encL_one y) (by unfold maxLen; omega) (by omega) hsz ?_
      intro v5 w5 ho5 hg5 hat5
      have HP := hid (H4.out.row.push (HO4.out.low HLB.out) ho5 hg5)
      have hob := hid (grown_at H4.out.row.row hg5 H4.out.obj (by decide))
      have e0 : w5.cell? ⟨b, 0, none⟩ = some (.slice ao xs.length cap) := cell_of_cells hob.out
      have f0 : w5.frozen? ⟨b, 0, none⟩ = false := free_of_cells hob.out
      have hS5 : w5.heap[w.heap.size]? = some (.cells #[.int .i64 x.r.from_, .int .i64 x.r.to_, .int .i64 x.r.kind, .int .i64 x.r.split, .int .i64 x.r.attempt, .int .i64 x.r.part, .int .i64 x.r.seq, .int .i64 x.r.next, .int .i64 x.r.epoch, .int .i64 x.r.reason, .slice x.so x.r.set.length x.sc, .slice x.po x.r.prs.length x.pc] 36 (0, 0)) := (hg5.block _ (lt_of_block hS4) (fun e => by have := HU.out _ e.symm; omega)).trans hS4
      obtain ⟨a5, k5, rfl⟩ := owns_slice ho5
      have HG := hid (((Sav.of_below (S := Ow b (.slice ao xs.length cap)) HB4.out).trans (Sav.grown hg5 (fun k hk => .inr hk))))
      have hs5 := hg5.size
      have HN := hid (show Next w (.slice ao xs.length cap) (.slice a5 (xs.length + 1) k5) from hat5.elim .inl (fun e => .inr (fun k hk => by
        rw [e] at hk
        cases hk
        exact Nat.le_trans HA.out.size HB4.out.size)))
      clear ho5 hg5 hat5
      refine hK.out _ _ (by assumption) (fun hHeld => ?_)
      clear hK K
      try simp only [Act.put, List.setIfInBounds_toArray, List.set_cons_zero, List.set_cons_succ]
      refine takeH 9 20 (.pointer (some ⟨b, 0, none⟩)) rfl rfl (by kernel_rfl) (by kernel_rfl) (by kernel_rfl) (fun _ _ _ h => h) (by rfl) ?_ (by assumption) ?_
      · intro w' hSw
        go_simp
      try simp only [Act.put, List.setIfInBounds_toArray, List.set_cons_zero, List.set_cons_succ]
      refine takeH 10 21 (.pointer (some ⟨b, 0, none⟩)) rfl rfl (by kernel_rfl) (by kernel_rfl) (by kernel_rfl) (fun _ _ _ h => h) (by rfl) ?_ (by assumption) ?_
      · intro w' hSw
        go_simp
      try simp only [Act.put, List.setIfInBounds_toArray, List.set_cons_zero, List.set_cons_succ]
      refine wpAnyH_ready (rs := [11]) (by kernel_rfl) (by simp) (nextH 11 rfl (by rfl) (fun K hK => ?_) AllReadyH.nil)
      go_simp
      have hS6 := set_two (j := 0) (v := Value.slice a5 (xs.length + 1) k5) hS5 (show w.heap.size ≠ b by omega)
      refine hK.out _ _ (by assumption) (fun hHeld => ?_)
      clear hK K
      try simp only [Act.put, List.setIfInBounds_toArray, List.set_cons_zero, List.set_cons_succ]
      refine wpAnyH_done (by kernel_rfl) ?_ _
      go_wp2
      go_ret
      exact ⟨rfl, _, y, HY.out, Nt.put hob.out HP.out (Nat.le_trans hsz hs5) (by rw [List.length_append, List.length_singleton]; omega) (fun z hz => by
        rcases List.mem_append.1 hz with e | e
        · exact H.out.sm z e
        · rw [List.mem_singleton.1 e, HY.out]; exact HS.out), HA.out.trans (HG.out.setCell (.inl rfl) 0 _), HN.out⟩
    · go_simp
      refine hK.out _ _ (by assumption) (fun hHeld => ?_)
      clear hK K
      try simp only [Act.put, List.setIfInBounds_toArray, List.set_cons_zero, List.set_cons_succ]
      refine wpAnyH_ready (rs := [4]) (by kernel_rfl) (by simp) (nextH 4 rfl (by rfl) (fun K hK => ?_) AllReadyH.nil)
      go_simp
      refine hK.out _ _ (by assumption) (fun hHeld => ?_)
      clear hK K
      try simp only [Act.put, List.setIfInBounds_toArray, List.set_cons_zero, List.set_cons_succ]
      have hsz := H4.out.low
      refine wpAnyH_ready (rs := [8]) (by kernel_rfl) (by simp) (AllReadyH.cons rfl (fun K hK => ?_) AllReadyH.nil)
      refine step_append_to 19 rfl rfl (.tmp 15) (.tmp 18) 28 rfl B 36 i0 _ 12 128 Try.underlying28 hi hz0 hz1 hz2 rfl (by decide) _ xs.length (fl encL xs) (by simp [Act.eval]) H4.out.row.row ⟨w3.heap.size, 0, none⟩ 1 1 (encL y) (by simp [Act.eval]) rfl (new_cells w3 #[.int .i64 y.r.from_, .int .i64 y.r.to_, .int .i64 y.r.kind, .int .i64 y.r.split, .int .i64 y.r.attempt, .int .i64 y.r.part, .int .i64 y.r.seq, .int .i64 y.r.next, .int .i64 y.r.epoch, .int .i64 y.r.reason, .slice y.so y.r.set.length y.sc, .slice y.po y.r.prs.length y.pc] 36) (encL_one y) (by unfold maxLen; omega) (by omega) hsz ?_
      intro v5 w5 ho5 hg5 hat5
      have HP := hid (H4.out.row.push (HO4.out.low HLB.out) ho5 hg5)
      have hob := hid (grown_at H4.out.row.row hg5 H4.out.obj (by decide))
      have e0 : w5.cell? ⟨b, 0, none⟩ = some (.slice ao xs.length cap) := cell_of_cells hob.out
      have f0 : w5.frozen? ⟨b, 0, none⟩ = false := free_of_cells hob.out
      have hS5 : w5.heap[w.heap.size]? = some (.cells #[.int .i64 x.r.from_, .int .i64 x.r.to_, .int .i64 x.r.kind, .int .i64 x.r.split, .int .i64 x.r.attempt, .int .i64 x.r.part, .int .i64 x.r.seq, .int .i64 x.r.next, .int .i64 x.r.epoch, .int .i64 x.r.reason, .slice x.so x.r.set.length x.sc, .slice x.po x.r.prs.length x.pc] 36 (0, 0)) := (hg5.block _ (lt_of_block hS4) (fun e => by have := HU.out _ e.symm; omega)).trans hS4
      obtain ⟨a5, k5, rfl⟩ := owns_slice ho5
      have HG := hid (((Sav.of_below (S := Ow b (.slice ao xs.length cap)) HB4.out).trans (Sav.grown hg5 (fun k hk => .inr hk))))
      have hs5 := hg5.size
      have HN := hid (show Next w (.slice ao xs.length cap) (.slice a5 (xs.length + 1) k5) from hat5.elim .inl (fun e => .inr (fun k hk => by
        rw [e] at hk
        cases hk
        exact Nat.le_trans HA.out.size HB4.out.size)))
      clear ho5 hg5 hat5
      refine hK.out _ _ (by assumption) (fun hHeld => ?_)
      clear hK K
      try simp only [Act.put, List.setIfInBounds_toArray, List.set_cons_zero, List.set_cons_succ]
      refine takeH 9 20 (.pointer (some ⟨b, 0, none⟩)) rfl rfl (by kernel_rfl) (by kernel_rfl) (by kernel_rfl) (fun _ _ _ h => h) (by rfl) ?_ (by assumption) ?_
      · intro w' hSw
        go_simp
      try simp only [Act.put, List.setIfInBounds_toArray, List.set_cons_zero, List.set_cons_succ]
      refine takeH 10 21 (.pointer (some ⟨b, 0, none⟩)) rfl rfl (by kernel_rfl) (by kernel_rfl) (by kernel_rfl) (fun _ _ _ h => h) (by rfl) ?_ (by assumption) ?_
      · intro w' hSw
        go_simp
      try simp only [Act.put, List.setIfInBounds_toArray, List.set_cons_zero, List.set_cons_succ]
      refine wpAnyH_ready (rs := [11]) (by kernel_rfl) (by simp) (nextH 11 rfl (by rfl) (fun K hK => ?_) AllReadyH.nil)
      go_simp
      have hS6 := set_two (j := 0) (v := Value.slice a5 (xs.length + 1) k5) hS5 (show w.heap.size ≠ b by omega)
      refine hK.out _ _ (by assumption) (fun hHeld => ?_)
      clear hK K
      try simp only [Act.put, List.setIfInBounds_toArray, List.set_cons_zero, List.set_cons_succ]
      refine wpAnyH_done (by kernel_rfl) ?_ _
      go_wp2
      go_ret
      exact ⟨rfl, _, y, HY.out, Nt.put hob.out HP.out (Nat.le_trans hsz hs5) (by rw [List.length_append, List.length_singleton]; omega) (fun z hz => by
        rcases List.mem_append.1 hz with e | e
        · exact H.out.sm z e
        · rw [List.mem_singleton.1 e, HY.out]; exact HS.out), HA.out.trans (HG.out.setCell (.inl rfl) 0 _), HN.out⟩
end Go.Proofs.Ytocedfagfmkgdaa
