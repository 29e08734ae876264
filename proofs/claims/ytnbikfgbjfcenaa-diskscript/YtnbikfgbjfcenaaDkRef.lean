/- What the document's own Disk does (chapter 14): Append, Crash, Cut. -/
import Derived.Test.YtnbikfgbjfcenaaDk
import Derived.Test.YtnbikfgbjfcenaaHeldBy
namespace Go.Proofs.Ytnbikfgbjfcenaa
open Go.RowKit
set_option linter.unusedVariables false

set_option maxHeartbeats 1000000 in
theorem rappend_any (base b n : Nat) (v a : Value) (l m : List Int) (w : World) (h : Dk 30 base b v l n w) (ha : Bs w a m) (hr : l.length + m.length ≤ 1099511627776) :
    Calls Try.prog 11 #[.pointer (some ⟨b, 0, none⟩), a] w fun e w' => e = .returned (.tuple #[]) ∧ ∃ v', Dk 30 base b v' (l ++ m) n w' ∧ Sav (Just b) w w' ∧ ∀ k, v'.ownBlock = some k → w.heap.size ≤ k := by
  have HA := hid ha
  obtain ⟨ao, cap, rfl, h1, h2, h3, -⟩ := ha
  obtain ⟨i0, hi, hz0, hz1, hz2⟩ := info_parts Try.info5
  have H := hid h
  have HL := hid h.reads
  obtain ⟨lo, lc, rfl, g1, g2, g3, -⟩ := h.reads
  have c0 := h.c0
  have hlow := h.low
  clear h
  unfold maxLen at h2 g2
  go_enter Try.func11, Try.ntmps11
  go_wp2_with (first | (at_builtin; refine wpList_append_at_any _ rfl _ _ 28 rfl w.heap.size 5 i0 (.int .u8 0) 1 1 Try.underlying28 hi hz0 hz1 hz2 rfl (by decide) _ l.length (cel l) rfl ho1 ao m.length cap (cel m) rfl (by rw [cel_length]; omega) (fun e => ⟨by rw [(h3 e).1]; rfl, (h3 e).2⟩) (HA.out.news hb1) (cel_oneCell m) (by unfold maxLen; omega) (by omega) hb1.size ?_; intro v2 w2 ho2 hg2 hat2; obtain ⟨a2, k2, rfl⟩ := owns_slice ho2; have hb2 := grown_at ho1 hg2 (hb1.block b hlt |>.trans H.out.obj) (by decide); have c2 : w2.cell? ⟨b, 0, none⟩ = some (.slice lo l.length lc) := cell_of_cells hb2; have f2 : w2.frozen? ⟨b, 0, none⟩ = false := free_of_cells hb2) | (at_builtin; refine wpList_append_at_any _ rfl _ _ 28 rfl w.heap.size 5 i0 (.int .u8 0) 1 1 Try.underlying28 hi hz0 hz1 hz2 rfl (by decide) (.slice none 0 0) 0 [] rfl (World.ownsRow_nil _ _ _ _) lo l.length lc (cel l) rfl (by rw [cel_length]; omega) (fun e => ⟨by rw [(g3 e).1]; rfl, (g3 e).2⟩) (HL.out.news (Below.refl _ _)) (cel_oneCell l) (by unfold maxLen; omega) (by omega) (Nat.le_refl _) ?_; intro v1 w1 ho1 hg1 hat1; obtain ⟨a1, k1, rfl⟩ := owns_slice ho1; have hb1 : Below w.heap.size w w1 := ⟨hg1.os, hg1.tape, hg1.output, hg1.size, fun k hk => hg1.block k hk (fun e => by cases e)⟩; have hlt := H.out.lt; simp only [Nat.zero_add, List.nil_append] at ho1 ⊢))
  go_end0
  have ho3 : w2.ownsRow w.heap.size 5 1 (.slice a2 (l.length + m.length) k2) (l ++ m).length (cel (l ++ m)) := by rw [List.length_append, cel_append]; exact ho2
  have hb3 : Below w.heap.size w w2 := hb1.grown hg2 hb1.size (by intro q hq; exact (ho1.lt q hq).1)
  refine ⟨rfl, _, Dk.list (by decide) hb2 (owns_low ho3 hlow) (by have := H.out.le; rw [List.length_append]; omega) (Nat.le_trans hlow (Nat.le_trans hg1.size hg2.size)) (by rw [List.length_append]; omega), ?_, fun k hk => (ho3.lt k hk).1⟩
  exact (Sav.of_below hb3).setCell (just b) 0 _

set_option maxHeartbeats 1000000 in
theorem rcut_yes (base b n k : Nat) (v : Value) (l : List Int) (w : World) (h : Dk 30 base b v l n w) (hk : k ≤ l.length) :
    Calls Try.prog 18 #[.pointer (some ⟨b, 0, none⟩), .int .i64 k] w fun e w' => e = .returned (.bool true) ∧ ∃ v', Dk 30 base b v' (l.take k) k w' ∧ Sav (Just b) w w' ∧ ∀ k, v'.ownBlock = some k → w.heap.size ≤ k := by
  obtain ⟨i0, hi, hz0, hz1, hz2⟩ := info_parts Try.info5
  have H := hid h
  have HL := hid h.reads
  obtain ⟨lo, lc, rfl, g1, g2, g3, -⟩ := h.reads
  have HT := hid (HL.out.take k hk)
  have c0 := h.c0
  have hlow := h.low
  have hbit := h.bit
  have hlen : (l.take k).length = k := by rw [List.length_take]; omega
  have d0 : decide ((k : Int) < 0) = false := by simp
  have d1 : decide ((l.length : Int) < k) = false := by simp; omega
  have hnone : lo = none → k = 0 ∧ lc = 0 := fun e => ⟨by have := (g3 e).1; rw [this] at hk; simpa using hk, (g3 e).2⟩
  clear h
  unfold maxLen at g2
  go_enter Try.func18, Try.ntmps18
  go_wp2_with ((at_builtin; refine wpList_append_at_any _ rfl _ _ 28 rfl w.heap.size 5 i0 (.int .u8 0) 1 1 Try.underlying28 hi hz0 hz1 hz2 rfl (by decide) (.slice none 0 0) 0 [] rfl (World.ownsRow_nil _ _ _ _) lo k lc (cel (l.take k)) rfl (by rw [cel_length, hlen]; omega) hnone (HT.out.news (Below.refl _ _)) (cel_oneCell _) (by unfold maxLen; omega) (by omega) (Nat.le_refl _) ?_; intro v1 w1 ho1 hg1 hat1; obtain ⟨a1, k1, rfl⟩ := owns_slice ho1; have hb1 : Below w.heap.size w w1 := ⟨hg1.os, hg1.tape, hg1.output, hg1.size, fun k hk => hg1.block k hk (fun e => by cases e)⟩; have hbl := hb1.block b H.out.lt |>.trans H.out.obj; have e0 : w1.cell? ⟨b, 0, none⟩ = some (.slice lo l.length lc) := cell_of_cells hbl; have e1 : w1.cell? ⟨b, 1, none⟩ = some (.int .i64 n) := cell_of_cells hbl; have f0 : w1.frozen? ⟨b, 0, none⟩ = false := free_of_cells hbl; have f1 : w1.frozen? ⟨b, 1, none⟩ = false := free_of_cells hbl; simp only [Nat.zero_add, List.nil_append] at ho1 ⊢))
  go_ret
  have ho3 : w1.ownsRow w.heap.size 5 1 (.slice a1 k k1) (l.take k).length (cel (l.take k)) := by rw [hlen]; exact ho1
  exact ⟨rfl, _, Dk.both (by decide) hbl (owns_low ho3 hlow) (by omega) (Nat.le_trans hlow hb1.size) (by omega), ((Sav.of_below hb1).setCell (just b) 0 _).setCell (just b) 1 _, fun k hk => (ho3.lt k hk).1⟩

theorem rcut_no (base b n : Nat) (k : Int) (v : Value) (l : List Int) (w : World) (h : Dk 30 base b v l n w) (hk : k < 0 ∨ (l.length : Int) < k) :
    Calls Try.prog 18 #[.pointer (some ⟨b, 0, none⟩), .int .i64 k] w fun e w' => e = .returned (.bool false) ∧ w = w' := by
  obtain ⟨ao, c, rfl⟩ := owns_slice h.own
  have c0 := h.c0
  have hbit := h.bit
  clear h
  by_cases h0 : k < 0
  · go_enter Try.func18, Try.ntmps18
    go_wp2
    go_ret
    exact ⟨rfl, rfl⟩
  · have h1 : (l.length : Int) < k := by omega
    go_enter Try.func18, Try.ntmps18
    go_wp2
    go_ret
    exact ⟨rfl, rfl⟩

theorem i64w (x : Int) : IntKind.i64.wrap x = wrap64 x := by rw [IntKind.wrap_i64]; unfold wrap64; omega

set_option maxHeartbeats 1000000 in
theorem rcrash_any (base b n : Nat) (v : Value) (l : List Int) (keep : Int) (w : World) (h : Dk 30 base b v l n w) :
    Calls Try.prog 16 #[.pointer (some ⟨b, 0, none⟩), .int .i64 keep] w fun e w' => e = .returned (.tuple #[]) ∧ ∃ v', Dk 30 base b v' (l.take (stay n l keep)) (stay n l keep) w' ∧ Sav (Just b) w w' ∧ ∀ k, v'.ownBlock = some k → w.heap.size ≤ k := by
  have H := hid h
  obtain ⟨ao, c, rfl⟩ := owns_slice h.own
  have c0 := h.c0
  have c1 := h.c1
  have hle := h.le
  have hbit := h.bit
  have hs := stay_le hle keep
  have hsw := hid (stay_wrap hle hbit keep)
  have hsub := hid (show ((l.length - n : Nat) : Int) = (l.length : Int) - n by omega)
  clear h
  go_enter Try.func16, Try.ntmps16
  go_wp2_with fail
  go_quiet (fail)
  go_wp2_with fail
  obtain ⟨q, hq⟩ : ∃ q, l.length - n = q := ⟨_, rfl⟩
  have hq0 : q ≤ 1099511627776 := by omega
  have e := hsub.out
  rw [hq] at e hsw
  rw [← e]
  clear e hsub hq c0
  have hq1 : IntKind.u64.wrap ((q : Int) + 1) = (q : Int) + 1 := by rw [uwrap_eq, Int.emod_eq_of_lt (by omega) (by omega)]
  refine wp_region_held_drew (S := fun _ => True) (by kernel_rfl) trivial (fun hHeld => ?_)
  refine takeH 0 16 (.pointer (some ⟨b, 0, none⟩)) rfl rfl (by kernel_rfl) (by kernel_rfl) (by kernel_rfl) (fun _ _ _ h => h) (by rfl) ?_ trivial ?_
  · intro w' hSw
    go_simp
  try simp only [Act.put, List.setIfInBounds_toArray, List.set_cons_zero, List.set_cons_succ]
  refine takeH 1 17 (.pointer (some ⟨b, 0, none⟩)) rfl rfl (by kernel_rfl) (by kernel_rfl) (by kernel_rfl) (fun _ _ _ h => h) (by rfl) ?_ trivial ?_
  · intro w' hSw
    go_simp
  try simp only [Act.put, List.setIfInBounds_toArray, List.set_cons_zero, List.set_cons_succ]
  refine takeH 2 18 (.pointer (some ⟨b, 0, none⟩)) rfl rfl (by kernel_rfl) (by kernel_rfl) (by kernel_rfl) (fun _ _ _ h => h) (by rfl) ?_ trivial ?_
  · intro w' hSw
    go_simp
  try simp only [Act.put, List.setIfInBounds_toArray, List.set_cons_zero, List.set_cons_succ]
  refine takeH 3 19 (.pointer (some ⟨b, 1, none⟩)) rfl rfl (by kernel_rfl) (by kernel_rfl) (by kernel_rfl) (fun _ _ _ h => h) (by rfl) ?_ trivial ?_
  · intro w' hSw
    go_simp
  try simp only [Act.put, List.setIfInBounds_toArray, List.set_cons_zero, List.set_cons_succ]
  refine takeH 5 21 (.int .i64 keep) rfl rfl (by kernel_rfl) (by kernel_rfl) (by kernel_rfl) (fun _ _ _ h => h) (by rfl) ?_ trivial ?_
  · intro w' hSw
    go_simp
  try simp only [Act.put, List.setIfInBounds_toArray, List.set_cons_zero, List.set_cons_succ]
  refine takeH 6 22 (.int .u64 (IntKind.u64.wrap keep)) rfl rfl (by kernel_rfl) (by kernel_rfl) (by kernel_rfl) (fun _ _ _ h => h) (by rfl) ?_ trivial ?_
  · intro w' hSw
    go_simp
  try simp only [Act.put, List.setIfInBounds_toArray, List.set_cons_zero, List.set_cons_succ]
  refine takeH 7 23 (.int .u64 (q : Int)) rfl rfl (by kernel_rfl) (by kernel_rfl) (by kernel_rfl) (fun _ _ _ h => h) (by rfl) ?_ trivial ?_
  · intro w' hSw
    go_simp
  try simp only [Act.put, List.setIfInBounds_toArray, List.set_cons_zero, List.set_cons_succ]
  refine takeH 8 24 (.int .u64 ((q : Int) + 1)) rfl rfl (by kernel_rfl) (by kernel_rfl) (by kernel_rfl) (fun _ _ _ h => h) (by rfl) ?_ trivial ?_
  · intro w' hSw
    go_simp
  try simp only [Act.put, List.setIfInBounds_toArray, List.set_cons_zero, List.set_cons_succ]
  refine takeH 9 25 (.int .u64 ((IntKind.u64.wrap keep).tmod ((q : Int) + 1))) rfl rfl (by kernel_rfl) (by kernel_rfl) (by kernel_rfl) (fun _ _ _ h => h) (by rfl) ?_ trivial ?_
  · intro w' hSw
    go_simp
    omega
  try simp only [Act.put, List.setIfInBounds_toArray, List.set_cons_zero, List.set_cons_succ]
  refine takeH 10 26 (.int .i64 (wrap64 ((IntKind.u64.wrap keep).tmod ((q : Int) + 1)))) rfl rfl (by kernel_rfl) (by kernel_rfl) (by kernel_rfl) (fun _ _ _ h => h) (by rfl) ?_ trivial ?_
  · intro w' hSw
    go_simp
    exact i64w _
  try simp only [Act.put, List.setIfInBounds_toArray, List.set_cons_zero, List.set_cons_succ]
  refine wpAnyH_ready (rs := [4]) (by kernel_rfl) (by simp) (nextH 4 rfl (by rfl) (fun K hK => ?_) AllReadyH.nil)
  go_simp
  refine hK.out _ _ trivial (fun hHeld => ?_)
  clear hK K
  try simp only [Act.put, List.setIfInBounds_toArray, List.set_cons_zero, List.set_cons_succ]
  refine takeH 11 27 (.int .i64 (stay n l keep : Nat)) rfl rfl (by kernel_rfl) (by kernel_rfl) (by kernel_rfl) (fun _ _ _ h => h) (by rfl) ?_ trivial ?_
  · intro w' hSw
    go_simp
    rw [i64w, hsw.out]
  try simp only [Act.put, List.setIfInBounds_toArray, List.set_cons_zero, List.set_cons_succ]
  refine wpAnyH_ready (rs := [12]) (by kernel_rfl) (by simp) (nextH 12 rfl (by rfl) (fun K hK => ?_) AllReadyH.nil)
  go_simp
  refine (rcut_yes base b n _ _ l _ (H.out.below (below_drewN1 _ _)) hs.2).mono ?_
  rintro e w2 ⟨rfl, v', hd, hsv, hv⟩
  refine hK.out _ _ trivial (fun hHeld => ?_)
  clear hK K
  refine wpAnyH_done (by kernel_rfl) ?_ _
  try simp only [Act.put, List.setIfInBounds_toArray, List.set_cons_zero, List.set_cons_succ]
  go_end0
  exact ⟨rfl, v', hd, (Sav.of_below (below_drewN1 _ _)).trans hsv, hv⟩
end Go.Proofs.Ytnbikfgbjfcenaa
