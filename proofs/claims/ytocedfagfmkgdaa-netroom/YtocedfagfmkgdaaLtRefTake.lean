/- The document's own net: Take. -/
import Derived.Test.YtocedfagfmkgdaaLtRef
namespace Go.Proofs.Ytocedfagfmkgdaa
open Go.RowKit
set_option linter.unusedVariables false

def Any (_ : World) : Prop := True
theorem Reads.shift {α : Type} {n : Nat} {enc : α → List Value} (he : ∀ x, (enc x).length = n) (hn : 0 < n) {w : World} {p off m cap k : Nat} {l : List α} (h : Reads n enc w (.slice (some ⟨p, off, none⟩) m cap) l) : ∀ j u, (fl enc (l.drop k))[j]? = some u → w.cell? ⟨p, off + k * n + j, none⟩ = some u := by
  intro j u hu
  obtain ⟨x, hx, hk⟩ := fl_of he hn hu
  rw [List.getElem?_drop] at hx
  obtain ⟨ao', cap', hv, h1, h2, h3, h4⟩ := h
  cases hv
  obtain ⟨b, o, e, hlt, hc⟩ := h4 (by intro e; rw [e] at hx; simp at hx)
  cases e
  have := hc _ x hx _ u hk
  rw [show off + k * n + j = off + (k + j / n) * n + j % n by
    have := Nat.div_add_mod j n
    rw [Nat.add_mul]
    rw [Nat.mul_comm] at this
    omega]
  exact this
set_option maxHeartbeats 8000000 in
set_option maxRecDepth 100000 in
theorem rtake_yes (B q k : Nat) (u : Value) (ys : List LetX) (x : LetX) (w : World) (h : Rf B q u ys w) (hx : ys[k]? = some x) :
    Calls Try.prog 12 #[.pointer (some ⟨q, 0, none⟩), .int .i64 k] w fun e w' => e = .returned (.tuple #[.agg #[.int .i64 x.r.from_, .int .i64 x.r.to_, .int .i64 x.r.kind, .int .i64 x.r.split, .int .i64 x.r.attempt, .int .i64 x.r.part, .int .i64 x.r.seq, .int .i64 x.r.next, .int .i64 x.r.epoch, .int .i64 x.r.reason, .slice x.so x.r.set.length x.sc, .slice x.po x.r.prs.length x.pc], .bool true]) ∧ RTurns B q u (outN ys k) w w' := by
  obtain ⟨i0, hi, hz0, hz1, hz2⟩ := info_parts Try.infoL
  obtain ⟨ao, cap, rfl⟩ := h.slice
  have hk := (List.getElem?_eq_some_iff.1 hx).1
  have hfew := h.few
  have hqw := h.lt
  have hcap : ys.length ≤ cap ∧ cap ≤ 9223372036854775807 := by
    obtain ⟨ao', cap', hv, h1, h2, _⟩ := h.reads
    cases hv
    unfold maxLen at h2
    exact ⟨h1, h2⟩
  obtain ⟨hcap, hcm⟩ := hcap
  have hb2 := two_below w (.cells #[.int .i64 0, .int .i64 0, .int .i64 0, .int .i64 0, .int .i64 0, .int .i64 0, .int .i64 0, .int .i64 0, .int .i64 0, .int .i64 0, .slice none 0 0, .slice none 0 0] 36) (.cells #[.int .i64 x.r.from_, .int .i64 x.r.to_, .int .i64 x.r.kind, .int .i64 x.r.split, .int .i64 x.r.attempt, .int .i64 x.r.part, .int .i64 x.r.seq, .int .i64 x.r.next, .int .i64 x.r.epoch, .int .i64 x.r.reason, .slice x.so x.r.set.length x.sc, .slice x.po x.r.prs.length x.pc] 36)
  have H1 := hid (h.below (alloc_one w (.cells #[.int .i64 0, .int .i64 0, .int .i64 0, .int .i64 0, .int .i64 0, .int .i64 0, .int .i64 0, .int .i64 0, .int .i64 0, .int .i64 0, .slice none 0 0, .slice none 0 0] 36)))
  have H2 := hid (h.below hb2)
  have HR0 := hid (show ((w.alloc (.cells #[.int .i64 0, .int .i64 0, .int .i64 0, .int .i64 0, .int .i64 0, .int .i64 0, .int .i64 0, .int .i64 0, .int .i64 0, .int .i64 0, .slice none 0 0, .slice none 0 0] 36)).alloc (.cells #[.int .i64 x.r.from_, .int .i64 x.r.to_, .int .i64 x.r.kind, .int .i64 x.r.split, .int .i64 x.r.attempt, .int .i64 x.r.part, .int .i64 x.r.seq, .int .i64 x.r.next, .int .i64 x.r.epoch, .int .i64 x.r.reason, .slice x.so x.r.set.length x.sc, .slice x.po x.r.prs.length x.pc] 36)).heap[w.heap.size]? = some (.cells #[.int .i64 0, .int .i64 0, .int .i64 0, .int .i64 0, .int .i64 0, .int .i64 0, .int .i64 0, .int .i64 0, .int .i64 0, .int .i64 0, .slice none 0 0, .slice none 0 0] 36 (0, 0)) from ((alloc_one _ _).block _ (by simp)).trans (new_block w _))
  have HX0 := hid (show ((w.alloc (.cells #[.int .i64 0, .int .i64 0, .int .i64 0, .int .i64 0, .int .i64 0, .int .i64 0, .int .i64 0, .int .i64 0, .int .i64 0, .int .i64 0, .slice none 0 0, .slice none 0 0] 36)).alloc (.cells #[.int .i64 x.r.from_, .int .i64 x.r.to_, .int .i64 x.r.kind, .int .i64 x.r.split, .int .i64 x.r.attempt, .int .i64 x.r.part, .int .i64 x.r.seq, .int .i64 x.r.next, .int .i64 x.r.epoch, .int .i64 x.r.reason, .slice x.so x.r.set.length x.sc, .slice x.po x.r.prs.length x.pc] 36)).heap[w.heap.size + 1]? = some (.cells #[.int .i64 x.r.from_, .int .i64 x.r.to_, .int .i64 x.r.kind, .int .i64 x.r.split, .int .i64 x.r.attempt, .int .i64 x.r.part, .int .i64 x.r.seq, .int .i64 x.r.next, .int .i64 x.r.epoch, .int .i64 x.r.reason, .slice x.so x.r.set.length x.sc, .slice x.po x.r.prs.length x.pc] 36 (0, 0)) from by have := new_block (w.alloc (.cells #[.int .i64 0, .int .i64 0, .int .i64 0, .int .i64 0, .int .i64 0, .int .i64 0, .int .i64 0, .int .i64 0, .int .i64 0, .int .i64 0, .slice none 0 0, .slice none 0 0] 36)) (.cells #[.int .i64 x.r.from_, .int .i64 x.r.to_, .int .i64 x.r.kind, .int .i64 x.r.split, .int .i64 x.r.attempt, .int .i64 x.r.part, .int .i64 x.r.seq, .int .i64 x.r.next, .int .i64 x.r.epoch, .int .i64 x.r.reason, .slice x.so x.r.set.length x.sc, .slice x.po x.r.prs.length x.pc] 36); simpa using this)
  obtain ⟨p, off, ea, hp, hc⟩ := H1.out.reads.cells hk
  subst ea
  rw [(List.getElem?_eq_some_iff.1 hx).2] at hc
  obtain ⟨e0, e1, e2, e3, e4, e5, e6, e7, e8, e9, e10, e11⟩ := LC.of hc
  obtain ⟨A, hA, HSh⟩ : ∃ A : Addr, (if cap = k + 1 then some (⟨p, off, none⟩ : Addr) else some ⟨p, off + (k + 1) * 12, none⟩) = some A ∧ Hid (∀ w', Below ((w.alloc (.cells #[.int .i64 0, .int .i64 0, .int .i64 0, .int .i64 0, .int .i64 0, .int .i64 0, .int .i64 0, .int .i64 0, .int .i64 0, .int .i64 0, .slice none 0 0, .slice none 0 0] 36)).alloc (.cells #[.int .i64 x.r.from_, .int .i64 x.r.to_, .int .i64 x.r.kind, .int .i64 x.r.split, .int .i64 x.r.attempt, .int .i64 x.r.part, .int .i64 x.r.seq, .int .i64 x.r.next, .int .i64 x.r.epoch, .int .i64 x.r.reason, .slice x.so x.r.set.length x.sc, .slice x.po x.r.prs.length x.pc] 36)).drew.heap.size ((w.alloc (.cells #[.int .i64 0, .int .i64 0, .int .i64 0, .int .i64 0, .int .i64 0, .int .i64 0, .int .i64 0, .int .i64 0, .int .i64 0, .int .i64 0, .slice none 0 0, .slice none 0 0] 36)).alloc (.cells #[.int .i64 x.r.from_, .int .i64 x.r.to_, .int .i64 x.r.kind, .int .i64 x.r.split, .int .i64 x.r.attempt, .int .i64 x.r.part, .int .i64 x.r.seq, .int .i64 x.r.next, .int .i64 x.r.epoch, .int .i64 x.r.reason, .slice x.so x.r.set.length x.sc, .slice x.po x.r.prs.length x.pc] 36)).drew w' → ∀ ad, some A = some ad → ∀ j u, (fl encL (ys.drop (k + 1)))[j]? = some u → w'.cell? (ad.add j) = some u) := by
    by_cases hcc : cap = k + 1
    · refine ⟨⟨p, off, none⟩, by simp [hcc], fun w' hb ad e j u hu => ?_⟩
      have hl := (List.getElem?_eq_some_iff.1 hu).1
      rw [fl_length encL_len, List.length_drop] at hl
      omega
    · refine ⟨⟨p, off + (k + 1) * 12, none⟩, by simp [hcc], fun w' hb ad e j u hu => ?_⟩
      cases e
      rw [addr_add]
      exact Reads.shift encL_len (by decide) (((H2.out.below (below_drew1 _)).below hb).reads) j u hu
  have c0 := H1.out.c0
  have c1 := H2.out.c0
  have H0 := hid h
  have d0 : decide ((k : Int) < 0) = false := by simp
  have d1 : decide ((ys.length : Int) ≤ (k : Int)) = false := by simp; omega
  have hki : (k : Int) < (ys.length : Int) := by omega
  have hkc : k ≤ cap := by omega
  have hkn : k + 1 ≤ ys.length := hk
  have hlen1 : (fl encL (ys.take k)).length = k * 12 := by rw [fl_length encL_len, List.length_take]; omega
  have hlen2 : (fl encL (ys.drop (k + 1))).length = (ys.length - (k + 1)) * 12 := by rw [fl_length encL_len, List.length_drop]
  have n1 : ¬ q = w.heap.size := by omega
  have n2 : ¬ q = w.heap.size + 1 := by omega
  have n3 : ¬ w.heap.size = q := by omega
  have n4 : ¬ w.heap.size + 1 = q := by omega
  clear hc
  go_enter Try.func12, Try.ntmps12
  go_wp2_with fail
  have HD := hid (below_then hb2 (below_drew1 ((w.alloc (.cells #[.int .i64 0, .int .i64 0, .int .i64 0, .int .i64 0, .int .i64 0, .int .i64 0, .int .i64 0, .int .i64 0, .int .i64 0, .int .i64 0, .slice none 0 0, .slice none 0 0] 36)).alloc (.cells #[.int .i64 x.r.from_, .int .i64 x.r.to_, .int .i64 x.r.kind, .int .i64 x.r.split, .int .i64 x.r.attempt, .int .i64 x.r.part, .int .i64 x.r.seq, .int .i64 x.r.next, .int .i64 x.r.epoch, .int .i64 x.r.reason, .slice x.so x.r.set.length x.sc, .slice x.po x.r.prs.length x.pc] 36))) hb2.size)
  have H := hid (H2.out.below (below_drew1 _))
  have hS0 : Any ((w.alloc (.cells #[.int .i64 0, .int .i64 0, .int .i64 0, .int .i64 0, .int .i64 0, .int .i64 0, .int .i64 0, .int .i64 0, .int .i64 0, .int .i64 0, .slice none 0 0, .slice none 0 0] 36)).alloc (.cells #[.int .i64 x.r.from_, .int .i64 x.r.to_, .int .i64 x.r.kind, .int .i64 x.r.split, .int .i64 x.r.attempt, .int .i64 x.r.part, .int .i64 x.r.seq, .int .i64 x.r.next, .int .i64 x.r.epoch, .int .i64 x.r.reason, .slice x.so x.r.set.length x.sc, .slice x.po x.r.prs.length x.pc] 36)).drew := trivial
  replace HR0 : Hid (((w.alloc (.cells #[.int .i64 0, .int .i64 0, .int .i64 0, .int .i64 0, .int .i64 0, .int .i64 0, .int .i64 0, .int .i64 0, .int .i64 0, .int .i64 0, .slice none 0 0, .slice none 0 0] 36)).alloc (.cells #[.int .i64 x.r.from_, .int .i64 x.r.to_, .int .i64 x.r.kind, .int .i64 x.r.split, .int .i64 x.r.attempt, .int .i64 x.r.part, .int .i64 x.r.seq, .int .i64 x.r.next, .int .i64 x.r.epoch, .int .i64 x.r.reason, .slice x.so x.r.set.length x.sc, .slice x.po x.r.prs.length x.pc] 36)).drew.heap[w.heap.size]? = some (.cells #[.int .i64 0, .int .i64 0, .int .i64 0, .int .i64 0, .int .i64 0, .int .i64 0, .int .i64 0, .int .i64 0, .int .i64 0, .int .i64 0, .slice none 0 0, .slice none 0 0] 36 (0, 0))) := HR0
  replace HX0 : Hid (((w.alloc (.cells #[.int .i64 0, .int .i64 0, .int .i64 0, .int .i64 0, .int .i64 0, .int .i64 0, .int .i64 0, .int .i64 0, .int .i64 0, .int .i64 0, .slice none 0 0, .slice none 0 0] 36)).alloc (.cells #[.int .i64 x.r.from_, .int .i64 x.r.to_, .int .i64 x.r.kind, .int .i64 x.r.split, .int .i64 x.r.attempt, .int .i64 x.r.part, .int .i64 x.r.seq, .int .i64 x.r.next, .int .i64 x.r.epoch, .int .i64 x.r.reason, .slice x.so x.r.set.length x.sc, .slice x.po x.r.prs.length x.pc] 36)).drew.heap[w.heap.size + 1]? = some (.cells #[.int .i64 x.r.from_, .int .i64 x.r.to_, .int .i64 x.r.kind, .int .i64 x.r.split, .int .i64 x.r.attempt, .int .i64 x.r.part, .int .i64 x.r.seq, .int .i64 x.r.next, .int .i64 x.r.epoch, .int .i64 x.r.reason, .slice x.so x.r.set.length x.sc, .slice x.po x.r.prs.length x.pc] 36 (0, 0))) := HX0
  clear H1 H2 c0 c1 e0 e1 e2 e3 e4 e5 e6 e7 e8 e9 e10 e11 h hb2
  refine wp_region_held_drew (S := Any) (by kernel_rfl) hS0 (fun hHeld => ?_)
  generalize ((w.alloc (.cells #[.int .i64 0, .int .i64 0, .int .i64 0, .int .i64 0, .int .i64 0, .int .i64 0, .int .i64 0, .int .i64 0, .int .i64 0, .int .i64 0, .slice none 0 0, .slice none 0 0] 36)).alloc (.cells #[.int .i64 x.r.from_, .int .i64 x.r.to_, .int .i64 x.r.kind, .int .i64 x.r.split, .int .i64 x.r.attempt, .int .i64 x.r.part, .int .i64 x.r.seq, .int .i64 x.r.next, .int .i64 x.r.epoch, .int .i64 x.r.reason, .slice x.so x.r.set.length x.sc, .slice x.po x.r.prs.length x.pc] 36)).drew = wd at H HD HSh hS0 HR0 HX0 hHeld ⊢
  have HRF := hid (fun w' (hb : Below wd.heap.size wd w') => (H.out.below hb).c0)
  have HFF := hid (fun w' (hb : Below wd.heap.size wd w') => show w'.frozen? ⟨q, 0, none⟩ = false from free_of_cells (H.out.below hb).obj)
  have HSF := hid (fun w' (hb : Below wd.heap.size wd w') => show Any w' from trivial)
  have HNW := hid (fun w' (hb : Below wd.heap.size wd w') => Reads.news (l := ys.take k) (m := k) (cap := cap) encL_len (by decide) (by
    have hcut : Reads 12 encL wd (.slice (some ⟨p, off, none⟩) (ys.take k).length cap) (ys.take k) := Reads.cut (r := ys.drop k) (m := ys.length) (by rw [List.take_append_drop]; exact H.out.reads)
    rwa [List.length_take, Nat.min_eq_left (by omega)] at hcut) hb)
  have HNX := HSh
  have HSS := hid (fun (w' : World) (v : Value) (hS : Any w') => show Any (w'.setCell ⟨q, 0, none⟩ v) from trivial)
  have x0 := HRF.out _ (Below.refl _ _)
  have HB0 := hid (Below.refl wd.heap.size wd)
  refine takeH 0 26 (.pointer (some ⟨q, 0, none⟩)) rfl rfl (by kernel_rfl) (by kernel_rfl) (by kernel_rfl) (fun _ _ _ h => h) (by rfl) ?_ (by assumption) ?_
  · intro w' hSw
    go_simp
  try simp only [Act.put, List.setIfInBounds_toArray, List.set_cons_zero, List.set_cons_succ]
  refine takeH 1 27 (.pointer (some ⟨q, 0, none⟩)) rfl rfl (by kernel_rfl) (by kernel_rfl) (by kernel_rfl) (fun _ _ _ h => h) (by rfl) ?_ (by assumption) ?_
  · intro w' hSw
    go_simp
  try simp only [Act.put, List.setIfInBounds_toArray, List.set_cons_zero, List.set_cons_succ]
  refine takeH 2 28 (.pointer (some ⟨q, 0, none⟩)) rfl rfl (by kernel_rfl) (by kernel_rfl) (by kernel_rfl) (fun _ _ _ h => h) (by rfl) ?_ (by assumption) ?_
  · intro w' hSw
    go_simp
  try simp only [Act.put, List.setIfInBounds_toArray, List.set_cons_zero, List.set_cons_succ]
  refine takeH 3 29 (.pointer (some ⟨q, 0, none⟩)) rfl rfl (by kernel_rfl) (by kernel_rfl) (by kernel_rfl) (fun _ _ _ h => h) (by rfl) ?_ (by assumption) ?_
  · intro w' hSw
    go_simp
  try simp only [Act.put, List.setIfInBounds_toArray, List.set_cons_zero, List.set_cons_succ]
  refine takeH 5 31 (.int .i64 k) rfl rfl (by kernel_rfl) (by kernel_rfl) (by kernel_rfl) (fun _ _ _ h => h) (by rfl) ?_ (by assumption) ?_
  · intro w' hSw
    go_simp
  try simp only [Act.put, List.setIfInBounds_toArray, List.set_cons_zero, List.set_cons_succ]
  refine takeH 8 34 (.pointer (some ⟨q, 0, none⟩)) rfl rfl (by kernel_rfl) (by kernel_rfl) (by kernel_rfl) (fun _ _ _ h => h) (by rfl) ?_ (by assumption) ?_
  · intro w' hSw
    go_simp
  try simp only [Act.put, List.setIfInBounds_toArray, List.set_cons_zero, List.set_cons_succ]
  refine takeH 9 35 (.pointer (some ⟨q, 0, none⟩)) rfl rfl (by kernel_rfl) (by kernel_rfl) (by kernel_rfl) (fun _ _ _ h => h) (by rfl) ?_ (by assumption) ?_
  · intro w' hSw
    go_simp
  try simp only [Act.put, List.setIfInBounds_toArray, List.set_cons_zero, List.set_cons_succ]
  refine takeH 10 36 (.pointer (some ⟨q, 0, none⟩)) rfl rfl (by kernel_rfl) (by kernel_rfl) (by kernel_rfl) (fun _ _ _ h => h) (by rfl) ?_ (by assumption) ?_
  · intro w' hSw
    go_simp
  try simp only [Act.put, List.setIfInBounds_toArray, List.set_cons_zero, List.set_cons_succ]
  refine takeH 12 38 (.int .i64 k) rfl rfl (by kernel_rfl) (by kernel_rfl) (by kernel_rfl) (fun _ _ _ h => h) (by rfl) ?_ (by assumption) ?_
  · intro w' hSw
    go_simp
  try simp only [Act.put, List.setIfInBounds_toArray, List.set_cons_zero, List.set_cons_succ]
  refine takeH 13 39 (.int .i64 ((k : Int) + 1)) rfl rfl (by kernel_rfl) (by kernel_rfl) (by kernel_rfl) (fun _ _ _ h => h) (by rfl) ?_ (by assumption) ?_
  · intro w' hSw
    go_simp
    rw [IntKind.wrap_i64]
    omega
  try simp only [Act.put, List.setIfInBounds_toArray, List.set_cons_zero, List.set_cons_succ]
  refine wpAnyH_ready (rs := [4, 11]) (by kernel_rfl) (by simp) (nextH 4 rfl (by rfl) (fun K hK => ?_) (nextH 11 rfl (by rfl) (fun K hK => ?_) AllReadyH.nil))
  · go_simp
    refine hK.out _ _ (by assumption) (fun hHeld => ?_)
    clear hK K
    try simp only [Act.put, List.setIfInBounds_toArray, List.set_cons_zero, List.set_cons_succ]
    refine takeH 6 32 (.slice (some ⟨p, off, none⟩) (k) (cap)) rfl rfl (by kernel_rfl) (by kernel_rfl) (by kernel_rfl) (fun _ _ _ h => h) (by rfl) ?_ (by assumption) ?_
    · intro w' hSw
      go_simp
    try simp only [Act.put, List.setIfInBounds_toArray, List.set_cons_zero, List.set_cons_succ]
    refine wpAnyH_ready (rs := [7, 11]) (by kernel_rfl) (by simp) (AllReadyH.cons rfl (fun K hK => ?_) (nextH 11 rfl (by rfl) (fun K hK => ?_) AllReadyH.nil))
    · refine step_append_any_to 33 rfl rfl (.const (.slice none 0 0)) (.tmp 32) 28 rfl wd.heap.size 36 i0 _ 12 128 Try.underlying28 hi hz0 hz1 hz2 rfl (by decide) (.slice none 0 0) 0 [] (by simp [Act.eval]) (World.ownsRow_nil _ _ _ _) (some ⟨p, off, none⟩) (k) cap (fl encL (ys.take k)) (by simp [Act.eval]) hlen1 (fun e => by cases e) (HNW.out _ HB0.out) (fl_one encL_one _) (by unfold maxLen; omega) (by omega) HB0.out.size ?_
      intro v1 w1 ho1 hg1
      simp only [Nat.zero_add, List.nil_append] at ho1
      have hb1 := below_none hg1
      obtain ⟨a1, k1, rfl⟩ := owns_slice ho1
      have HB2 := hid (below_then HB0.out hb1 HB0.out.size)
      have x2 := HRF.out _ HB2.out
      have hS2 := HSF.out _ HB2.out
      refine hK.out _ _ (by assumption) (fun hHeld => ?_)
      clear hK K
      try simp only [Act.put, List.setIfInBounds_toArray, List.set_cons_zero, List.set_cons_succ]
      refine wpAnyH_ready (rs := [11]) (by kernel_rfl) (by simp) (nextH 11 rfl (by rfl) (fun K hK => ?_) AllReadyH.nil)
      go_simp
      refine hK.out _ _ (by assumption) (fun hHeld => ?_)
      clear hK K
      try simp only [Act.put, List.setIfInBounds_toArray, List.set_cons_zero, List.set_cons_succ]
      refine takeH 14 40 (.slice (some A) (ys.length - (k + 1)) (cap - (k + 1))) rfl rfl (by kernel_rfl) (by kernel_rfl) (by kernel_rfl) (fun _ _ _ h => h) (by rfl) ?_ (by assumption) ?_
      · intro w' hSw
        go_simp
        intro hbad
        exact absurd (hbad (by omega)) (by omega)
      try simp only [Act.put, List.setIfInBounds_toArray, List.set_cons_zero, List.set_cons_succ]
      refine wpAnyH_ready (rs := [15]) (by kernel_rfl) (by simp) (AllReadyH.cons rfl (fun K hK => ?_) AllReadyH.nil)
      refine step_append_any_to 41 rfl rfl (.tmp 33) (.tmp 40) 28 rfl wd.heap.size 36 i0 _ 12 128 Try.underlying28 hi hz0 hz1 hz2 rfl (by decide) _ (k) (fl encL (ys.take k)) (by simp [Act.eval]) ho1 (some A) (ys.length - (k + 1)) (cap - (k + 1)) (fl encL (ys.drop (k + 1))) (by simp [Act.eval]) hlen2 (fun e => by cases e) (HNX.out _ HB2.out) (fl_one encL_one _) (by unfold maxLen; omega) (by omega) HB2.out.size ?_
      intro v3 w3 ho3 hg3
      have HG3 := hid (HB2.out.grown hg3 HB2.out.size (fun r hr => (ho1.lt r hr).1))
      have x3 := HRF.out _ HG3.out
      have hS3 := HSF.out _ HG3.out
      have f3 := HFF.out _ HG3.out
      obtain ⟨a3, k3, rfl⟩ := owns_slice ho3
      have HO3 := hid ho3
      clear ho3 hg3
      refine hK.out _ _ (by assumption) (fun hHeld => ?_)
      clear hK K
      try simp only [Act.put, List.setIfInBounds_toArray, List.set_cons_zero, List.set_cons_succ]
      refine takeH 16 42 (.pointer (some ⟨q, 0, none⟩)) rfl rfl (by kernel_rfl) (by kernel_rfl) (by kernel_rfl) (fun _ _ _ h => h) (by rfl) ?_ (by assumption) ?_
      · intro w' hSw
        go_simp
      try simp only [Act.put, List.setIfInBounds_toArray, List.set_cons_zero, List.set_cons_succ]
      refine takeH 17 43 (.pointer (some ⟨q, 0, none⟩)) rfl rfl (by kernel_rfl) (by kernel_rfl) (by kernel_rfl) (fun _ _ _ h => h) (by rfl) ?_ (by assumption) ?_
      · intro w' hSw
        go_simp
      try simp only [Act.put, List.setIfInBounds_toArray, List.set_cons_zero, List.set_cons_succ]
      refine wpAnyH_ready (rs := [18]) (by kernel_rfl) (by simp) (nextH 18 rfl (by rfl) (fun K hK => ?_) AllReadyH.nil)
      go_simp
      refine hK.out _ _ (HSS.out _ _ hS3) (fun hHeld => ?_)
      clear hK K
      try simp only [Act.put, List.setIfInBounds_toArray, List.set_cons_zero, List.set_cons_succ]
      refine wpAnyH_done (by kernel_rfl) ?_ _
      have hr3 : w3.heap[w.heap.size]? = some (.cells #[.int .i64 0, .int .i64 0, .int .i64 0, .int .i64 0, .int .i64 0, .int .i64 0, .int .i64 0, .int .i64 0, .int .i64 0, .int .i64 0, .slice none 0 0, .slice none 0 0] 36 (0, 0)) := (HG3.out.block _ (lt_of_block HR0.out)).trans HR0.out
      have hx3 : w3.heap[w.heap.size + 1]? = some (.cells #[.int .i64 x.r.from_, .int .i64 x.r.to_, .int .i64 x.r.kind, .int .i64 x.r.split, .int .i64 x.r.attempt, .int .i64 x.r.part, .int .i64 x.r.seq, .int .i64 x.r.next, .int .i64 x.r.epoch, .int .i64 x.r.reason, .slice x.so x.r.set.length x.sc, .slice x.po x.r.prs.length x.pc] 36 (0, 0)) := (HG3.out.block _ (lt_of_block HX0.out)).trans HX0.out
      have b0 : w3.cell? ⟨w.heap.size + 1, 0, none⟩ = _ := cell_of_cells (j := 0) hx3
      have d0 : w3.cell? ⟨w.heap.size, 0, none⟩ = _ := cell_of_cells (j := 0) hr3
      have b1 : w3.cell? ⟨w.heap.size + 1, 1, none⟩ = _ := cell_of_cells (j := 1) hx3
      have d1 : w3.cell? ⟨w.heap.size, 1, none⟩ = _ := cell_of_cells (j := 1) hr3
      have b2 : w3.cell? ⟨w.heap.size + 1, 2, none⟩ = _ := cell_of_cells (j := 2) hx3
      have d2 : w3.cell? ⟨w.heap.size, 2, none⟩ = _ := cell_of_cells (j := 2) hr3
      have b3 : w3.cell? ⟨w.heap.size + 1, 3, none⟩ = _ := cell_of_cells (j := 3) hx3
      have d3 : w3.cell? ⟨w.heap.size, 3, none⟩ = _ := cell_of_cells (j := 3) hr3
      have b4 : w3.cell? ⟨w.heap.size + 1, 4, none⟩ = _ := cell_of_cells (j := 4) hx3
      have d4 : w3.cell? ⟨w.heap.size, 4, none⟩ = _ := cell_of_cells (j := 4) hr3
      have b5 : w3.cell? ⟨w.heap.size + 1, 5, none⟩ = _ := cell_of_cells (j := 5) hx3
      have d5 : w3.cell? ⟨w.heap.size, 5, none⟩ = _ := cell_of_cells (j := 5) hr3
      have b6 : w3.cell? ⟨w.heap.size + 1, 6, none⟩ = _ := cell_of_cells (j := 6) hx3
      have d6 : w3.cell? ⟨w.heap.size, 6, none⟩ = _ := cell_of_cells (j := 6) hr3
      have b7 : w3.cell? ⟨w.heap.size + 1, 7, none⟩ = _ := cell_of_cells (j := 7) hx3
      have d7 : w3.cell? ⟨w.heap.size, 7, none⟩ = _ := cell_of_cells (j := 7) hr3
      have b8 : w3.cell? ⟨w.heap.size + 1, 8, none⟩ = _ := cell_of_cells (j := 8) hx3
      have d8 : w3.cell? ⟨w.heap.size, 8, none⟩ = _ := cell_of_cells (j := 8) hr3
      have b9 : w3.cell? ⟨w.heap.size + 1, 9, none⟩ = _ := cell_of_cells (j := 9) hx3
      have d9 : w3.cell? ⟨w.heap.size, 9, none⟩ = _ := cell_of_cells (j := 9) hr3
      have b10 : w3.cell? ⟨w.heap.size + 1, 10, none⟩ = _ := cell_of_cells (j := 10) hx3
      have d10 : w3.cell? ⟨w.heap.size, 10, none⟩ = _ := cell_of_cells (j := 10) hr3
      have b11 : w3.cell? ⟨w.heap.size + 1, 11, none⟩ = _ := cell_of_cells (j := 11) hx3
      have d11 : w3.cell? ⟨w.heap.size, 11, none⟩ = _ := cell_of_cells (j := 11) hr3
      simp at b0 d0 b1 d1 b2 d2 b3 d3 b4 d4 b5 d5 b6 d6 b7 d7 b8 d8 b9 d9 b10 d10 b11 d11
      have fd : ∀ j, w3.frozen? ⟨w.heap.size, j, none⟩ = false := fun j => free_of_cells hr3
      have HR3 := hid hr3
      clear hr3 hx3
      go_wp2
      obtain ⟨r1, r2, r3⟩ := Rf.put H.out HD.out HG3.out (l := outN ys k) (by have := HO3.out; rw [← fl_append] at this; exact this) (by have := outN_length hk; simp only [outN, List.length_append, List.length_take, List.length_drop]; omega) (by have := outN_length hk; omega)
      have hr4 := set_two (j := 0) (v := .slice a3 (k + (ys.length - (k + 1))) k3) HR3.out n3
      obtain ⟨hblk, hsv⟩ := set_twelve hr4 (.int .i64 x.r.from_) (.int .i64 x.r.to_) (.int .i64 x.r.kind) (.int .i64 x.r.split) (.int .i64 x.r.attempt) (.int .i64 x.r.part) (.int .i64 x.r.seq) (.int .i64 x.r.next) (.int .i64 x.r.epoch) (.int .i64 x.r.reason) (.slice x.so x.r.set.length x.sc) (.slice x.po x.r.prs.length x.pc)
      refine bodyPost_ret (results_cell2 rfl _ _ w.heap.size 36 _ (0, 0) _ (by rfl) hblk Try.underlying36 rfl (by kernel_rfl)) rfl ?_
      have hsz := lt_of_block HX0.out
      exact ⟨rfl, _, r1.sav hsv n1 (fun c hc e => by
        have h1 := r3 c hc
        have h2 : c = w.heap.size := e
        omega), r2.then hsv (fun c hc e => absurd (show c = w.heap.size from e) (by omega)), .inr (fun c hc => by
        have h1 := r3 c hc
        omega)⟩
    · go_simp
      refine hK.out _ _ (by assumption) (fun hHeld => ?_)
      clear hK K
      try simp only [Act.put, List.setIfInBounds_toArray, List.set_cons_zero, List.set_cons_succ]
      refine takeH 14 40 (.slice (some A) (ys.length - (k + 1)) (cap - (k + 1))) rfl rfl (by kernel_rfl) (by kernel_rfl) (by kernel_rfl) (fun _ _ _ h => h) (by rfl) ?_ (by assumption) ?_
      · intro w' hSw
        go_simp
        intro hbad
        exact absurd (hbad (by omega)) (by omega)
      try simp only [Act.put, List.setIfInBounds_toArray, List.set_cons_zero, List.set_cons_succ]
      refine wpAnyH_ready (rs := [7]) (by kernel_rfl) (by simp) (AllReadyH.cons rfl (fun K hK => ?_) AllReadyH.nil)
      refine step_append_any_to 33 rfl rfl (.const (.slice none 0 0)) (.tmp 32) 28 rfl wd.heap.size 36 i0 _ 12 128 Try.underlying28 hi hz0 hz1 hz2 rfl (by decide) (.slice none 0 0) 0 [] (by simp [Act.eval]) (World.ownsRow_nil _ _ _ _) (some ⟨p, off, none⟩) (k) cap (fl encL (ys.take k)) (by simp [Act.eval]) hlen1 (fun e => by cases e) (HNW.out _ HB0.out) (fl_one encL_one _) (by unfold maxLen; omega) (by omega) HB0.out.size ?_
      intro v4 w4 ho4 hg4
      simp only [Nat.zero_add, List.nil_append] at ho4
      have hb4 := below_none hg4
      obtain ⟨a4, k4, rfl⟩ := owns_slice ho4
      have HB5 := hid (below_then HB0.out hb4 HB0.out.size)
      have x5 := HRF.out _ HB5.out
      have hS5 := HSF.out _ HB5.out
      refine hK.out _ _ (by assumption) (fun hHeld => ?_)
      clear hK K
      try simp only [Act.put, List.setIfInBounds_toArray, List.set_cons_zero, List.set_cons_succ]
      refine wpAnyH_ready (rs := [15]) (by kernel_rfl) (by simp) (AllReadyH.cons rfl (fun K hK => ?_) AllReadyH.nil)
      refine step_append_any_to 41 rfl rfl (.tmp 33) (.tmp 40) 28 rfl wd.heap.size 36 i0 _ 12 128 Try.underlying28 hi hz0 hz1 hz2 rfl (by decide) _ (k) (fl encL (ys.take k)) (by simp [Act.eval]) ho4 (some A) (ys.length - (k + 1)) (cap - (k + 1)) (fl encL (ys.drop (k + 1))) (by simp [Act.eval]) hlen2 (fun e => by cases e) (HNX.out _ HB5.out) (fl_one encL_one _) (by unfold maxLen; omega) (by omega) HB5.out.size ?_
      intro v6 w6 ho6 hg6
      have HG6 := hid (HB5.out.grown hg6 HB5.out.size (fun r hr => (ho4.lt r hr).1))
      have x6 := HRF.out _ HG6.out
      have hS6 := HSF.out _ HG6.out
      have f6 := HFF.out _ HG6.out
      obtain ⟨a6, k6, rfl⟩ := owns_slice ho6
      have HO6 := hid ho6
      clear ho6 hg6
      refine hK.out _ _ (by assumption) (fun hHeld => ?_)
      clear hK K
      try simp only [Act.put, List.setIfInBounds_toArray, List.set_cons_zero, List.set_cons_succ]
      refine takeH 16 42 (.pointer (some ⟨q, 0, none⟩)) rfl rfl (by kernel_rfl) (by kernel_rfl) (by kernel_rfl) (fun _ _ _ h => h) (by rfl) ?_ (by assumption) ?_
      · intro w' hSw
        go_simp
      try simp only [Act.put, List.setIfInBounds_toArray, List.set_cons_zero, List.set_cons_succ]
      refine takeH 17 43 (.pointer (some ⟨q, 0, none⟩)) rfl rfl (by kernel_rfl) (by kernel_rfl) (by kernel_rfl) (fun _ _ _ h => h) (by rfl) ?_ (by assumption) ?_
      · intro w' hSw
        go_simp
      try simp only [Act.put, List.setIfInBounds_toArray, List.set_cons_zero, List.set_cons_succ]
      refine wpAnyH_ready (rs := [18]) (by kernel_rfl) (by simp) (nextH 18 rfl (by rfl) (fun K hK => ?_) AllReadyH.nil)
      go_simp
      refine hK.out _ _ (HSS.out _ _ hS6) (fun hHeld => ?_)
      clear hK K
      try simp only [Act.put, List.setIfInBounds_toArray, List.set_cons_zero, List.set_cons_succ]
      refine wpAnyH_done (by kernel_rfl) ?_ _
      have hr3 : w6.heap[w.heap.size]? = some (.cells #[.int .i64 0, .int .i64 0, .int .i64 0, .int .i64 0, .int .i64 0, .int .i64 0, .int .i64 0, .int .i64 0, .int .i64 0, .int .i64 0, .slice none 0 0, .slice none 0 0] 36 (0, 0)) := (HG6.out.block _ (lt_of_block HR0.out)).trans HR0.out
      have hx3 : w6.heap[w.heap.size + 1]? = some (.cells #[.int .i64 x.r.from_, .int .i64 x.r.to_, .int .i64 x.r.kind, .int .i64 x.r.split, .int .i64 x.r.attempt, .int .i64 x.r.part, .int .i64 x.r.seq, .int .i64 x.r.next, .int .i64 x.r.epoch, .int .i64 x.r.reason, .slice x.so x.r.set.length x.sc, .slice x.po x.r.prs.length x.pc] 36 (0, 0)) := (HG6.out.block _ (lt_of_block HX0.out)).trans HX0.out
      have b0 : w6.cell? ⟨w.heap.size + 1, 0, none⟩ = _ := cell_of_cells (j := 0) hx3
      have d0 : w6.cell? ⟨w.heap.size, 0, none⟩ = _ := cell_of_cells (j := 0) hr3
      have b1 : w6.cell? ⟨w.heap.size + 1, 1, none⟩ = _ := cell_of_cells (j := 1) hx3
      have d1 : w6.cell? ⟨w.heap.size, 1, none⟩ = _ := cell_of_cells (j := 1) hr3
      have b2 : w6.cell? ⟨w.heap.size + 1, 2, none⟩ = _ := cell_of_cells (j := 2) hx3
      have d2 : w6.cell? ⟨w.heap.size, 2, none⟩ = _ := cell_of_cells (j := 2) hr3
      have b3 : w6.cell? ⟨w.heap.size + 1, 3, none⟩ = _ := cell_of_cells (j := 3) hx3
      have d3 : w6.cell? ⟨w.heap.size, 3, none⟩ = _ := cell_of_cells (j := 3) hr3
      have b4 : w6.cell? ⟨w.heap.size + 1, 4, none⟩ = _ := cell_of_cells (j := 4) hx3
      have d4 : w6.cell? ⟨w.heap.size, 4, none⟩ = _ := cell_of_cells (j := 4) hr3
      have b5 : w6.cell? ⟨w.heap.size + 1, 5, none⟩ = _ := cell_of_cells (j := 5) hx3
      have d5 : w6.cell? ⟨w.heap.size, 5, none⟩ = _ := cell_of_cells (j := 5) hr3
      have b6 : w6.cell? ⟨w.heap.size + 1, 6, none⟩ = _ := cell_of_cells (j := 6) hx3
      have d6 : w6.cell? ⟨w.heap.size, 6, none⟩ = _ := cell_of_cells (j := 6) hr3
      have b7 : w6.cell? ⟨w.heap.size + 1, 7, none⟩ = _ := cell_of_cells (j := 7) hx3
      have d7 : w6.cell? ⟨w.heap.size, 7, none⟩ = _ := cell_of_cells (j := 7) hr3
      have b8 : w6.cell? ⟨w.heap.size + 1, 8, none⟩ = _ := cell_of_cells (j := 8) hx3
      have d8 : w6.cell? ⟨w.heap.size, 8, none⟩ = _ := cell_of_cells (j := 8) hr3
      have b9 : w6.cell? ⟨w.heap.size + 1, 9, none⟩ = _ := cell_of_cells (j := 9) hx3
      have d9 : w6.cell? ⟨w.heap.size, 9, none⟩ = _ := cell_of_cells (j := 9) hr3
      have b10 : w6.cell? ⟨w.heap.size + 1, 10, none⟩ = _ := cell_of_cells (j := 10) hx3
      have d10 : w6.cell? ⟨w.heap.size, 10, none⟩ = _ := cell_of_cells (j := 10) hr3
      have b11 : w6.cell? ⟨w.heap.size + 1, 11, none⟩ = _ := cell_of_cells (j := 11) hx3
      have d11 : w6.cell? ⟨w.heap.size, 11, none⟩ = _ := cell_of_cells (j := 11) hr3
      simp at b0 d0 b1 d1 b2 d2 b3 d3 b4 d4 b5 d5 b6 d6 b7 d7 b8 d8 b9 d9 b10 d10 b11 d11
      have fd : ∀ j, w6.frozen? ⟨w.heap.size, j, none⟩ = false := fun j => free_of_cells hr3
      have HR3 := hid hr3
      clear hr3 hx3
      go_wp2
      obtain ⟨r1, r2, r3⟩ := Rf.put H.out HD.out HG6.out (l := outN ys k) (by have := HO6.out; rw [← fl_append] at this; exact this) (by have := outN_length hk; simp only [outN, List.length_append, List.length_take, List.length_drop]; omega) (by have := outN_length hk; omega)
      have hr4 := set_two (j := 0) (v := .slice a6 (k + (ys.length - (k + 1))) k6) HR3.out n3
      obtain ⟨hblk, hsv⟩ := set_twelve hr4 (.int .i64 x.r.from_) (.int .i64 x.r.to_) (.int .i64 x.r.kind) (.int .i64 x.r.split) (.int .i64 x.r.attempt) (.int .i64 x.r.part) (.int .i64 x.r.seq) (.int .i64 x.r.next) (.int .i64 x.r.epoch) (.int .i64 x.r.reason) (.slice x.so x.r.set.length x.sc) (.slice x.po x.r.prs.length x.pc)
      refine bodyPost_ret (results_cell2 rfl _ _ w.heap.size 36 _ (0, 0) _ (by rfl) hblk Try.underlying36 rfl (by kernel_rfl)) rfl ?_
      have hsz := lt_of_block HX0.out
      exact ⟨rfl, _, r1.sav hsv n1 (fun c hc e => by
        have h1 := r3 c hc
        have h2 : c = w.heap.size := e
        omega), r2.then hsv (fun c hc e => absurd (show c = w.heap.size from e) (by omega)), .inr (fun c hc => by
        have h1 := r3 c hc
        omega)⟩
  · go_simp
    refine hK.out _ _ (by assumption) (fun hHeld => ?_)
    clear hK K
    try simp only [Act.put, List.setIfInBounds_toArray, List.set_cons_zero, List.set_cons_succ]
    refine takeH 14 40 (.slice (some A) (ys.length - (k + 1)) (cap - (k + 1))) rfl rfl (by kernel_rfl) (by kernel_rfl) (by kernel_rfl) (fun _ _ _ h => h) (by rfl) ?_ (by assumption) ?_
    · intro w' hSw
      go_simp
      intro hbad
      exact absurd (hbad (by omega)) (by omega)
    try simp only [Act.put, List.setIfInBounds_toArray, List.set_cons_zero, List.set_cons_succ]
    refine wpAnyH_ready (rs := [4]) (by kernel_rfl) (by simp) (nextH 4 rfl (by rfl) (fun K hK => ?_) AllReadyH.nil)
    go_simp
    refine hK.out _ _ (by assumption) (fun hHeld => ?_)
    clear hK K
    try simp only [Act.put, List.setIfInBounds_toArray, List.set_cons_zero, List.set_cons_succ]
    refine takeH 6 32 (.slice (some ⟨p, off, none⟩) (k) (cap)) rfl rfl (by kernel_rfl) (by kernel_rfl) (by kernel_rfl) (fun _ _ _ h => h) (by rfl) ?_ (by assumption) ?_
    · intro w' hSw
      go_simp
    try simp only [Act.put, List.setIfInBounds_toArray, List.set_cons_zero, List.set_cons_succ]
    refine wpAnyH_ready (rs := [7]) (by kernel_rfl) (by simp) (AllReadyH.cons rfl (fun K hK => ?_) AllReadyH.nil)
    refine step_append_any_to 33 rfl rfl (.const (.slice none 0 0)) (.tmp 32) 28 rfl wd.heap.size 36 i0 _ 12 128 Try.underlying28 hi hz0 hz1 hz2 rfl (by decide) (.slice none 0 0) 0 [] (by simp [Act.eval]) (World.ownsRow_nil _ _ _ _) (some ⟨p, off, none⟩) (k) cap (fl encL (ys.take k)) (by simp [Act.eval]) hlen1 (fun e => by cases e) (HNW.out _ HB0.out) (fl_one encL_one _) (by unfold maxLen; omega) (by omega) HB0.out.size ?_
    intro v7 w7 ho7 hg7
    simp only [Nat.zero_add, List.nil_append] at ho7
    have hb7 := below_none hg7
    obtain ⟨a7, k7, rfl⟩ := owns_slice ho7
    have HB8 := hid (below_then HB0.out hb7 HB0.out.size)
    have x8 := HRF.out _ HB8.out
    have hS8 := HSF.out _ HB8.out
    refine hK.out _ _ (by assumption) (fun hHeld => ?_)
    clear hK K
    try simp only [Act.put, List.setIfInBounds_toArray, List.set_cons_zero, List.set_cons_succ]
    refine wpAnyH_ready (rs := [15]) (by kernel_rfl) (by simp) (AllReadyH.cons rfl (fun K hK => ?_) AllReadyH.nil)
    refine step_append_any_to 41 rfl rfl (.tmp 33) (.tmp 40) 28 rfl wd.heap.size 36 i0 _ 12 128 Try.underlying28 hi hz0 hz1 hz2 rfl (by decide) _ (k) (fl encL (ys.take k)) (by simp [Act.eval]) ho7 (some A) (ys.length - (k + 1)) (cap - (k + 1)) (fl encL (ys.drop (k + 1))) (by simp [Act.eval]) hlen2 (fun e => by cases e) (HNX.out _ HB8.out) (fl_one encL_one _) (by unfold maxLen; omega) (by omega) HB8.out.size ?_
    intro v9 w9 ho9 hg9
    have HG9 := hid (HB8.out.grown hg9 HB8.out.size (fun r hr => (ho7.lt r hr).1))
    have x9 := HRF.out _ HG9.out
    have hS9 := HSF.out _ HG9.out
    have f9 := HFF.out _ HG9.out
    obtain ⟨a9, k9, rfl⟩ := owns_slice ho9
    have HO9 := hid ho9
    clear ho9 hg9
    refine hK.out _ _ (by assumption) (fun hHeld => ?_)
    clear hK K
    try simp only [Act.put, List.setIfInBounds_toArray, List.set_cons_zero, List.set_cons_succ]
    refine takeH 16 42 (.pointer (some ⟨q, 0, none⟩)) rfl rfl (by kernel_rfl) (by kernel_rfl) (by kernel_rfl) (fun _ _ _ h => h) (by rfl) ?_ (by assumption) ?_
    · intro w' hSw
      go_simp
    try simp only [Act.put, List.setIfInBounds_toArray, List.set_cons_zero, List.set_cons_succ]
    refine takeH 17 43 (.pointer (some ⟨q, 0, none⟩)) rfl rfl (by kernel_rfl) (by kernel_rfl) (by kernel_rfl) (fun _ _ _ h => h) (by rfl) ?_ (by assumption) ?_
    · intro w' hSw
      go_simp
    try simp only [Act.put, List.setIfInBounds_toArray, List.set_cons_zero, List.set_cons_succ]
    refine wpAnyH_ready (rs := [18]) (by kernel_rfl) (by simp) (nextH 18 rfl (by rfl) (fun K hK => ?_) AllReadyH.nil)
    go_simp
    refine hK.out _ _ (HSS.out _ _ hS9) (fun hHeld => ?_)
    clear hK K
    try simp only [Act.put, List.setIfInBounds_toArray, List.set_cons_zero, List.set_cons_succ]
    refine wpAnyH_done (by kernel_rfl) ?_ _
    have hr3 : w9.heap[w.heap.size]? = some (.cells #[.int .i64 0, .int .i64 0, .int .i64 0, .int .i64 0, .int .i64 0, .int .i64 0, .int .i64 0, .int .i64 0, .int .i64 0, .int .i64 0, .slice none 0 0, .slice none 0 0] 36 (0, 0)) := (HG9.out.block _ (lt_of_block HR0.out)).trans HR0.out
    have hx3 : w9.heap[w.heap.size + 1]? = some (.cells #[.int .i64 x.r.from_, .int .i64 x.r.to_, .int .i64 x.r.kind, .int .i64 x.r.split, .int .i64 x.r.attempt, .int .i64 x.r.part, .int .i64 x.r.seq, .int .i64 x.r.next, .int .i64 x.r.epoch, .int .i64 x.r.reason, .slice x.so x.r.set.length x.sc, .slice x.po x.r.prs.length x.pc] 36 (0, 0)) := (HG9.out.block _ (lt_of_block HX0.out)).trans HX0.out
    have b0 : w9.cell? ⟨w.heap.size + 1, 0, none⟩ = _ := cell_of_cells (j := 0) hx3
    have d0 : w9.cell? ⟨w.heap.size, 0, none⟩ = _ := cell_of_cells (j := 0) hr3
    have b1 : w9.cell? ⟨w.heap.size + 1, 1, none⟩ = _ := cell_of_cells (j := 1) hx3
    have d1 : w9.cell? ⟨w.heap.size, 1, none⟩ = _ := cell_of_cells (j := 1) hr3
    have b2 : w9.cell? ⟨w.heap.size + 1, 2, none⟩ = _ := cell_of_cells (j := 2) hx3
    have d2 : w9.cell? ⟨w.heap.size, 2, none⟩ = _ := cell_of_cells (j := 2) hr3
    have b3 : w9.cell? ⟨w.heap.size + 1, 3, none⟩ = _ := cell_of_cells (j := 3) hx3
    have d3 : w9.cell? ⟨w.heap.size, 3, none⟩ = _ := cell_of_cells (j := 3) hr3
    have b4 : w9.cell? ⟨w.heap.size + 1, 4, none⟩ = _ := cell_of_cells (j := 4) hx3
    have d4 : w9.cell? ⟨w.heap.size, 4, none⟩ = _ := cell_of_cells (j := 4) hr3
    have b5 : w9.cell? ⟨w.heap.size + 1, 5, none⟩ = _ := cell_of_cells (j := 5) hx3
    have d5 : w9.cell? ⟨w.heap.size, 5, none⟩ = _ := cell_of_cells (j := 5) hr3
    have b6 : w9.cell? ⟨w.heap.size + 1, 6, none⟩ = _ := cell_of_cells (j := 6) hx3
    have d6 : w9.cell? ⟨w.heap.size, 6, none⟩ = _ := cell_of_cells (j := 6) hr3
    have b7 : w9.cell? ⟨w.heap.size + 1, 7, none⟩ = _ := cell_of_cells (j := 7) hx3
    have d7 : w9.cell? ⟨w.heap.size, 7, none⟩ = _ := cell_of_cells (j := 7) hr3
    have b8 : w9.cell? ⟨w.heap.size + 1, 8, none⟩ = _ := cell_of_cells (j := 8) hx3
    have d8 : w9.cell? ⟨w.heap.size, 8, none⟩ = _ := cell_of_cells (j := 8) hr3
    have b9 : w9.cell? ⟨w.heap.size + 1, 9, none⟩ = _ := cell_of_cells (j := 9) hx3
    have d9 : w9.cell? ⟨w.heap.size, 9, none⟩ = _ := cell_of_cells (j := 9) hr3
    have b10 : w9.cell? ⟨w.heap.size + 1, 10, none⟩ = _ := cell_of_cells (j := 10) hx3
    have d10 : w9.cell? ⟨w.heap.size, 10, none⟩ = _ := cell_of_cells (j := 10) hr3
    have b11 : w9.cell? ⟨w.heap.size + 1, 11, none⟩ = _ := cell_of_cells (j := 11) hx3
    have d11 : w9.cell? ⟨w.heap.size, 11, none⟩ = _ := cell_of_cells (j := 11) hr3
    simp at b0 d0 b1 d1 b2 d2 b3 d3 b4 d4 b5 d5 b6 d6 b7 d7 b8 d8 b9 d9 b10 d10 b11 d11
    have fd : ∀ j, w9.frozen? ⟨w.heap.size, j, none⟩ = false := fun j => free_of_cells hr3
    have HR3 := hid hr3
    clear hr3 hx3
    go_wp2
    obtain ⟨r1, r2, r3⟩ := Rf.put H.out HD.out HG9.out (l := outN ys k) (by have := HO9.out; rw [← fl_append] at this; exact this) (by have := outN_length hk; simp only [outN, List.length_append, List.length_take, List.length_drop]; omega) (by have := outN_length hk; omega)
    have hr4 := set_two (j := 0) (v := .slice a9 (k + (ys.length - (k + 1))) k9) HR3.out n3
    obtain ⟨hblk, hsv⟩ := set_twelve hr4 (.int .i64 x.r.from_) (.int .i64 x.r.to_) (.int .i64 x.r.kind) (.int .i64 x.r.split) (.int .i64 x.r.attempt) (.int .i64 x.r.part) (.int .i64 x.r.seq) (.int .i64 x.r.next) (.int .i64 x.r.epoch) (.int .i64 x.r.reason) (.slice x.so x.r.set.length x.sc) (.slice x.po x.r.prs.length x.pc)
    refine bodyPost_ret (results_cell2 rfl _ _ w.heap.size 36 _ (0, 0) _ (by rfl) hblk Try.underlying36 rfl (by kernel_rfl)) rfl ?_
    have hsz := lt_of_block HX0.out
    exact ⟨rfl, _, r1.sav hsv n1 (fun c hc e => by
      have h1 := r3 c hc
      have h2 : c = w.heap.size := e
      omega), r2.then hsv (fun c hc e => absurd (show c = w.heap.size from e) (by omega)), .inr (fun c hc => by
      have h1 := r3 c hc
      omega)⟩
set_option maxHeartbeats 4000000 in
theorem rtake_any (B q : Nat) (i : Int) (u : Value) (ys : List LetX) (w : World) (h : Rf B q u ys w) :
    Calls Try.prog 12 #[.pointer (some ⟨q, 0, none⟩), .int .i64 i] w fun e w' => e = .returned (.tuple #[.agg (tookN zeroX ys i).cs, .bool (placeN ys i)]) ∧ RTurns B q u (leftN ys i) w w' := by
  have hfew := h.few
  obtain ⟨g, hg⟩ : ∃ g, placeN ys i = g := ⟨_, rfl⟩
  cases g
  · have hN := tookN_no (d := zeroX) hg
    rw [hN.1, hN.2, hg]
    obtain ⟨ao, cap, rfl⟩ := h.slice
    have H1 := hid (h.below (alloc_one w (.cells #[.int .i64 0, .int .i64 0, .int .i64 0, .int .i64 0, .int .i64 0, .int .i64 0, .int .i64 0, .int .i64 0, .int .i64 0, .int .i64 0, .slice none 0 0, .slice none 0 0] 36)))
    have c0 := H1.out.c0
    have HR0 := hid (show (w.alloc (.cells #[.int .i64 0, .int .i64 0, .int .i64 0, .int .i64 0, .int .i64 0, .int .i64 0, .int .i64 0, .int .i64 0, .int .i64 0, .int .i64 0, .slice none 0 0, .slice none 0 0] 36)).heap[w.heap.size]? = some (.cells #[.int .i64 0, .int .i64 0, .int .i64 0, .int .i64 0, .int .i64 0, .int .i64 0, .int .i64 0, .int .i64 0, .int .i64 0, .int .i64 0, .slice none 0 0, .slice none 0 0] 36 (0, 0)) from new_block w _)
    have HT := hid (RTurns.stay h (alloc_one w (.cells #[.int .i64 0, .int .i64 0, .int .i64 0, .int .i64 0, .int .i64 0, .int .i64 0, .int .i64 0, .int .i64 0, .int .i64 0, .int .i64 0, .slice none 0 0, .slice none 0 0] 36)))
    clear h hN
    rcases placeN_no hg with h0 | h0
    · have d0 : decide (i < 0) = true := by simpa using h0
      go_enter Try.func12, Try.ntmps12
      go_wp2
      refine bodyPost_ret (results_cell2 rfl _ _ w.heap.size 36 _ (0, 0) _ (by rfl) HR0.out Try.underlying36 rfl (by kernel_rfl)) rfl ?_
      exact ⟨rfl, HT.out⟩
    · have d0 : decide (i < 0) = false := by simp; omega
      have d1 : decide ((ys.length : Int) ≤ i) = true := by simpa using h0
      go_enter Try.func12, Try.ntmps12
      go_wp2
      refine bodyPost_ret (results_cell2 rfl _ _ w.heap.size 36 _ (0, 0) _ (by rfl) HR0.out Try.underlying36 rfl (by kernel_rfl)) rfl ?_
      exact ⟨rfl, HT.out⟩
  · obtain ⟨k, rfl, hk⟩ := placeN_yes hg
    have hx : ys[k]? = some ys[k] := List.getElem?_eq_getElem hk
    have hN := tookN_yes (d := zeroX) hx
    rw [hN.1, hN.2.1, hN.2.2]
    exact rtake_yes B q k u ys _ w h hx
end Go.Proofs.Ytocedfagfmkgdaa
