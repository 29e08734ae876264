/- The document's own net: Send. -/
import Derived.Test.YtocedfagfmkgdaaLtRef
namespace Go.Proofs.Ytocedfagfmkgdaa
open Go.RowKit
set_option linter.unusedVariables false

/-- The first k are sent. -/
structure RSnd (B q : Nat) (u : Value) (ys ls : List LetX) (W : World) (k : Nat) (u' : Value) (zs : List LetX) (w : World) : Prop where
  let_ : zs = sendN ys (ls.take k)
  net : Rf B q u' zs w
  sav : Sav (Just q) W w
  nxt : Next W u u'
section
variable {B q k : Nat} {u u' : Value} {ys ls zs : List LetX} {x : LetX} {W w w2 : World}
theorem RSnd.new (h : Rf B q u ys W) : RSnd B q u ys ls W 0 u ys W := ⟨by rw [List.take_zero, (sendN_nil _).1], h, Sav.refl _ _, .inl rfl⟩
theorem RSnd.yes (h : RSnd B q u ys ls W k u' zs w) (hx : ls[k]? = some x) (hr : zs.length < 128) (ht : RTurns B q u' (zs ++ [x]) w w2) : ∃ u2, RSnd B q u ys ls W (k + 1) u2 (zs ++ [x]) w2 ∧ lostN ys (ls.take (k + 1)) = lostN ys (ls.take k) := by
  have hm := sendN_yes (l := ys) hx (by rw [← h.let_]; exact hr)
  obtain ⟨u2, h1, h2, h3⟩ := ht
  refine ⟨u2, ⟨by rw [hm.1, h.let_], h1, h.sav.trans h2, ?_⟩, hm.2⟩
  rcases h3 with e | e
  · rcases h.nxt with r | r
    · exact .inl (e.trans r)
    · exact .inr (fun g hg => r g (by rw [← e]; exact hg))
  · exact .inr (fun g hg => Nat.le_trans h.sav.size (e g hg))
theorem RSnd.no (h : RSnd B q u ys ls W k u' zs w) (hk : k < ls.length) (hl : ys.length ≤ 128) (hr : 128 ≤ zs.length) : RSnd B q u ys ls W (k + 1) u' zs w ∧ lostN ys (ls.take (k + 1)) = lostN ys (ls.take k) + 1 := by
  have hm := sendN_no (l := ys) (ls := ls) (k := k) hk (by rw [← h.let_]; exact hr) hl
  exact ⟨⟨by rw [hm.1, h.let_], h.net, h.sav, h.nxt⟩, hm.2⟩
theorem lost_le (ys ls : List LetX) (k : Nat) : lostN ys (ls.take k) ≤ k := by
  unfold lostN
  rw [List.length_take]
  omega
end
set_option maxHeartbeats 8000000 in
set_option maxRecDepth 100000 in
theorem rsend_any (B q p off lcap : Nat) (u : Value) (ys ls : List LetX) (w : World) (h : Rf B q u ys w) (hv : ∀ w', Sav (Just q) w w' → Reads 12 encL w' (.slice (some ⟨p, off, none⟩) ls.length lcap) ls) (hpq : p ≠ q) (hl : ls.length ≤ 1000) :
    Calls Try.prog 10 #[.pointer (some ⟨q, 0, none⟩), .slice (some ⟨p, off, none⟩) ls.length lcap] w fun e w' => e = .returned (.int .i64 (lostN ys ls : Nat)) ∧ RTurns B q u (sendN ys ls) w w' := by
  obtain ⟨i0, hi, hz0, hz1, hz2⟩ := info_parts Try.infoL
  have HV := hid hv
  have hfewy := h.few
  have H0 := hid (RSnd.new (ls := ls) h)
  clear h hv
  go_enter Try.func10, Try.ntmps10
  go_wp2
  go_loopw [5, 6] (fun l i wr => ∃ (k : Nat) (u' : Value), l = .int .i64 (lostN ys (ls.take k) : Nat) ∧ i = .int .i64 k ∧ k ≤ ls.length ∧ RSnd B q u ys ls w k u' (sendN ys (ls.take k)) wr) (fun _ i _ => ls.length - (intOf i).toNat)
  case atStart => exact ⟨0, u, by simp [lostN], rfl, by omega, by have := H0.out; rw [show sendN ys (ls.take 0) = ys by rw [List.take_zero, (sendN_nil _).1]]; exact this⟩
  case round =>
    obtain ⟨k, u', rfl, rfl, hk, hsn⟩ := hrel
    have hll := lost_le ys ls k
    obtain ⟨zs, hzs⟩ : ∃ zs, sendN ys (ls.take k) = zs := ⟨_, rfl⟩
    rw [hzs] at hsn
    have HZ := hid hzs
    obtain ⟨lo, hlo⟩ : ∃ lo, lostN ys (ls.take k) = lo := ⟨_, rfl⟩
    rw [hlo] at hll
    have HLO := hid hlo
    rw [hlo]
    clear hlo hzs H0
    have HN := hid hsn
    obtain ⟨ao, cap, rfl⟩ := hsn.net.slice
    have hno := row_none hsn.net.row
    have hfew := hsn.net.few
    have c0 := hsn.net.c0
    by_cases hlt : k < ls.length
    · have d5 : decide ((k : Int) < (ls.length : Int)) = true := by simp; omega
      have hk2 : (k : Int) < (ls.length : Int) := by omega
      by_cases hr : zs.length < 128
      · have d6 : decide ((128 : Int) ≤ (zs.length : Int)) = false := by simp; omega
        have hx : ls[k]? = some ls[k] := List.getElem?_eq_getElem hlt
        obtain ⟨p2, off2, e2, hp, hc⟩ := (HV.out _ hsn.sav).cells hlt
        cases e2
        generalize ls[k] = x at hx hc
        have HX := hid hx
        have hS0' := LC.of hc
        clear hsn hx hc
        go_wp2_with fail
        have HD := hid (below_drew1 wr)
        have H := hid (HN.out.net.below HD.out)
        have hS0 : LC p (off + k * 12) x wr.drew := hS0'
        clear hS0' c0
        refine wp_region_held_drew (S := LC p (off + k * 12) x) (by kernel_rfl) hS0 (fun hHeld => ?_)
        have hp : p < wr.drew.heap.size := hp
        generalize wr.drew = wd at H HD hS0 hHeld hp ⊢
        have HRF := hid (fun w' (hb : Below wd.heap.size wd w') => (H.out.below hb).c0)
        have HFF := hid (fun w' (hb : Below wd.heap.size wd w') => show w'.frozen? ⟨q, 0, none⟩ = false from free_of_cells (H.out.below hb).obj)
        have HSF := hid (fun w' (hb : Below wd.heap.size wd w') => hS0.below hb hp)
        have HNW := hid (fun w' (hb : Below wd.heap.size wd w') => Reads.news encL_len (by decide) H.out.reads hb)
        have HSS := hid (fun (w' : World) (v : Value) (hS : LC p (off + k * 12) x w') => hS.set (v := v) hpq)
        have x0 := HRF.out _ (Below.refl _ _)
        have HB0 := hid (Below.refl wd.heap.size wd)
        refine takeH 0 21 (.pointer (some ⟨q, 0, none⟩)) rfl rfl (by kernel_rfl) (by kernel_rfl) (by kernel_rfl) (fun _ _ _ h => h) (by rfl) ?_ (by assumption) ?_
        · intro w' hSw
          go_simp
        try simp only [Act.put, List.setIfInBounds_toArray, List.set_cons_zero, List.set_cons_succ]
        refine takeH 1 22 (.pointer (some ⟨q, 0, none⟩)) rfl rfl (by kernel_rfl) (by kernel_rfl) (by kernel_rfl) (fun _ _ _ h => h) (by rfl) ?_ (by assumption) ?_
        · intro w' hSw
          go_simp
        try simp only [Act.put, List.setIfInBounds_toArray, List.set_cons_zero, List.set_cons_succ]
        refine takeH 2 23 (.pointer (some ⟨q, 0, none⟩)) rfl rfl (by kernel_rfl) (by kernel_rfl) (by kernel_rfl) (fun _ _ _ h => h) (by rfl) ?_ (by assumption) ?_
        · intro w' hSw
          go_simp
        try simp only [Act.put, List.setIfInBounds_toArray, List.set_cons_zero, List.set_cons_succ]
        refine takeH 3 24 (.pointer (some ⟨q, 0, none⟩)) rfl rfl (by kernel_rfl) (by kernel_rfl) (by kernel_rfl) (fun _ _ _ h => h) (by rfl) ?_ (by assumption) ?_
        · intro w' hSw
          go_simp
        try simp only [Act.put, List.setIfInBounds_toArray, List.set_cons_zero, List.set_cons_succ]
        refine takeH 6 27 (.slice (some ⟨p, off, none⟩) ls.length lcap) rfl rfl (by kernel_rfl) (by kernel_rfl) (by kernel_rfl) (fun _ _ _ h => h) (by rfl) ?_ (by assumption) ?_
        · intro w' hSw
          go_simp
        try simp only [Act.put, List.setIfInBounds_toArray, List.set_cons_zero, List.set_cons_succ]
        refine takeH 7 28 (.int .i64 k) rfl rfl (by kernel_rfl) (by kernel_rfl) (by kernel_rfl) (fun _ _ _ h => h) (by rfl) ?_ (by assumption) ?_
        · intro w' hSw
          go_simp
        try simp only [Act.put, List.setIfInBounds_toArray, List.set_cons_zero, List.set_cons_succ]
        refine takeH 8 29 (.pointer (some ⟨p, off + k * 12, none⟩)) rfl rfl (by kernel_rfl) (by kernel_rfl) (by kernel_rfl) (fun _ _ _ h => h) (by rfl) ?_ (by assumption) ?_
        · intro w' hSw
          go_simp
        try simp only [Act.put, List.setIfInBounds_toArray, List.set_cons_zero, List.set_cons_succ]
        refine takeH 9 30 (.agg #[.int .i64 x.r.from_, .int .i64 x.r.to_, .int .i64 x.r.kind, .int .i64 x.r.split, .int .i64 x.r.attempt, .int .i64 x.r.part, .int .i64 x.r.seq, .int .i64 x.r.next, .int .i64 x.r.epoch, .int .i64 x.r.reason, .slice x.so x.r.set.length x.sc, .slice x.po x.r.prs.length x.pc]) rfl rfl (by kernel_rfl) (by kernel_rfl) (by kernel_rfl) (fun _ _ _ h => h) (by rfl) ?_ (by assumption) ?_
        · intro w' hSw
          obtain ⟨q0, q1, q2, q3, q4, q5, q6, q7, q8, q9, q10, q11⟩ := hSw; go_simp
        try simp only [Act.put, List.setIfInBounds_toArray, List.set_cons_zero, List.set_cons_succ]
        refine wpAnyH_ready (rs := [4, 10]) (by kernel_rfl) (by simp) (nextH 4 rfl (by rfl) (fun K hK => ?_) (nextH 10 rfl (by rfl) (fun K hK => ?_) AllReadyH.nil))
        · go_simp
          refine hK.out _ _ (by assumption) (fun hHeld => ?_)
          clear hK K
          try simp only [Act.put, List.setIfInBounds_toArray, List.set_cons_zero, List.set_cons_succ]
          refine wpAnyH_ready (rs := [5, 10]) (by kernel_rfl) (by simp) (AllReadyH.cons rfl (fun K hK => ?_) (nextH 10 rfl (by rfl) (fun K hK => ?_) AllReadyH.nil))
          · refine step_append_any_to 26 rfl rfl (.const (.slice none 0 0)) (.tmp 25) 28 rfl wd.heap.size 36 i0 _ 12 128 Try.underlying28 hi hz0 hz1 hz2 rfl (by decide) (.slice none 0 0) 0 [] (by simp [Act.eval]) (World.ownsRow_nil _ _ _ _) ao (zs.length) cap (fl encL zs) (by simp [Act.eval]) (fl_length encL_len zs) hno (HNW.out _ HB0.out) (fl_one encL_one _) (by unfold maxLen; omega) (by omega) HB0.out.size ?_
            intro v1 w1 ho1 hg1
            simp only [Nat.zero_add, List.nil_append] at ho1
            have hb1 := below_none hg1
            obtain ⟨a1, k1, rfl⟩ := owns_slice ho1
            have HB2 := hid (below_then HB0.out hb1 HB0.out.size)
            have x2 := HRF.out _ HB2.out
            have hS2 := HSF.out _ HB2.out
            refine hK.out _ _ (by assumption) (fun hHeld => ?_)
            clear hK K
            try simp only [Act.put, List.setIfInBounds_toArray, List.set_cons_zero, List.set_cons_succ]
            refine wpAnyH_ready (rs := [10]) (by kernel_rfl) (by simp) (nextH 10 rfl (by rfl) (fun K hK => ?_) AllReadyH.nil)
            go_simp
            have HB3 := hid (below_then HB2.out (alloc_one w1 (.cells #[.int .i64 x.r.from_, .int .i64 x.r.to_, .int .i64 x.r.kind, .int .i64 x.r.split, .int .i64 x.r.attempt, .int .i64 x.r.part, .int .i64 x.r.seq, .int .i64 x.r.next, .int .i64 x.r.epoch, .int .i64 x.r.reason, .slice x.so x.r.set.length x.sc, .slice x.po x.r.prs.length x.pc] 36)) HB2.out.size)
            have x3 := HRF.out _ HB3.out
            have hS3 := HSF.out _ HB3.out
            have ho3 := owns_below ho1 (alloc_one w1 (.cells #[.int .i64 x.r.from_, .int .i64 x.r.to_, .int .i64 x.r.kind, .int .i64 x.r.split, .int .i64 x.r.attempt, .int .i64 x.r.part, .int .i64 x.r.seq, .int .i64 x.r.next, .int .i64 x.r.epoch, .int .i64 x.r.reason, .slice x.so x.r.set.length x.sc, .slice x.po x.r.prs.length x.pc] 36))
            have nw4 := new_cells w1 #[.int .i64 x.r.from_, .int .i64 x.r.to_, .int .i64 x.r.kind, .int .i64 x.r.split, .int .i64 x.r.attempt, .int .i64 x.r.part, .int .i64 x.r.seq, .int .i64 x.r.next, .int .i64 x.r.epoch, .int .i64 x.r.reason, .slice x.so x.r.set.length x.sc, .slice x.po x.r.prs.length x.pc] 36
            have nl4 : ({ block := w1.heap.size, off := 0 } : Addr).block < (w1.alloc (.cells #[.int .i64 x.r.from_, .int .i64 x.r.to_, .int .i64 x.r.kind, .int .i64 x.r.split, .int .i64 x.r.attempt, .int .i64 x.r.part, .int .i64 x.r.seq, .int .i64 x.r.next, .int .i64 x.r.epoch, .int .i64 x.r.reason, .slice x.so x.r.set.length x.sc, .slice x.po x.r.prs.length x.pc] 36)).heap.size := by simp
            refine hK.out _ _ (by assumption) (fun hHeld => ?_)
            clear hK K
            try simp only [Act.put, List.setIfInBounds_toArray, List.set_cons_zero, List.set_cons_succ]
            refine wpAnyH_ready (rs := [11]) (by kernel_rfl) (by simp) (AllReadyH.cons rfl (fun K hK => ?_) AllReadyH.nil)
            refine step_append_to 32 rfl rfl (.tmp 26) (.tmp 31) 28 rfl wd.heap.size 36 i0 _ 12 128 Try.underlying28 hi hz0 hz1 hz2 rfl (by decide) _ (zs.length) (fl encL zs) (by simp [Act.eval]) ho3 ⟨w1.heap.size, 0, none⟩ 1 1 (encL x) (by simp [Act.eval]) rfl nw4 (encL_one x) (by unfold maxLen; omega) (by omega) HB3.out.size ?_
            intro v5 w5 ho5 hg5 _
            have HG5 := hid (HB3.out.grown hg5 HB3.out.size (fun r hr => (ho3.lt r hr).1))
            have x5 := HRF.out _ HG5.out
            have hS5 := HSF.out _ HG5.out
            have f5 := HFF.out _ HG5.out
            obtain ⟨a5, k5, rfl⟩ := owns_slice ho5
            have HO5 := hid ho5
            clear ho5 hg5
            refine hK.out _ _ (by assumption) (fun hHeld => ?_)
            clear hK K
            try simp only [Act.put, List.setIfInBounds_toArray, List.set_cons_zero, List.set_cons_succ]
            refine takeH 12 33 (.pointer (some ⟨q, 0, none⟩)) rfl rfl (by kernel_rfl) (by kernel_rfl) (by kernel_rfl) (fun _ _ _ h => h) (by rfl) ?_ (by assumption) ?_
            · intro w' hSw
              go_simp
            try simp only [Act.put, List.setIfInBounds_toArray, List.set_cons_zero, List.set_cons_succ]
            refine takeH 13 34 (.pointer (some ⟨q, 0, none⟩)) rfl rfl (by kernel_rfl) (by kernel_rfl) (by kernel_rfl) (fun _ _ _ h => h) (by rfl) ?_ (by assumption) ?_
            · intro w' hSw
              go_simp
            try simp only [Act.put, List.setIfInBounds_toArray, List.set_cons_zero, List.set_cons_succ]
            refine wpAnyH_ready (rs := [14]) (by kernel_rfl) (by simp) (nextH 14 rfl (by rfl) (fun K hK => ?_) AllReadyH.nil)
            go_simp
            refine hK.out _ _ (HSS.out _ _ hS5) (fun hHeld => ?_)
            clear hK K
            try simp only [Act.put, List.setIfInBounds_toArray, List.set_cons_zero, List.set_cons_succ]
            refine wpAnyH_done (by kernel_rfl) ?_ _
            have HT := hid (RTurns.put H.out HD.out HG5.out (l := zs ++ [x]) (by have := HO5.out; simpa [fl_append, fl_single] using this) (by simp) (by simp; omega))
            obtain ⟨u2, h3, h4⟩ := HN.out.yes HX.out hr HT.out
            have H3 := hid h3
            have H4 := hid h4
            clear h3 h4 HT x5 f5 hS5
            go_wp2
            go_roundw
            case rel => exact ⟨k + 1, u2, by rw [H4.out, HLO.out], by go_num, by omega, by have := H3.out; rw [← this.let_]; exact this⟩
            case measure => simp [intOf]; omega
          · go_simp
            have HB6 := hid (below_then HB0.out (alloc_one wd (.cells #[.int .i64 x.r.from_, .int .i64 x.r.to_, .int .i64 x.r.kind, .int .i64 x.r.split, .int .i64 x.r.attempt, .int .i64 x.r.part, .int .i64 x.r.seq, .int .i64 x.r.next, .int .i64 x.r.epoch, .int .i64 x.r.reason, .slice x.so x.r.set.length x.sc, .slice x.po x.r.prs.length x.pc] 36)) HB0.out.size)
            have x6 := HRF.out _ HB6.out
            have hS6 := HSF.out _ HB6.out
            have nw7 := new_cells wd #[.int .i64 x.r.from_, .int .i64 x.r.to_, .int .i64 x.r.kind, .int .i64 x.r.split, .int .i64 x.r.attempt, .int .i64 x.r.part, .int .i64 x.r.seq, .int .i64 x.r.next, .int .i64 x.r.epoch, .int .i64 x.r.reason, .slice x.so x.r.set.length x.sc, .slice x.po x.r.prs.length x.pc] 36
            have nl7 : ({ block := wd.heap.size, off := 0 } : Addr).block < (wd.alloc (.cells #[.int .i64 x.r.from_, .int .i64 x.r.to_, .int .i64 x.r.kind, .int .i64 x.r.split, .int .i64 x.r.attempt, .int .i64 x.r.part, .int .i64 x.r.seq, .int .i64 x.r.next, .int .i64 x.r.epoch, .int .i64 x.r.reason, .slice x.so x.r.set.length x.sc, .slice x.po x.r.prs.length x.pc] 36)).heap.size := by simp
            refine hK.out _ _ (by assumption) (fun hHeld => ?_)
            clear hK K
            try simp only [Act.put, List.setIfInBounds_toArray, List.set_cons_zero, List.set_cons_succ]
            refine wpAnyH_ready (rs := [5]) (by kernel_rfl) (by simp) (AllReadyH.cons rfl (fun K hK => ?_) AllReadyH.nil)
            refine step_append_any_to 26 rfl rfl (.const (.slice none 0 0)) (.tmp 25) 28 rfl wd.heap.size 36 i0 _ 12 128 Try.underlying28 hi hz0 hz1 hz2 rfl (by decide) (.slice none 0 0) 0 [] (by simp [Act.eval]) (World.ownsRow_nil _ _ _ _) ao (zs.length) cap (fl encL zs) (by simp [Act.eval]) (fl_length encL_len zs) hno (HNW.out _ HB6.out) (fl_one encL_one _) (by unfold maxLen; omega) (by omega) HB6.out.size ?_
            intro v8 w8 ho8 hg8
            simp only [Nat.zero_add, List.nil_append] at ho8
            have hb8 := below_none hg8
            obtain ⟨a8, k8, rfl⟩ := owns_slice ho8
            have HB9 := hid (below_then HB6.out hb8 HB6.out.size)
            have x9 := HRF.out _ HB9.out
            have hS9 := HSF.out _ HB9.out
            have nw9 := news_below nw7 hb8 nl7
            have nl9 := Nat.lt_of_lt_of_le nl7 (hb8).size
            refine hK.out _ _ (by assumption) (fun hHeld => ?_)
            clear hK K
            try simp only [Act.put, List.setIfInBounds_toArray, List.set_cons_zero, List.set_cons_succ]
            refine wpAnyH_ready (rs := [11]) (by kernel_rfl) (by simp) (AllReadyH.cons rfl (fun K hK => ?_) AllReadyH.nil)
            refine step_append_to 32 rfl rfl (.tmp 26) (.tmp 31) 28 rfl wd.heap.size 36 i0 _ 12 128 Try.underlying28 hi hz0 hz1 hz2 rfl (by decide) _ (zs.length) (fl encL zs) (by simp [Act.eval]) ho8 ⟨wd.heap.size, 0, none⟩ 1 1 (encL x) (by simp [Act.eval]) rfl nw9 (encL_one x) (by unfold maxLen; omega) (by omega) HB9.out.size ?_
            intro v10 w10 ho10 hg10 _
            have HG10 := hid (HB9.out.grown hg10 HB9.out.size (fun r hr => (ho8.lt r hr).1))
            have x10 := HRF.out _ HG10.out
            have hS10 := HSF.out _ HG10.out
            have f10 := HFF.out _ HG10.out
            obtain ⟨a10, k10, rfl⟩ := owns_slice ho10
            have HO10 := hid ho10
            clear ho10 hg10
            refine hK.out _ _ (by assumption) (fun hHeld => ?_)
            clear hK K
            try simp only [Act.put, List.setIfInBounds_toArray, List.set_cons_zero, List.set_cons_succ]
            refine takeH 12 33 (.pointer (some ⟨q, 0, none⟩)) rfl rfl (by kernel_rfl) (by kernel_rfl) (by kernel_rfl) (fun _ _ _ h => h) (by rfl) ?_ (by assumption) ?_
            · intro w' hSw
              go_simp
            try simp only [Act.put, List.setIfInBounds_toArray, List.set_cons_zero, List.set_cons_succ]
            refine takeH 13 34 (.pointer (some ⟨q, 0, none⟩)) rfl rfl (by kernel_rfl) (by kernel_rfl) (by kernel_rfl) (fun _ _ _ h => h) (by rfl) ?_ (by assumption) ?_
            · intro w' hSw
              go_simp
            try simp only [Act.put, List.setIfInBounds_toArray, List.set_cons_zero, List.set_cons_succ]
            refine wpAnyH_ready (rs := [14]) (by kernel_rfl) (by simp) (nextH 14 rfl (by rfl) (fun K hK => ?_) AllReadyH.nil)
            go_simp
            refine hK.out _ _ (HSS.out _ _ hS10) (fun hHeld => ?_)
            clear hK K
            try simp only [Act.put, List.setIfInBounds_toArray, List.set_cons_zero, List.set_cons_succ]
            refine wpAnyH_done (by kernel_rfl) ?_ _
            have HT := hid (RTurns.put H.out HD.out HG10.out (l := zs ++ [x]) (by have := HO10.out; simpa [fl_append, fl_single] using this) (by simp) (by simp; omega))
            obtain ⟨u2, h3, h4⟩ := HN.out.yes HX.out hr HT.out
            have H3 := hid h3
            have H4 := hid h4
            clear h3 h4 HT x10 f10 hS10
            go_wp2
            go_roundw
            case rel => exact ⟨k + 1, u2, by rw [H4.out, HLO.out], by go_num, by omega, by have := H3.out; rw [← this.let_]; exact this⟩
            case measure => simp [intOf]; omega
        · go_simp
          have HB11 := hid (below_then HB0.out (alloc_one wd (.cells #[.int .i64 x.r.from_, .int .i64 x.r.to_, .int .i64 x.r.kind, .int .i64 x.r.split, .int .i64 x.r.attempt, .int .i64 x.r.part, .int .i64 x.r.seq, .int .i64 x.r.next, .int .i64 x.r.epoch, .int .i64 x.r.reason, .slice x.so x.r.set.length x.sc, .slice x.po x.r.prs.length x.pc] 36)) HB0.out.size)
          have x11 := HRF.out _ HB11.out
          have hS11 := HSF.out _ HB11.out
          have nw12 := new_cells wd #[.int .i64 x.r.from_, .int .i64 x.r.to_, .int .i64 x.r.kind, .int .i64 x.r.split, .int .i64 x.r.attempt, .int .i64 x.r.part, .int .i64 x.r.seq, .int .i64 x.r.next, .int .i64 x.r.epoch, .int .i64 x.r.reason, .slice x.so x.r.set.length x.sc, .slice x.po x.r.prs.length x.pc] 36
          have nl12 : ({ block := wd.heap.size, off := 0 } : Addr).block < (wd.alloc (.cells #[.int .i64 x.r.from_, .int .i64 x.r.to_, .int .i64 x.r.kind, .int .i64 x.r.split, .int .i64 x.r.attempt, .int .i64 x.r.part, .int .i64 x.r.seq, .int .i64 x.r.next, .int .i64 x.r.epoch, .int .i64 x.r.reason, .slice x.so x.r.set.length x.sc, .slice x.po x.r.prs.length x.pc] 36)).heap.size := by simp
          refine hK.out _ _ (by assumption) (fun hHeld => ?_)
          clear hK K
          try simp only [Act.put, List.setIfInBounds_toArray, List.set_cons_zero, List.set_cons_succ]
          refine wpAnyH_ready (rs := [4]) (by kernel_rfl) (by simp) (nextH 4 rfl (by rfl) (fun K hK => ?_) AllReadyH.nil)
          go_simp
          refine hK.out _ _ (by assumption) (fun hHeld => ?_)
          clear hK K
          try simp only [Act.put, List.setIfInBounds_toArray, List.set_cons_zero, List.set_cons_succ]
          refine wpAnyH_ready (rs := [5]) (by kernel_rfl) (by simp) (AllReadyH.cons rfl (fun K hK => ?_) AllReadyH.nil)
          refine step_append_any_to 26 rfl rfl (.const (.slice none 0 0)) (.tmp 25) 28 rfl wd.heap.size 36 i0 _ 12 128 Try.underlying28 hi hz0 hz1 hz2 rfl (by decide) (.slice none 0 0) 0 [] (by simp [Act.eval]) (World.ownsRow_nil _ _ _ _) ao (zs.length) cap (fl encL zs) (by simp [Act.eval]) (fl_length encL_len zs) hno (HNW.out _ HB11.out) (fl_one encL_one _) (by unfold maxLen; omega) (by omega) HB11.out.size ?_
          intro v13 w13 ho13 hg13
          simp only [Nat.zero_add, List.nil_append] at ho13
          have hb13 := below_none hg13
          obtain ⟨a13, k13, rfl⟩ := owns_slice ho13
          have HB14 := hid (below_then HB11.out hb13 HB11.out.size)
          have x14 := HRF.out _ HB14.out
          have hS14 := HSF.out _ HB14.out
          have nw14 := news_below nw12 hb13 nl12
          have nl14 := Nat.lt_of_lt_of_le nl12 (hb13).size
          refine hK.out _ _ (by assumption) (fun hHeld => ?_)
          clear hK K
          try simp only [Act.put, List.setIfInBounds_toArray, List.set_cons_zero, List.set_cons_succ]
          refine wpAnyH_ready (rs := [11]) (by kernel_rfl) (by simp) (AllReadyH.cons rfl (fun K hK => ?_) AllReadyH.nil)
          refine step_append_to 32 rfl rfl (.tmp 26) (.tmp 31) 28 rfl wd.heap.size 36 i0 _ 12 128 Try.underlying28 hi hz0 hz1 hz2 rfl (by decide) _ (zs.length) (fl encL zs) (by simp [Act.eval]) ho13 ⟨wd.heap.size, 0, none⟩ 1 1 (encL x) (by simp [Act.eval]) rfl nw14 (encL_one x) (by unfold maxLen; omega) (by omega) HB14.out.size ?_
          intro v15 w15 ho15 hg15 _
          have HG15 := hid (HB14.out.grown hg15 HB14.out.size (fun r hr => (ho13.lt r hr).1))
          have x15 := HRF.out _ HG15.out
          have hS15 := HSF.out _ HG15.out
          have f15 := HFF.out _ HG15.out
          obtain ⟨a15, k15, rfl⟩ := owns_slice ho15
          have HO15 := hid ho15
          clear ho15 hg15
          refine hK.out _ _ (by assumption) (fun hHeld => ?_)
          clear hK K
          try simp only [Act.put, List.setIfInBounds_toArray, List.set_cons_zero, List.set_cons_succ]
          refine takeH 12 33 (.pointer (some ⟨q, 0, none⟩)) rfl rfl (by kernel_rfl) (by kernel_rfl) (by kernel_rfl) (fun _ _ _ h => h) (by rfl) ?_ (by assumption) ?_
          · intro w' hSw
            go_simp
          try simp only [Act.put, List.setIfInBounds_toArray, List.set_cons_zero, List.set_cons_succ]
          refine takeH 13 34 (.pointer (some ⟨q, 0, none⟩)) rfl rfl (by kernel_rfl) (by kernel_rfl) (by kernel_rfl) (fun _ _ _ h => h) (by rfl) ?_ (by assumption) ?_
          · intro w' hSw
            go_simp
          try simp only [Act.put, List.setIfInBounds_toArray, List.set_cons_zero, List.set_cons_succ]
          refine wpAnyH_ready (rs := [14]) (by kernel_rfl) (by simp) (nextH 14 rfl (by rfl) (fun K hK => ?_) AllReadyH.nil)
          go_simp
          refine hK.out _ _ (HSS.out _ _ hS15) (fun hHeld => ?_)
          clear hK K
          try simp only [Act.put, List.setIfInBounds_toArray, List.set_cons_zero, List.set_cons_succ]
          refine wpAnyH_done (by kernel_rfl) ?_ _
          have HT := hid (RTurns.put H.out HD.out HG15.out (l := zs ++ [x]) (by have := HO15.out; simpa [fl_append, fl_single] using this) (by simp) (by simp; omega))
          obtain ⟨u2, h3, h4⟩ := HN.out.yes HX.out hr HT.out
          have H3 := hid h3
          have H4 := hid h4
          clear h3 h4 HT x15 f15 hS15
          go_wp2
          go_roundw
          case rel => exact ⟨k + 1, u2, by rw [H4.out, HLO.out], by go_num, by omega, by have := H3.out; rw [← this.let_]; exact this⟩
          case measure => simp [intOf]; omega
      · have d6 : decide ((128 : Int) ≤ (zs.length : Int)) = true := by simp; omega
        have hN := HN.out.no hlt hfewy (by omega)
        have H2 := hid hN.1
        have HL := hid hN.2
        clear hN hsn
        go_wp2
        go_roundw
        case rel => exact ⟨k + 1, _, by rw [HL.out, HLO.out]; go_num, by go_num, by omega, by have := H2.out; rw [← this.let_]; exact this⟩
        case measure => simp [intOf]; omega
    · obtain rfl : k = ls.length := by omega
      have d5 : decide ((ls.length : Int) < (ls.length : Int)) = false := by simp
      have HT := hid (show RTurns B q u zs w wr from ⟨_, HN.out.net, HN.out.sav, HN.out.nxt⟩)
      clear hsn
      go_wp2
      go_ret
      rw [List.take_length] at HLO HZ
      exact ⟨by rw [HLO.out]; rfl, by rw [HZ.out]; exact HT.out⟩
end Go.Proofs.Ytocedfagfmkgdaa
