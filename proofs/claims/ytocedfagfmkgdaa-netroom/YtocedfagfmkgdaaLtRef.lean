/- The document's own net: Send, Take, Double; each makes a new row. -/
import Derived.Test.YtocedfagfmkgdaaLtOps
namespace Go.Proofs.Ytocedfagfmkgdaa
open Go.RowKit
set_option linter.unusedVariables false

/-- append of a slice, nil or not, as one step of a region that draws its order; the slot is written out. -/
theorem step_append_any_to {P : Program} {ops : Array Oper} {o : Oper} {a : Act} {w : World} {K : Act → World → Prop} {Q : Exit → Act → World → Prop} {C : Prop}
    (d : Nat) (hdst : o.dst = some d) (hg : o.guard = none) (s x : Operand) (t : TypeId) (hop : o.op = Op.call { callee := Callee.builtin Builtin.append, args := #[s, x], argTypes := #[t, t] })
    (base : Nat) (e : TypeId) (i : TypeInfo) (z : Value) (size bytes : Nat) (h1 : P.underlying t = some (.slice e)) (h2 : P.info? e = some i) (h3 : i.zero = some z) (h4 : i.size = size) (h5 : i.bytes = bytes) (h6 : z.cells.size = size) (h7 : 0 < size)
    (v : Value) (n : Nat) (xs : List Value) (hs : a.eval s = v) (hown : w.ownsRow base e size v n xs)
    (ao : Option Addr) (m c : Nat) (news : List Value) (hx : a.eval x = .slice ao m c) (hn : news.length = m * size) (hnone : ao = none → m = 0 ∧ c = 0) (hc : ∀ ad, ao = some ad → ∀ j u, news[j]? = some u → w.cell? (ad.add j) = some u) (h1c : ∀ u ∈ news, u.oneCell' = true)
    (b1 : n + m ≤ maxLen) (b2 : (n + m) * bytes ≤ 140737488355328) (hb : base ≤ w.heap.size)
    (hK : ∀ v' w', w'.ownsRow base e size v' (n + m) (xs ++ news) → w.grownBy w' v.ownBlock → K (a.put (some d) v') w') :
    if Region.wanted o (yielded ops a.tmps) = true then Oper.wp P o a w K Q else C :=
  step_append_any hg s x t hop base e i z size bytes h1 h2 h3 h4 h5 h6 h7 v n xs hs hown ao m c news hx hn hnone hc h1c b1 b2 hb (by rw [hdst]; exact hK)
theorem news_below {w w' : World} {a : Addr} {l : List Value} (h : ∀ j u, l[j]? = some u → w.cell? (a.add j) = some u) (hb : Below w.heap.size w w') (ha : a.block < w.heap.size) : ∀ j u, l[j]? = some u → w'.cell? (a.add j) = some u := by
  intro j u hu
  rw [hb.cell (p := a.add j) (by unfold Addr.add; split <;> exact ha)]
  exact h j u hu
/-- A letter's cells lie there. -/
def LC (p o : Nat) (x : LetX) (w : World) : Prop := w.cell? ⟨p, o, none⟩ = some (.int .i64 x.r.from_) ∧ w.cell? ⟨p, o + 1, none⟩ = some (.int .i64 x.r.to_) ∧ w.cell? ⟨p, o + 2, none⟩ = some (.int .i64 x.r.kind) ∧ w.cell? ⟨p, o + 3, none⟩ = some (.int .i64 x.r.split) ∧ w.cell? ⟨p, o + 4, none⟩ = some (.int .i64 x.r.attempt) ∧ w.cell? ⟨p, o + 5, none⟩ = some (.int .i64 x.r.part) ∧ w.cell? ⟨p, o + 6, none⟩ = some (.int .i64 x.r.seq) ∧ w.cell? ⟨p, o + 7, none⟩ = some (.int .i64 x.r.next) ∧ w.cell? ⟨p, o + 8, none⟩ = some (.int .i64 x.r.epoch) ∧ w.cell? ⟨p, o + 9, none⟩ = some (.int .i64 x.r.reason) ∧ w.cell? ⟨p, o + 10, none⟩ = some (.slice x.so x.r.set.length x.sc) ∧ w.cell? ⟨p, o + 11, none⟩ = some (.slice x.po x.r.prs.length x.pc)
theorem LC.of {p o : Nat} {x : LetX} {w : World} (hc : ∀ k u, (encL x)[k]? = some u → w.cell? ⟨p, o + k, none⟩ = some u) : LC p o x w := ⟨hc 0 _ rfl, hc 1 _ rfl, hc 2 _ rfl, hc 3 _ rfl, hc 4 _ rfl, hc 5 _ rfl, hc 6 _ rfl, hc 7 _ rfl, hc 8 _ rfl, hc 9 _ rfl, hc 10 _ rfl, hc 11 _ rfl⟩
theorem LC.below {p o : Nat} {x : LetX} {w w' : World} (h : LC p o x w) (hb : Below w.heap.size w w') (hp : p < w.heap.size) : LC p o x w' := by
  obtain ⟨q0, q1, q2, q3, q4, q5, q6, q7, q8, q9, q10, q11⟩ := h
  exact ⟨(hb.cell (p := ⟨p, o, none⟩) hp).trans q0, (hb.cell (p := ⟨p, o + 1, none⟩) hp).trans q1, (hb.cell (p := ⟨p, o + 2, none⟩) hp).trans q2, (hb.cell (p := ⟨p, o + 3, none⟩) hp).trans q3, (hb.cell (p := ⟨p, o + 4, none⟩) hp).trans q4, (hb.cell (p := ⟨p, o + 5, none⟩) hp).trans q5, (hb.cell (p := ⟨p, o + 6, none⟩) hp).trans q6, (hb.cell (p := ⟨p, o + 7, none⟩) hp).trans q7, (hb.cell (p := ⟨p, o + 8, none⟩) hp).trans q8, (hb.cell (p := ⟨p, o + 9, none⟩) hp).trans q9, (hb.cell (p := ⟨p, o + 10, none⟩) hp).trans q10, (hb.cell (p := ⟨p, o + 11, none⟩) hp).trans q11⟩
theorem LC.set {p o q : Nat} {x : LetX} {w : World} {v : Value} (h : LC p o x w) (hn : p ≠ q) : LC p o x (w.setCell ⟨q, 0, none⟩ v) := by
  obtain ⟨q0, q1, q2, q3, q4, q5, q6, q7, q8, q9, q10, q11⟩ := h
  exact ⟨(World.cell?_setCell_far _ _ _ _ (Ne.symm hn)).trans q0, (World.cell?_setCell_far _ _ _ _ (Ne.symm hn)).trans q1, (World.cell?_setCell_far _ _ _ _ (Ne.symm hn)).trans q2, (World.cell?_setCell_far _ _ _ _ (Ne.symm hn)).trans q3, (World.cell?_setCell_far _ _ _ _ (Ne.symm hn)).trans q4, (World.cell?_setCell_far _ _ _ _ (Ne.symm hn)).trans q5, (World.cell?_setCell_far _ _ _ _ (Ne.symm hn)).trans q6, (World.cell?_setCell_far _ _ _ _ (Ne.symm hn)).trans q7, (World.cell?_setCell_far _ _ _ _ (Ne.symm hn)).trans q8, (World.cell?_setCell_far _ _ _ _ (Ne.symm hn)).trans q9, (World.cell?_setCell_far _ _ _ _ (Ne.symm hn)).trans q10, (World.cell?_setCell_far _ _ _ _ (Ne.symm hn)).trans q11⟩
/-- The document's net in block q. -/
structure Rf (B q : Nat) (u : Value) (ys : List LetX) (w : World) : Prop where
  obj : w.heap[q]? = some (.cells #[u] 30 (0, 0))
  row : w.ownsRow B 36 12 u ys.length (fl encL ys)
  low : B ≤ w.heap.size
  few : ys.length ≤ 128
section
variable {B q : Nat} {u u' : Value} {ys zs : List LetX} {w w' : World}
theorem Rf.c0 (h : Rf B q u ys w) : w.cell? ⟨q, 0, none⟩ = some u := cell_of_cells h.obj
theorem Rf.lt (h : Rf B q u ys w) : q < w.heap.size := lt_of_block h.obj
theorem Rf.slice (h : Rf B q u ys w) : ∃ ao c, u = .slice ao ys.length c := owns_slice h.row
theorem Rf.below (h : Rf B q u ys w) (hb : Below w.heap.size w w') : Rf B q u ys w' := ⟨(hb.block _ (lt_of_block h.obj)).trans h.obj, owns_below h.row hb, Nat.le_trans h.low hb.size, h.few⟩
theorem Rf.sav {S : Nat → Prop} (h : Rf B q u ys w) (hs : Sav S w w') (h0 : ¬ S q) (h1 : ∀ k, u.ownBlock = some k → ¬ S k) : Rf B q u ys w' := ⟨hs.at h.obj h0, owns_sav h.row hs h1, Nat.le_trans h.low hs.size, h.few⟩
theorem Rf.reads (h : Rf B q u ys w) : Reads 12 encL w u ys := Reads.own encL_len (by decide) h.row
theorem Rf.new (w : World) (B : Nat) (hB : B ≤ w.heap.size) : Rf B w.heap.size (.slice none 0 0) [] (w.alloc (.cells #[.slice none 0 0] 30)) :=
  ⟨new_block _ _, World.ownsRow_nil _ _ _ _, by simp; omega, by decide⟩
end
/-- A new state of it. -/
def RTurns (B q : Nat) (u : Value) (l : List LetX) (w w' : World) : Prop := ∃ u', Rf B q u' l w' ∧ Sav (Just q) w w' ∧ Next w u u'
theorem RTurns.stay {B q : Nat} {u : Value} {ys : List LetX} {w w' : World} (h : Rf B q u ys w) (hb : Below w.heap.size w w') : RTurns B q u ys w w' := ⟨u, h.below hb, Sav.of_below hb, .inl rfl⟩
/-- A new row is put in the elder one's place. -/
theorem Rf.put {B q : Nat} {u u' : Value} {ys l : List LetX} {w wd w1 : World} {n : Nat} (h : Rf B q u ys wd) (hd : Below w.heap.size w wd) (hb : Below wd.heap.size wd w1) (hr : w1.ownsRow wd.heap.size 36 12 u' n (fl encL l)) (hn : l.length = n) (hf : l.length ≤ 128) : Rf B q u' l (w1.setCell ⟨q, 0, none⟩ u') ∧ Sav (Just q) w (w1.setCell ⟨q, 0, none⟩ u') ∧ ∀ k, u'.ownBlock = some k → wd.heap.size ≤ k := by
  subst hn
  have h1 := h.below hb
  refine ⟨⟨by have := set_same (j := 0) (v := u') h1.obj; simpa using this, ?_, by simpa [World.setCell] using h1.low, hf⟩, ((Sav.of_below hd).trans (Sav.of_below hb)).setCell (just q) 0 u', fun k hk => (hr.lt k hk).1⟩
  exact owns_sav (S := Just q) (owns_low hr h.low) ((Sav.refl _ w1).setCell (just q) 0 u') (fun k hk e => owns_ne hr h1.obj (by decide) (by rw [hk]; exact congrArg some e.symm))
theorem RTurns.put {B q : Nat} {u u' : Value} {ys l : List LetX} {w wd w1 : World} {n : Nat} (h : Rf B q u ys wd) (hd : Below w.heap.size w wd) (hb : Below wd.heap.size wd w1) (hr : w1.ownsRow wd.heap.size 36 12 u' n (fl encL l)) (hn : l.length = n) (hf : l.length ≤ 128) : RTurns B q u l w (w1.setCell ⟨q, 0, none⟩ u') := by
  obtain ⟨h1, h2, h3⟩ := Rf.put h hd hb hr hn hf
  exact ⟨u', h1, h2, .inr (fun k hk => Nat.le_trans hd.size (h3 k hk))⟩
theorem row_none {B n : Nat} {w : World} {ao : Option Addr} {m c : Nat} {xs : List Value} (h : w.ownsRow B 36 12 (.slice ao m c) n xs) : ao = none → m = 0 ∧ c = 0 := by
  rcases h.2 with ⟨h1, h2⟩ | ⟨g, cap, cur, h1, _⟩
  · cases h1
    exact fun _ => ⟨rfl, rfl⟩
  · cases h1
    exact fun e => by cases e
set_option maxHeartbeats 8000000 in
set_option maxRecDepth 100000 in
theorem rdouble_yes (B q k : Nat) (u : Value) (ys : List LetX) (x : LetX) (w : World) (h : Rf B q u ys w) (hx : ys[k]? = some x) (hr : ys.length < 128) :
    Calls Try.prog 15 #[.pointer (some ⟨q, 0, none⟩), .int .i64 k] w fun e w' => e = .returned (.bool true) ∧ RTurns B q u (ys ++ [x]) w w' := by
  obtain ⟨i0, hi, hz0, hz1, hz2⟩ := info_parts Try.infoL
  obtain ⟨ao, cap, rfl⟩ := h.slice
  have hk := (List.getElem?_eq_some_iff.1 hx).1
  have hno := row_none h.row
  obtain ⟨p, off, ea, hp, hc⟩ := h.reads.cells hk
  subst ea
  rw [(List.getElem?_eq_some_iff.1 hx).2] at hc
  have hpq : p ≠ q := by
    intro e
    have := owns_ne h.row h.obj (by decide)
    simp [Value.ownBlock] at this
    rcases h.row.2 with ⟨h1, _⟩ | ⟨g, cap', cur, h1, _⟩
    · cases h1
    · cases h1
      exact this e.symm
  have c0 := h.c0
  have H0 := hid h
  have d0 : decide ((k : Int) < 0) = false := by simp
  have d1 : decide ((ys.length : Int) ≤ (k : Int)) = false := by simp; omega
  have d2 : decide ((128 : Int) ≤ (ys.length : Int)) = false := by simp; omega
  have hki : (k : Int) < (ys.length : Int) := by omega
  go_enter Try.func15, Try.ntmps15
  go_wp2_with fail
  have HD := hid (below_drew1 w)
  have H := hid (h.below HD.out)
  have hS0 : LC p (off + k * 12) x w.drew := LC.of hc
  have HRF := hid (fun w' (hb : Below w.drew.heap.size w.drew w') => (H.out.below hb).c0)
  have HFF := hid (fun w' (hb : Below w.drew.heap.size w.drew w') => show w'.frozen? ⟨q, 0, none⟩ = false from free_of_cells (H.out.below hb).obj)
  have HSF := hid (fun w' (hb : Below w.drew.heap.size w.drew w') => hS0.below hb hp)
  have HNW := hid (fun w' (hb : Below w.drew.heap.size w.drew w') => Reads.news encL_len (by decide) H.out.reads hb)
  have HSS := hid (fun (w' : World) (v : Value) (hS : LC p (off + k * 12) x w') => hS.set (v := v) hpq)
  have x0 := HRF.out _ (Below.refl _ _)
  have HB0 := hid (Below.refl w.drew.heap.size w.drew)
  refine wp_region_held_drew (S := LC p (off + k * 12) x) (by kernel_rfl) hS0 (fun hHeld => ?_)
  generalize w.drew = wd at H HD HRF HSF HNW HFF hS0 x0 HB0 hHeld ⊢
  clear h hx c0 hc
  refine takeH 0 24 (.pointer (some ⟨q, 0, none⟩)) rfl rfl (by kernel_rfl) (by kernel_rfl) (by kernel_rfl) (fun _ _ _ h => h) (by rfl) ?_ (by assumption) ?_
  · intro w' hSw
    go_simp
  try simp only [Act.put, List.setIfInBounds_toArray, List.set_cons_zero, List.set_cons_succ]
  refine takeH 1 25 (.pointer (some ⟨q, 0, none⟩)) rfl rfl (by kernel_rfl) (by kernel_rfl) (by kernel_rfl) (fun _ _ _ h => h) (by rfl) ?_ (by assumption) ?_
  · intro w' hSw
    go_simp
  try simp only [Act.put, List.setIfInBounds_toArray, List.set_cons_zero, List.set_cons_succ]
  refine takeH 2 26 (.pointer (some ⟨q, 0, none⟩)) rfl rfl (by kernel_rfl) (by kernel_rfl) (by kernel_rfl) (fun _ _ _ h => h) (by rfl) ?_ (by assumption) ?_
  · intro w' hSw
    go_simp
  try simp only [Act.put, List.setIfInBounds_toArray, List.set_cons_zero, List.set_cons_succ]
  refine takeH 3 27 (.pointer (some ⟨q, 0, none⟩)) rfl rfl (by kernel_rfl) (by kernel_rfl) (by kernel_rfl) (fun _ _ _ h => h) (by rfl) ?_ (by assumption) ?_
  · intro w' hSw
    go_simp
  try simp only [Act.put, List.setIfInBounds_toArray, List.set_cons_zero, List.set_cons_succ]
  refine takeH 6 30 (.pointer (some ⟨q, 0, none⟩)) rfl rfl (by kernel_rfl) (by kernel_rfl) (by kernel_rfl) (fun _ _ _ h => h) (by rfl) ?_ (by assumption) ?_
  · intro w' hSw
    go_simp
  try simp only [Act.put, List.setIfInBounds_toArray, List.set_cons_zero, List.set_cons_succ]
  refine takeH 7 31 (.pointer (some ⟨q, 0, none⟩)) rfl rfl (by kernel_rfl) (by kernel_rfl) (by kernel_rfl) (fun _ _ _ h => h) (by rfl) ?_ (by assumption) ?_
  · intro w' hSw
    go_simp
  try simp only [Act.put, List.setIfInBounds_toArray, List.set_cons_zero, List.set_cons_succ]
  refine takeH 8 32 (.pointer (some ⟨q, 0, none⟩)) rfl rfl (by kernel_rfl) (by kernel_rfl) (by kernel_rfl) (fun _ _ _ h => h) (by rfl) ?_ (by assumption) ?_
  · intro w' hSw
    go_simp
  try simp only [Act.put, List.setIfInBounds_toArray, List.set_cons_zero, List.set_cons_succ]
  refine takeH 10 34 (.int .i64 k) rfl rfl (by kernel_rfl) (by kernel_rfl) (by kernel_rfl) (fun _ _ _ h => h) (by rfl) ?_ (by assumption) ?_
  · intro w' hSw
    go_simp
  try simp only [Act.put, List.setIfInBounds_toArray, List.set_cons_zero, List.set_cons_succ]
  refine wpAnyH_ready (rs := [4, 9]) (by kernel_rfl) (by simp) (nextH 4 rfl (by rfl) (fun K hK => ?_) (nextH 9 rfl (by rfl) (fun K hK => ?_) AllReadyH.nil))
  · go_simp
    refine hK.out _ _ (by assumption) (fun hHeld => ?_)
    clear hK K
    try simp only [Act.put, List.setIfInBounds_toArray, List.set_cons_zero, List.set_cons_succ]
    refine wpAnyH_ready (rs := [5, 9]) (by kernel_rfl) (by simp) (AllReadyH.cons rfl (fun K hK => ?_) (nextH 9 rfl (by rfl) (fun K hK => ?_) AllReadyH.nil))
    · refine step_append_any_to 29 rfl rfl (.const (.slice none 0 0)) (.tmp 28) 28 rfl wd.heap.size 36 i0 _ 12 128 Try.underlying28 hi hz0 hz1 hz2 rfl (by decide) (.slice none 0 0) 0 [] (by simp [Act.eval]) (World.ownsRow_nil _ _ _ _) (some ⟨p, off, none⟩) (ys.length) cap (fl encL ys) (by simp [Act.eval]) (fl_length encL_len ys) hno (HNW.out _ HB0.out) (fl_one encL_one _) (by unfold maxLen; omega) (by omega) HB0.out.size ?_
      intro v1 w1 ho1 hg1
      simp only [Nat.zero_add, List.nil_append] at ho1
      have hb1 := below_none hg1
      obtain ⟨a1, k1, rfl⟩ := owns_slice ho1
      have HB2 := hid (below_then HB0.out hb1 HB0.out.size)
      have x2 := HRF.out _ HB2.out
      have hS2 := HSF.out _ HB2.out
      refine hK.out _ _ (by assumption) (fun hHeld => ?_)
      clear hK K
      try simp only [Act.put, List.setIfInBounds_toArray, List.set_cons_zero, List.set_cons_succ]
      refine wpAnyH_ready (rs := [9]) (by kernel_rfl) (by simp) (nextH 9 rfl (by rfl) (fun K hK => ?_) AllReadyH.nil)
      go_simp
      refine hK.out _ _ (by assumption) (fun hHeld => ?_)
      clear hK K
      try simp only [Act.put, List.setIfInBounds_toArray, List.set_cons_zero, List.set_cons_succ]
      refine takeH 11 35 (.pointer (some ⟨p, off + k * 12, none⟩)) rfl rfl (by kernel_rfl) (by kernel_rfl) (by kernel_rfl) (fun _ _ _ h => h) (by rfl) ?_ (by assumption) ?_
      · intro w' hSw
        go_simp
      try simp only [Act.put, List.setIfInBounds_toArray, List.set_cons_zero, List.set_cons_succ]
      refine takeH 12 36 (.agg #[.int .i64 x.r.from_, .int .i64 x.r.to_, .int .i64 x.r.kind, .int .i64 x.r.split, .int .i64 x.r.attempt, .int .i64 x.r.part, .int .i64 x.r.seq, .int .i64 x.r.next, .int .i64 x.r.epoch, .int .i64 x.r.reason, .slice x.so x.r.set.length x.sc, .slice x.po x.r.prs.length x.pc]) rfl rfl (by kernel_rfl) (by kernel_rfl) (by kernel_rfl) (fun _ _ _ h => h) (by rfl) ?_ (by assumption) ?_
      · intro w' hSw
        obtain ⟨q0, q1, q2, q3, q4, q5, q6, q7, q8, q9, q10, q11⟩ := hSw; go_simp
      try simp only [Act.put, List.setIfInBounds_toArray, List.set_cons_zero, List.set_cons_succ]
      refine wpAnyH_ready (rs := [13]) (by kernel_rfl) (by simp) (nextH 13 rfl (by rfl) (fun K hK => ?_) AllReadyH.nil)
      go_simp
      have HB3 := hid (below_then HB2.out (alloc_one w1 (.cells #[.int .i64 x.r.from_, .int .i64 x.r.to_, .int .i64 x.r.kind, .int .i64 x.r.split, .int .i64 x.r.attempt, .int .i64 x.r.part, .int .i64 x.r.seq, .int .i64 x.r.next, .int .i64 x.r.epoch, .int .i64 x.r.reason, .slice x.so x.r.set.length x.sc, .slice x.po x.r.prs.length x.pc] 36)) HB2.out.size)
      have x3 := HRF.out _ HB3.out
      have hS3 := HSF.out _ HB3.out
      have ho3 := owns_below ho1 (alloc_one w1 (.cells #[.int .i64 x.r.from_, .int .i64 x.r.to_, .int .i64 x.r.kind, .int .i64 x.r.split, .int .i64 x.r.attempt, .int .i64 x.r.part, .int .i64 x.r.seq, .int .i64 x.r.next, .int .i64 x.r.epoch, .int .i64 x.r.reason, .slice x.so x.r.set.length x.sc, .slice x.po x.r.prs.length x.pc] 36))
      have nw4 := new_cells w1 #[.int .i64 x.r.from_, .int .i64 x.r.to_, .int .i64 x.r.kind, .int .i64 x.r.split, .int .i64 x.r.attempt, .int .i64 x.r.part, .int .i64 x.r.seq, .int .i64 x.r.next, .int .i64 x.r.epoch, .int .i64 x.r.reason, .slice x.so x.r.set.length x.sc, .slice x.po x.r.prs.length x.pc] 36
      have nl4 : ({ block := w1.heap.size, off := 0 } : Addr).block < (w1.alloc (.cells #[.int .i64 x.r.from_, .int .i64 x.r.to_, .int .i64 x.r.kind, .int .i64 x.r.split, .int .i64 x.r.attempt, .int .i64 x.r.part, .int .i64 x.r.seq, .int .i64 x.r.next, .int .i64 x.r.epoch, .int .i64 x.r.reason, .slice x.so x.r.set.length x.sc, .slice x.po x.r.prs.length x.pc] 36)).heap.size := by simp
      refine hK.out _ _ (by assumption) (fun hHeld => ?_)
      clear hK K
      try simp only [Act.put, List.setIfInBounds_toArray, List.set_cons_zero, List.set_cons_succ]
      refine wpAnyH_ready (rs := [14]) (by kernel_rfl) (by simp) (AllReadyH.cons rfl (fun K hK => ?_) AllReadyH.nil)
      refine step_append_to 38 rfl rfl (.tmp 29) (.tmp 37) 28 rfl wd.heap.size 36 i0 _ 12 128 Try.underlying28 hi hz0 hz1 hz2 rfl (by decide) _ (ys.length) (fl encL ys) (by simp [Act.eval]) ho3 ⟨w1.heap.size, 0, none⟩ 1 1 (encL x) (by simp [Act.eval]) rfl nw4 (encL_one x) (by unfold maxLen; omega) (by omega) HB3.out.size ?_
      intro v5 w5 ho5 hg5 _
      have HG5 := hid (HB3.out.grown hg5 HB3.out.size (fun r hr => (ho3.lt r hr).1))
      have x5 := HRF.out _ HG5.out
      have hS5 := HSF.out _ HG5.out
      have f5 := HFF.out _ HG5.out
      obtain ⟨a5, k5, rfl⟩ := owns_slice ho5
      have HO5 := hid ho5
      clear ho5 hg5
      refine hK.out _ _ (by assumption) (fun hHeld => ?_)
      clear hK K
      try simp only [Act.put, List.setIfInBounds_toArray, List.set_cons_zero, List.set_cons_succ]
      refine takeH 15 39 (.pointer (some ⟨q, 0, none⟩)) rfl rfl (by kernel_rfl) (by kernel_rfl) (by kernel_rfl) (fun _ _ _ h => h) (by rfl) ?_ (by assumption) ?_
      · intro w' hSw
        go_simp
      try simp only [Act.put, List.setIfInBounds_toArray, List.set_cons_zero, List.set_cons_succ]
      refine takeH 16 40 (.pointer (some ⟨q, 0, none⟩)) rfl rfl (by kernel_rfl) (by kernel_rfl) (by kernel_rfl) (fun _ _ _ h => h) (by rfl) ?_ (by assumption) ?_
      · intro w' hSw
        go_simp
      try simp only [Act.put, List.setIfInBounds_toArray, List.set_cons_zero, List.set_cons_succ]
      refine wpAnyH_ready (rs := [17]) (by kernel_rfl) (by simp) (nextH 17 rfl (by rfl) (fun K hK => ?_) AllReadyH.nil)
      go_simp
      refine hK.out _ _ (HSS.out _ _ hS5) (fun hHeld => ?_)
      clear hK K
      try simp only [Act.put, List.setIfInBounds_toArray, List.set_cons_zero, List.set_cons_succ]
      refine wpAnyH_done (by kernel_rfl) ?_ _
      go_wp2
      go_ret
      exact ⟨rfl, RTurns.put H.out HD.out HG5.out (l := ys ++ [x]) (by have := HO5.out; simpa [fl_append, fl_single] using this) (by simp) (by simp; omega)⟩
    · go_simp
      refine hK.out _ _ (by assumption) (fun hHeld => ?_)
      clear hK K
      try simp only [Act.put, List.setIfInBounds_toArray, List.set_cons_zero, List.set_cons_succ]
      refine takeH 11 35 (.pointer (some ⟨p, off + k * 12, none⟩)) rfl rfl (by kernel_rfl) (by kernel_rfl) (by kernel_rfl) (fun _ _ _ h => h) (by rfl) ?_ (by assumption) ?_
      · intro w' hSw
        go_simp
      try simp only [Act.put, List.setIfInBounds_toArray, List.set_cons_zero, List.set_cons_succ]
      refine takeH 12 36 (.agg #[.int .i64 x.r.from_, .int .i64 x.r.to_, .int .i64 x.r.kind, .int .i64 x.r.split, .int .i64 x.r.attempt, .int .i64 x.r.part, .int .i64 x.r.seq, .int .i64 x.r.next, .int .i64 x.r.epoch, .int .i64 x.r.reason, .slice x.so x.r.set.length x.sc, .slice x.po x.r.prs.length x.pc]) rfl rfl (by kernel_rfl) (by kernel_rfl) (by kernel_rfl) (fun _ _ _ h => h) (by rfl) ?_ (by assumption) ?_
      · intro w' hSw
        obtain ⟨q0, q1, q2, q3, q4, q5, q6, q7, q8, q9, q10, q11⟩ := hSw; go_simp
      try simp only [Act.put, List.setIfInBounds_toArray, List.set_cons_zero, List.set_cons_succ]
      refine wpAnyH_ready (rs := [5, 13]) (by kernel_rfl) (by simp) (AllReadyH.cons rfl (fun K hK => ?_) (nextH 13 rfl (by rfl) (fun K hK => ?_) AllReadyH.nil))
      · refine step_append_any_to 29 rfl rfl (.const (.slice none 0 0)) (.tmp 28) 28 rfl wd.heap.size 36 i0 _ 12 128 Try.underlying28 hi hz0 hz1 hz2 rfl (by decide) (.slice none 0 0) 0 [] (by simp [Act.eval]) (World.ownsRow_nil _ _ _ _) (some ⟨p, off, none⟩) (ys.length) cap (fl encL ys) (by simp [Act.eval]) (fl_length encL_len ys) hno (HNW.out _ HB0.out) (fl_one encL_one _) (by unfold maxLen; omega) (by omega) HB0.out.size ?_
        intro v6 w6 ho6 hg6
        simp only [Nat.zero_add, List.nil_append] at ho6
        have hb6 := below_none hg6
        obtain ⟨a6, k6, rfl⟩ := owns_slice ho6
        have HB7 := hid (below_then HB0.out hb6 HB0.out.size)
        have x7 := HRF.out _ HB7.out
        have hS7 := HSF.out _ HB7.out
        refine hK.out _ _ (by assumption) (fun hHeld => ?_)
        clear hK K
        try simp only [Act.put, List.setIfInBounds_toArray, List.set_cons_zero, List.set_cons_succ]
        refine wpAnyH_ready (rs := [13]) (by kernel_rfl) (by simp) (nextH 13 rfl (by rfl) (fun K hK => ?_) AllReadyH.nil)
        go_simp
        have HB8 := hid (below_then HB7.out (alloc_one w6 (.cells #[.int .i64 x.r.from_, .int .i64 x.r.to_, .int .i64 x.r.kind, .int .i64 x.r.split, .int .i64 x.r.attempt, .int .i64 x.r.part, .int .i64 x.r.seq, .int .i64 x.r.next, .int .i64 x.r.epoch, .int .i64 x.r.reason, .slice x.so x.r.set.length x.sc, .slice x.po x.r.prs.length x.pc] 36)) HB7.out.size)
        have x8 := HRF.out _ HB8.out
        have hS8 := HSF.out _ HB8.out
        have ho8 := owns_below ho6 (alloc_one w6 (.cells #[.int .i64 x.r.from_, .int .i64 x.r.to_, .int .i64 x.r.kind, .int .i64 x.r.split, .int .i64 x.r.attempt, .int .i64 x.r.part, .int .i64 x.r.seq, .int .i64 x.r.next, .int .i64 x.r.epoch, .int .i64 x.r.reason, .slice x.so x.r.set.length x.sc, .slice x.po x.r.prs.length x.pc] 36))
        have nw9 := new_cells w6 #[.int .i64 x.r.from_, .int .i64 x.r.to_, .int .i64 x.r.kind, .int .i64 x.r.split, .int .i64 x.r.attempt, .int .i64 x.r.part, .int .i64 x.r.seq, .int .i64 x.r.next, .int .i64 x.r.epoch, .int .i64 x.r.reason, .slice x.so x.r.set.length x.sc, .slice x.po x.r.prs.length x.pc] 36
        have nl9 : ({ block := w6.heap.size, off := 0 } : Addr).block < (w6.alloc (.cells #[.int .i64 x.r.from_, .int .i64 x.r.to_, .int .i64 x.r.kind, .int .i64 x.r.split, .int .i64 x.r.attempt, .int .i64 x.r.part, .int .i64 x.r.seq, .int .i64 x.r.next, .int .i64 x.r.epoch, .int .i64 x.r.reason, .slice x.so x.r.set.length x.sc, .slice x.po x.r.prs.length x.pc] 36)).heap.size := by simp
        refine hK.out _ _ (by assumption) (fun hHeld => ?_)
        clear hK K
        try simp only [Act.put, List.setIfInBounds_toArray, List.set_cons_zero, List.set_cons_succ]
        refine wpAnyH_ready (rs := [14]) (by kernel_rfl) (by simp) (AllReadyH.cons rfl (fun K hK => ?_) AllReadyH.nil)
        refine step_append_to 38 rfl rfl (.tmp 29) (.tmp 37) 28 rfl wd.heap.size 36 i0 _ 12 128 Try.underlying28 hi hz0 hz1 hz2 rfl (by decide) _ (ys.length) (fl encL ys) (by simp [Act.eval]) ho8 ⟨w6.heap.size, 0, none⟩ 1 1 (encL x) (by simp [Act.eval]) rfl nw9 (encL_one x) (by unfold maxLen; omega) (by omega) HB8.out.size ?_
        intro v10 w10 ho10 hg10 _
        have HG10 := hid (HB8.out.grown hg10 HB8.out.size (fun r hr => (ho8.lt r hr).1))
        have x10 := HRF.out _ HG10.out
        have hS10 := HSF.out _ HG10.out
        have f10 := HFF.out _ HG10.out
        obtain ⟨a10, k10, rfl⟩ := owns_slice ho10
        have HO10 := hid ho10
        clear ho10 hg10
        refine hK.out _ _ (by assumption) (fun hHeld => ?_)
        clear hK K
        try simp only [Act.put, List.setIfInBounds_toArray, List.set_cons_zero, List.set_cons_succ]
        refine takeH 15 39 (.pointer (some ⟨q, 0, none⟩)) rfl rfl (by kernel_rfl) (by kernel_rfl) (by kernel_rfl) (fun _ _ _ h => h) (by rfl) ?_ (by assumption) ?_
        · intro w' hSw
          go_simp
        try simp only [Act.put, List.setIfInBounds_toArray, List.set_cons_zero, List.set_cons_succ]
        refine takeH 16 40 (.pointer (some ⟨q, 0, none⟩)) rfl rfl (by kernel_rfl) (by kernel_rfl) (by kernel_rfl) (fun _ _ _ h => h) (by rfl) ?_ (by assumption) ?_
        · intro w' hSw
          go_simp
        try simp only [Act.put, List.setIfInBounds_toArray, List.set_cons_zero, List.set_cons_succ]
        refine wpAnyH_ready (rs := [17]) (by kernel_rfl) (by simp) (nextH 17 rfl (by rfl) (fun K hK => ?_) AllReadyH.nil)
        go_simp
        refine hK.out _ _ (HSS.out _ _ hS10) (fun hHeld => ?_)
        clear hK K
        try simp only [Act.put, List.setIfInBounds_toArray, List.set_cons_zero, List.set_cons_succ]
        refine wpAnyH_done (by kernel_rfl) ?_ _
        go_wp2
        go_ret
        exact ⟨rfl, RTurns.put H.out HD.out HG10.out (l := ys ++ [x]) (by have := HO10.out; simpa [fl_append, fl_single] using this) (by simp) (by simp; omega)⟩
      · go_simp
        have HB11 := hid (below_then HB0.out (alloc_one wd (.cells #[.int .i64 x.r.from_, .int .i64 x.r.to_, .int .i64 x.r.kind, .int .i64 x.r.split, .int .i64 x.r.attempt, .int .i64 x.r.part, .int .i64 x.r.seq, .int .i64 x.r.next, .int .i64 x.r.epoch, .int .i64 x.r.reason, .slice x.so x.r.set.length x.sc, .slice x.po x.r.prs.length x.pc] 36)) HB0.out.size)
        have x11 := HRF.out _ HB11.out
        have hS11 := HSF.out _ HB11.out
        have nw12 := new_cells wd #[.int .i64 x.r.from_, .int .i64 x.r.to_, .int .i64 x.r.kind, .int .i64 x.r.split, .int .i64 x.r.attempt, .int .i64 x.r.part, .int .i64 x.r.seq, .int .i64 x.r.next, .int .i64 x.r.epoch, .int .i64 x.r.reason, .slice x.so x.r.set.length x.sc, .slice x.po x.r.prs.length x.pc] 36
        have nl12 : ({ block := wd.heap.size, off := 0 } : Addr).block < (wd.alloc (.cells #[.int .i64 x.r.from_, .int .i64 x.r.to_, .int .i64 x.r.kind, .int .i64 x.r.split, .int .i64 x.r.attempt, .int .i64 x.r.part, .int .i64 x.r.seq, .int .i64 x.r.next, .int .i64 x.r.epoch, .int .i64 x.r.reason, .slice x.so x.r.set.length x.sc, .slice x.po x.r.prs.length x.pc] 36)).heap.size := by simp
        refine hK.out _ _ (by assumption) (fun hHeld => ?_)
        clear hK K
        try simp only [Act.put, List.setIfInBounds_toArray, List.set_cons_zero, List.set_cons_succ]
        refine wpAnyH_ready (rs := [5]) (by kernel_rfl) (by simp) (AllReadyH.cons rfl (fun K hK => ?_) AllReadyH.nil)
        refine step_append_any_to 29 rfl rfl (.const (.slice none 0 0)) (.tmp 28) 28 rfl wd.heap.size 36 i0 _ 12 128 Try.underlying28 hi hz0 hz1 hz2 rfl (by decide) (.slice none 0 0) 0 [] (by simp [Act.eval]) (World.ownsRow_nil _ _ _ _) (some ⟨p, off, none⟩) (ys.length) cap (fl encL ys) (by simp [Act.eval]) (fl_length encL_len ys) hno (HNW.out _ HB11.out) (fl_one encL_one _) (by unfold maxLen; omega) (by omega) HB11.out.size ?_
        intro v13 w13 ho13 hg13
        simp only [Nat.zero_add, List.nil_append] at ho13
        have hb13 := below_none hg13
        obtain ⟨a13, k13, rfl⟩ := owns_slice ho13
        have HB14 := hid (below_then HB11.out hb13 HB11.out.size)
        have x14 := HRF.out _ HB14.out
        have hS14 := HSF.out _ HB14.out
        have nw14 := news_below nw12 hb13 nl12
        have nl14 := Nat.lt_of_lt_of_le nl12 (hb13).size
        refine hK.out _ _ (by assumption) (fun hHeld => ?_)
        clear hK K
        try simp only [Act.put, List.setIfInBounds_toArray, List.set_cons_zero, List.set_cons_succ]
        refine wpAnyH_ready (rs := [14]) (by kernel_rfl) (by simp) (AllReadyH.cons rfl (fun K hK => ?_) AllReadyH.nil)
        refine step_append_to 38 rfl rfl (.tmp 29) (.tmp 37) 28 rfl wd.heap.size 36 i0 _ 12 128 Try.underlying28 hi hz0 hz1 hz2 rfl (by decide) _ (ys.length) (fl encL ys) (by simp [Act.eval]) ho13 ⟨wd.heap.size, 0, none⟩ 1 1 (encL x) (by simp [Act.eval]) rfl nw14 (encL_one x) (by unfold maxLen; omega) (by omega) HB14.out.size ?_
        intro v15 w15 ho15 hg15 _
        have HG15 := hid (HB14.out.grown hg15 HB14.out.size (fun r hr => (ho13.lt r hr).1))
        have x15 := HRF.out _ HG15.out
        have hS15 := HSF.out _ HG15.out
        have f15 := HFF.out _ HG15.out
        obtain ⟨a15, k15, rfl⟩ := owns_slice ho15
        have HO15 := hid ho15
        clear ho15 hg15
        refine hK.out _ _ (by assumption) (fun hHeld => ?_)
        clear hK K
        try simp only [Act.put, List.setIfInBounds_toArray, List.set_cons_zero, List.set_cons_succ]
        refine takeH 15 39 (.pointer (some ⟨q, 0, none⟩)) rfl rfl (by kernel_rfl) (by kernel_rfl) (by kernel_rfl) (fun _ _ _ h => h) (by rfl) ?_ (by assumption) ?_
        · intro w' hSw
          go_simp
        try simp only [Act.put, List.setIfInBounds_toArray, List.set_cons_zero, List.set_cons_succ]
        refine takeH 16 40 (.pointer (some ⟨q, 0, none⟩)) rfl rfl (by kernel_rfl) (by kernel_rfl) (by kernel_rfl) (fun _ _ _ h => h) (by rfl) ?_ (by assumption) ?_
        · intro w' hSw
          go_simp
        try simp only [Act.put, List.setIfInBounds_toArray, List.set_cons_zero, List.set_cons_succ]
        refine wpAnyH_ready (rs := [17]) (by kernel_rfl) (by simp) (nextH 17 rfl (by rfl) (fun K hK => ?_) AllReadyH.nil)
        go_simp
        refine hK.out _ _ (HSS.out _ _ hS15) (fun hHeld => ?_)
        clear hK K
        try simp only [Act.put, List.setIfInBounds_toArray, List.set_cons_zero, List.set_cons_succ]
        refine wpAnyH_done (by kernel_rfl) ?_ _
        go_wp2
        go_ret
        exact ⟨rfl, RTurns.put H.out HD.out HG15.out (l := ys ++ [x]) (by have := HO15.out; simpa [fl_append, fl_single] using this) (by simp) (by simp; omega)⟩
  · go_simp
    refine hK.out _ _ (by assumption) (fun hHeld => ?_)
    clear hK K
    try simp only [Act.put, List.setIfInBounds_toArray, List.set_cons_zero, List.set_cons_succ]
    refine takeH 11 35 (.pointer (some ⟨p, off + k * 12, none⟩)) rfl rfl (by kernel_rfl) (by kernel_rfl) (by kernel_rfl) (fun _ _ _ h => h) (by rfl) ?_ (by assumption) ?_
    · intro w' hSw
      go_simp
    try simp only [Act.put, List.setIfInBounds_toArray, List.set_cons_zero, List.set_cons_succ]
    refine takeH 12 36 (.agg #[.int .i64 x.r.from_, .int .i64 x.r.to_, .int .i64 x.r.kind, .int .i64 x.r.split, .int .i64 x.r.attempt, .int .i64 x.r.part, .int .i64 x.r.seq, .int .i64 x.r.next, .int .i64 x.r.epoch, .int .i64 x.r.reason, .slice x.so x.r.set.length x.sc, .slice x.po x.r.prs.length x.pc]) rfl rfl (by kernel_rfl) (by kernel_rfl) (by kernel_rfl) (fun _ _ _ h => h) (by rfl) ?_ (by assumption) ?_
    · intro w' hSw
      obtain ⟨q0, q1, q2, q3, q4, q5, q6, q7, q8, q9, q10, q11⟩ := hSw; go_simp
    try simp only [Act.put, List.setIfInBounds_toArray, List.set_cons_zero, List.set_cons_succ]
    refine wpAnyH_ready (rs := [4, 13]) (by kernel_rfl) (by simp) (nextH 4 rfl (by rfl) (fun K hK => ?_) (nextH 13 rfl (by rfl) (fun K hK => ?_) AllReadyH.nil))
    · go_simp
      refine hK.out _ _ (by assumption) (fun hHeld => ?_)
      clear hK K
      try simp only [Act.put, List.setIfInBounds_toArray, List.set_cons_zero, List.set_cons_succ]
      refine wpAnyH_ready (rs := [5, 13]) (by kernel_rfl) (by simp) (AllReadyH.cons rfl (fun K hK => ?_) (nextH 13 rfl (by rfl) (fun K hK => ?_) AllReadyH.nil))
      · refine step_append_any_to 29 rfl rfl (.const (.slice none 0 0)) (.tmp 28) 28 rfl wd.heap.size 36 i0 _ 12 128 Try.underlying28 hi hz0 hz1 hz2 rfl (by decide) (.slice none 0 0) 0 [] (by simp [Act.eval]) (World.ownsRow_nil _ _ _ _) (some ⟨p, off, none⟩) (ys.length) cap (fl encL ys) (by simp [Act.eval]) (fl_length encL_len ys) hno (HNW.out _ HB0.out) (fl_one encL_one _) (by unfold maxLen; omega) (by omega) HB0.out.size ?_
        intro v16 w16 ho16 hg16
        simp only [Nat.zero_add, List.nil_append] at ho16
        have hb16 := below_none hg16
        obtain ⟨a16, k16, rfl⟩ := owns_slice ho16
        have HB17 := hid (below_then HB0.out hb16 HB0.out.size)
        have x17 := HRF.out _ HB17.out
        have hS17 := HSF.out _ HB17.out
        refine hK.out _ _ (by assumption) (fun hHeld => ?_)
        clear hK K
        try simp only [Act.put, List.setIfInBounds_toArray, List.set_cons_zero, List.set_cons_succ]
        refine wpAnyH_ready (rs := [13]) (by kernel_rfl) (by simp) (nextH 13 rfl (by rfl) (fun K hK => ?_) AllReadyH.nil)
        go_simp
        have HB18 := hid (below_then HB17.out (alloc_one w16 (.cells #[.int .i64 x.r.from_, .int .i64 x.r.to_, .int .i64 x.r.kind, .int .i64 x.r.split, .int .i64 x.r.attempt, .int .i64 x.r.part, .int .i64 x.r.seq, .int .i64 x.r.next, .int .i64 x.r.epoch, .int .i64 x.r.reason, .slice x.so x.r.set.length x.sc, .slice x.po x.r.prs.length x.pc] 36)) HB17.out.size)
        have x18 := HRF.out _ HB18.out
        have hS18 := HSF.out _ HB18.out
        have ho18 := owns_below ho16 (alloc_one w16 (.cells #[.int .i64 x.r.from_, .int .i64 x.r.to_, .int .i64 x.r.kind, .int .i64 x.r.split, .int .i64 x.r.attempt, .int .i64 x.r.part, .int .i64 x.r.seq, .int .i64 x.r.next, .int .i64 x.r.epoch, .int .i64 x.r.reason, .slice x.so x.r.set.length x.sc, .slice x.po x.r.prs.length x.pc] 36))
        have nw19 := new_cells w16 #[.int .i64 x.r.from_, .int .i64 x.r.to_, .int .i64 x.r.kind, .int .i64 x.r.split, .int .i64 x.r.attempt, .int .i64 x.r.part, .int .i64 x.r.seq, .int .i64 x.r.next, .int .i64 x.r.epoch, .int .i64 x.r.reason, .slice x.so x.r.set.length x.sc, .slice x.po x.r.prs.length x.pc] 36
        have nl19 : ({ block := w16.heap.size, off := 0 } : Addr).block < (w16.alloc (.cells #[.int .i64 x.r.from_, .int .i64 x.r.to_, .int .i64 x.r.kind, .int .i64 x.r.split, .int .i64 x.r.attempt, .int .i64 x.r.part, .int .i64 x.r.seq, .int .i64 x.r.next, .int .i64 x.r.epoch, .int .i64 x.r.reason, .slice x.so x.r.set.length x.sc, .slice x.po x.r.prs.length x.pc] 36)).heap.size := by simp
        refine hK.out _ _ (by assumption) (fun hHeld => ?_)
        clear hK K
        try simp only [Act.put, List.setIfInBounds_toArray, List.set_cons_zero, List.set_cons_succ]
        refine wpAnyH_ready (rs := [14]) (by kernel_rfl) (by simp) (AllReadyH.cons rfl (fun K hK => ?_) AllReadyH.nil)
        refine step_append_to 38 rfl rfl (.tmp 29) (.tmp 37) 28 rfl wd.heap.size 36 i0 _ 12 128 Try.underlying28 hi hz0 hz1 hz2 rfl (by decide) _ (ys.length) (fl encL ys) (by simp [Act.eval]) ho18 ⟨w16.heap.size, 0, none⟩ 1 1 (encL x) (by simp [Act.eval]) rfl nw19 (encL_one x) (by unfold maxLen; omega) (by omega) HB18.out.size ?_
        intro v20 w20 ho20 hg20 _
        have HG20 := hid (HB18.out.grown hg20 HB18.out.size (fun r hr => (ho18.lt r hr).1))
        have x20 := HRF.out _ HG20.out
        have hS20 := HSF.out _ HG20.out
        have f20 := HFF.out _ HG20.out
        obtain ⟨a20, k20, rfl⟩ := owns_slice ho20
        have HO20 := hid ho20
        clear ho20 hg20
        refine hK.out _ _ (by assumption) (fun hHeld => ?_)
        clear hK K
        try simp only [Act.put, List.setIfInBounds_toArray, List.set_cons_zero, List.set_cons_succ]
        refine takeH 15 39 (.pointer (some ⟨q, 0, none⟩)) rfl rfl (by kernel_rfl) (by kernel_rfl) (by kernel_rfl) (fun _ _ _ h => h) (by rfl) ?_ (by assumption) ?_
        · intro w' hSw
          go_simp
        try simp only [Act.put, List.setIfInBounds_toArray, List.set_cons_zero, List.set_cons_succ]
        refine takeH 16 40 (.pointer (some ⟨q, 0, none⟩)) rfl rfl (by kernel_rfl) (by kernel_rfl) (by kernel_rfl) (fun _ _ _ h => h) (by rfl) ?_ (by assumption) ?_
        · intro w' hSw
          go_simp
        try simp only [Act.put, List.setIfInBounds_toArray, List.set_cons_zero, List.set_cons_succ]
        refine wpAnyH_ready (rs := [17]) (by kernel_rfl) (by simp) (nextH 17 rfl (by rfl) (fun K hK => ?_) AllReadyH.nil)
        go_simp
        refine hK.out _ _ (HSS.out _ _ hS20) (fun hHeld => ?_)
        clear hK K
        try simp only [Act.put, List.setIfInBounds_toArray, List.set_cons_zero, List.set_cons_succ]
        refine wpAnyH_done (by kernel_rfl) ?_ _
        go_wp2
        go_ret
        exact ⟨rfl, RTurns.put H.out HD.out HG20.out (l := ys ++ [x]) (by have := HO20.out; simpa [fl_append, fl_single] using this) (by simp) (by simp; omega)⟩
      · go_simp
        have HB21 := hid (below_then HB0.out (alloc_one wd (.cells #[.int .i64 x.r.from_, .int .i64 x.r.to_, .int .i64 x.r.kind, .int .i64 x.r.split, .int .i64 x.r.attempt, .int .i64 x.r.part, .int .i64 x.r.seq, .int .i64 x.r.next, .int .i64 x.r.epoch, .int .i64 x.r.reason, .slice x.so x.r.set.length x.sc, .slice x.po x.r.prs.length x.pc] 36)) HB0.out.size)
        have x21 := HRF.out _ HB21.out
        have hS21 := HSF.out _ HB21.out
        have nw22 := new_cells wd #[.int .i64 x.r.from_, .int .i64 x.r.to_, .int .i64 x.r.kind, .int .i64 x.r.split, .int .i64 x.r.attempt, .int .i64 x.r.part, .int .i64 x.r.seq, .int .i64 x.r.next, .int .i64 x.r.epoch, .int .i64 x.r.reason, .slice x.so x.r.set.length x.sc, .slice x.po x.r.prs.length x.pc] 36
        have nl22 : ({ block := wd.heap.size, off := 0 } : Addr).block < (wd.alloc (.cells #[.int .i64 x.r.from_, .int .i64 x.r.to_, .int .i64 x.r.kind, .int .i64 x.r.split, .int .i64 x.r.attempt, .int .i64 x.r.part, .int .i64 x.r.seq, .int .i64 x.r.next, .int .i64 x.r.epoch, .int .i64 x.r.reason, .slice x.so x.r.set.length x.sc, .slice x.po x.r.prs.length x.pc] 36)).heap.size := by simp
        refine hK.out _ _ (by assumption) (fun hHeld => ?_)
        clear hK K
        try simp only [Act.put, List.setIfInBounds_toArray, List.set_cons_zero, List.set_cons_succ]
        refine wpAnyH_ready (rs := [5]) (by kernel_rfl) (by simp) (AllReadyH.cons rfl (fun K hK => ?_) AllReadyH.nil)
        refine step_append_any_to 29 rfl rfl (.const (.slice none 0 0)) (.tmp 28) 28 rfl wd.heap.size 36 i0 _ 12 128 Try.underlying28 hi hz0 hz1 hz2 rfl (by decide) (.slice none 0 0) 0 [] (by simp [Act.eval]) (World.ownsRow_nil _ _ _ _) (some ⟨p, off, none⟩) (ys.length) cap (fl encL ys) (by simp [Act.eval]) (fl_length encL_len ys) hno (HNW.out _ HB21.out) (fl_one encL_one _) (by unfold maxLen; omega) (by omega) HB21.out.size ?_
        intro v23 w23 ho23 hg23
        simp only [Nat.zero_add, List.nil_append] at ho23
        have hb23 := below_none hg23
        obtain ⟨a23, k23, rfl⟩ := owns_slice ho23
        have HB24 := hid (below_then HB21.out hb23 HB21.out.size)
        have x24 := HRF.out _ HB24.out
        have hS24 := HSF.out _ HB24.out
        have nw24 := news_below nw22 hb23 nl22
        have nl24 := Nat.lt_of_lt_of_le nl22 (hb23).size
        refine hK.out _ _ (by assumption) (fun hHeld => ?_)
        clear hK K
        try simp only [Act.put, List.setIfInBounds_toArray, List.set_cons_zero, List.set_cons_succ]
        refine wpAnyH_ready (rs := [14]) (by kernel_rfl) (by simp) (AllReadyH.cons rfl (fun K hK => ?_) AllReadyH.nil)
        refine step_append_to 38 rfl rfl (.tmp 29) (.tmp 37) 28 rfl wd.heap.size 36 i0 _ 12 128 Try.underlying28 hi hz0 hz1 hz2 rfl (by decide) _ (ys.length) (fl encL ys) (by simp [Act.eval]) ho23 ⟨wd.heap.size, 0, none⟩ 1 1 (encL x) (by simp [Act.eval]) rfl nw24 (encL_one x) (by unfold maxLen; omega) (by omega) HB24.out.size ?_
        intro v25 w25 ho25 hg25 _
        have HG25 := hid (HB24.out.grown hg25 HB24.out.size (fun r hr => (ho23.lt r hr).1))
        have x25 := HRF.out _ HG25.out
        have hS25 := HSF.out _ HG25.out
        have f25 := HFF.out _ HG25.out
        obtain ⟨a25, k25, rfl⟩ := owns_slice ho25
        have HO25 := hid ho25
        clear ho25 hg25
        refine hK.out _ _ (by assumption) (fun hHeld => ?_)
        clear hK K
        try simp only [Act.put, List.setIfInBounds_toArray, List.set_cons_zero, List.set_cons_succ]
        refine takeH 15 39 (.pointer (some ⟨q, 0, none⟩)) rfl rfl (by kernel_rfl) (by kernel_rfl) (by kernel_rfl) (fun _ _ _ h => h) (by rfl) ?_ (by assumption) ?_
        · intro w' hSw
          go_simp
        try simp only [Act.put, List.setIfInBounds_toArray, List.set_cons_zero, List.set_cons_succ]
        refine takeH 16 40 (.pointer (some ⟨q, 0, none⟩)) rfl rfl (by kernel_rfl) (by kernel_rfl) (by kernel_rfl) (fun _ _ _ h => h) (by rfl) ?_ (by assumption) ?_
        · intro w' hSw
          go_simp
        try simp only [Act.put, List.setIfInBounds_toArray, List.set_cons_zero, List.set_cons_succ]
        refine wpAnyH_ready (rs := [17]) (by kernel_rfl) (by simp) (nextH 17 rfl (by rfl) (fun K hK => ?_) AllReadyH.nil)
        go_simp
        refine hK.out _ _ (HSS.out _ _ hS25) (fun hHeld => ?_)
        clear hK K
        try simp only [Act.put, List.setIfInBounds_toArray, List.set_cons_zero, List.set_cons_succ]
        refine wpAnyH_done (by kernel_rfl) ?_ _
        go_wp2
        go_ret
        exact ⟨rfl, RTurns.put H.out HD.out HG25.out (l := ys ++ [x]) (by have := HO25.out; simpa [fl_append, fl_single] using this) (by simp) (by simp; omega)⟩
    · go_simp
      have HB26 := hid (below_then HB0.out (alloc_one wd (.cells #[.int .i64 x.r.from_, .int .i64 x.r.to_, .int .i64 x.r.kind, .int .i64 x.r.split, .int .i64 x.r.attempt, .int .i64 x.r.part, .int .i64 x.r.seq, .int .i64 x.r.next, .int .i64 x.r.epoch, .int .i64 x.r.reason, .slice x.so x.r.set.length x.sc, .slice x.po x.r.prs.length x.pc] 36)) HB0.out.size)
      have x26 := HRF.out _ HB26.out
      have hS26 := HSF.out _ HB26.out
      have nw27 := new_cells wd #[.int .i64 x.r.from_, .int .i64 x.r.to_, .int .i64 x.r.kind, .int .i64 x.r.split, .int .i64 x.r.attempt, .int .i64 x.r.part, .int .i64 x.r.seq, .int .i64 x.r.next, .int .i64 x.r.epoch, .int .i64 x.r.reason, .slice x.so x.r.set.length x.sc, .slice x.po x.r.prs.length x.pc] 36
      have nl27 : ({ block := wd.heap.size, off := 0 } : Addr).block < (wd.alloc (.cells #[.int .i64 x.r.from_, .int .i64 x.r.to_, .int .i64 x.r.kind, .int .i64 x.r.split, .int .i64 x.r.attempt, .int .i64 x.r.part, .int .i64 x.r.seq, .int .i64 x.r.next, .int .i64 x.r.epoch, .int .i64 x.r.reason, .slice x.so x.r.set.length x.sc, .slice x.po x.r.prs.length x.pc] 36)).heap.size := by simp
      refine hK.out _ _ (by assumption) (fun hHeld => ?_)
      clear hK K
      try simp only [Act.put, List.setIfInBounds_toArray, List.set_cons_zero, List.set_cons_succ]
      refine wpAnyH_ready (rs := [4]) (by kernel_rfl) (by simp) (nextH 4 rfl (by rfl) (fun K hK => ?_) AllReadyH.nil)
      go_simp
      refine hK.out _ _ (by assumption) (fun hHeld => ?_)
      clear hK K
      try simp only [Act.put, List.setIfInBounds_toArray, List.set_cons_zero, List.set_cons_succ]
      refine wpAnyH_ready (rs := [5]) (by kernel_rfl) (by simp) (AllReadyH.cons rfl (fun K hK => ?_) AllReadyH.nil)
      refine step_append_any_to 29 rfl rfl (.const (.slice none 0 0)) (.tmp 28) 28 rfl wd.heap.size 36 i0 _ 12 128 Try.underlying28 hi hz0 hz1 hz2 rfl (by decide) (.slice none 0 0) 0 [] (by simp [Act.eval]) (World.ownsRow_nil _ _ _ _) (some ⟨p, off, none⟩) (ys.length) cap (fl encL ys) (by simp [Act.eval]) (fl_length encL_len ys) hno (HNW.out _ HB26.out) (fl_one encL_one _) (by unfold maxLen; omega) (by omega) HB26.out.size ?_
      intro v28 w28 ho28 hg28
      simp only [Nat.zero_add, List.nil_append] at ho28
      have hb28 := below_none hg28
      obtain ⟨a28, k28, rfl⟩ := owns_slice ho28
      have HB29 := hid (below_then HB26.out hb28 HB26.out.size)
      have x29 := HRF.out _ HB29.out
      have hS29 := HSF.out _ HB29.out
      have nw29 := news_below nw27 hb28 nl27
      have nl29 := Nat.lt_of_lt_of_le nl27 (hb28).size
      refine hK.out _ _ (by assumption) (fun hHeld => ?_)
      clear hK K
      try simp only [Act.put, List.setIfInBounds_toArray, List.set_cons_zero, List.set_cons_succ]
      refine wpAnyH_ready (rs := [14]) (by kernel_rfl) (by simp) (AllReadyH.cons rfl (fun K hK => ?_) AllReadyH.nil)
      refine step_append_to 38 rfl rfl (.tmp 29) (.tmp 37) 28 rfl wd.heap.size 36 i0 _ 12 128 Try.underlying28 hi hz0 hz1 hz2 rfl (by decide) _ (ys.length) (fl encL ys) (by simp [Act.eval]) ho28 ⟨wd.heap.size, 0, none⟩ 1 1 (encL x) (by simp [Act.eval]) rfl nw29 (encL_one x) (by unfold maxLen; omega) (by omega) HB29.out.size ?_
      intro v30 w30 ho30 hg30 _
      have HG30 := hid (HB29.out.grown hg30 HB29.out.size (fun r hr => (ho28.lt r hr).1))
      have x30 := HRF.out _ HG30.out
      have hS30 := HSF.out _ HG30.out
      have f30 := HFF.out _ HG30.out
      obtain ⟨a30, k30, rfl⟩ := owns_slice ho30
      have HO30 := hid ho30
      clear ho30 hg30
      refine hK.out _ _ (by assumption) (fun hHeld => ?_)
      clear hK K
      try simp only [Act.put, List.setIfInBounds_toArray, List.set_cons_zero, List.set_cons_succ]
      refine takeH 15 39 (.pointer (some ⟨q, 0, none⟩)) rfl rfl (by kernel_rfl) (by kernel_rfl) (by kernel_rfl) (fun _ _ _ h => h) (by rfl) ?_ (by assumption) ?_
      · intro w' hSw
        go_simp
      try simp only [Act.put, List.setIfInBounds_toArray, List.set_cons_zero, List.set_cons_succ]
      refine takeH 16 40 (.pointer (some ⟨q, 0, none⟩)) rfl rfl (by kernel_rfl) (by kernel_rfl) (by kernel_rfl) (fun _ _ _ h => h) (by rfl) ?_ (by assumption) ?_
      · intro w' hSw
        go_simp
      try simp only [Act.put, List.setIfInBounds_toArray, List.set_cons_zero, List.set_cons_succ]
      refine wpAnyH_ready (rs := [17]) (by kernel_rfl) (by simp) (nextH 17 rfl (by rfl) (fun K hK => ?_) AllReadyH.nil)
      go_simp
      refine hK.out _ _ (HSS.out _ _ hS30) (fun hHeld => ?_)
      clear hK K
      try simp only [Act.put, List.setIfInBounds_toArray, List.set_cons_zero, List.set_cons_succ]
      refine wpAnyH_done (by kernel_rfl) ?_ _
      go_wp2
      go_ret
      exact ⟨rfl, RTurns.put H.out HD.out HG30.out (l := ys ++ [x]) (by have := HO30.out; simpa [fl_append, fl_single] using this) (by simp) (by simp; omega)⟩
set_option maxHeartbeats 4000000 in
theorem rdouble_any (B q : Nat) (i : Int) (u : Value) (ys : List LetX) (w : World) (h : Rf B q u ys w) :
    Calls Try.prog 15 #[.pointer (some ⟨q, 0, none⟩), .int .i64 i] w fun e w' => e = .returned (.bool (okD ys i)) ∧ RTurns B q u (dblN ys i) w w' := by
  have hfew := h.few
  obtain ⟨g, hg⟩ : ∃ g, placeN ys i = g := ⟨_, rfl⟩
  cases g
  · have hN := dblN_none hg
    rw [hN.1, hN.2]
    obtain ⟨ao, cap, rfl⟩ := h.slice
    have c0 := h.c0
    have H := hid h
    clear h hN
    rcases placeN_no hg with h0 | h0
    · have d0 : decide (i < 0) = true := by simpa using h0
      go_enter Try.func15, Try.ntmps15
      go_wp2
      go_ret
      exact ⟨rfl, RTurns.stay H.out (Below.refl _ _)⟩
    · have d0 : decide (i < 0) = false := by simp; omega
      have d1 : decide ((ys.length : Int) ≤ i) = true := by simpa using h0
      go_enter Try.func15, Try.ntmps15
      go_wp2
      go_ret
      exact ⟨rfl, RTurns.stay H.out (Below.refl _ _)⟩
  · obtain ⟨k, rfl, hk⟩ := placeN_yes hg
    by_cases hr : ys.length < 128
    · have hx : ys[k]? = some ys[k] := List.getElem?_eq_getElem hk
      have hN := dblN_yes hx hr
      rw [hN.1, hN.2]
      exact rdouble_yes B q k u ys _ w h hx hr
    · have hN := dblN_full (l := ys) (i := k) (by omega)
      rw [hN.1, hN.2]
      obtain ⟨ao, cap, rfl⟩ := h.slice
      have c0 := h.c0
      have H := hid h
      clear h hN
      have d0 : decide ((k : Int) < 0) = false := by simp
      have d1 : decide ((ys.length : Int) ≤ (k : Int)) = false := by simp; omega
      have d2 : decide ((128 : Int) ≤ (ys.length : Int)) = true := by simp; omega
      go_enter Try.func15, Try.ntmps15
      go_wp2
      go_ret
      exact ⟨rfl, RTurns.stay H.out (Below.refl _ _)⟩
end Go.Proofs.Ytocedfagfmkgdaa
