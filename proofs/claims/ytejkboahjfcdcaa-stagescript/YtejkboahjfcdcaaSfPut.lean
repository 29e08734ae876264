/- The document's own stage: Put. -/
import Derived.Test.YtejkboahjfcdcaaSfIs
import Derived.Test.YtejkboahjfcdcaaStStep
import Derived.Deep.Cut
import Derived.Test.YtejkboahjfcdcaaLis
namespace Go.Proofs.Ytejkboahjfcdcaa
open Go.RowKit
set_option linter.unusedVariables false

set_option maxHeartbeats 1000000 in
theorem rput_not (B q : Nat) (v : Value) (Y : List ((Int × Int) × Pay)) (k : Int × Int) (seq : Int) (a : Value) (w : World) (h : Sf B q v Y w) (ho : OkS (chS Y)) (ht : takesS (chS Y) k seq = false) :
    Calls Try.prog 13 #[.pointer (some ⟨q, 0, none⟩), .int .i64 k.1, .int .i64 k.2, .int .i64 seq, a] w fun e w' => e = .returned (.int .i64 ((getS (chS Y) k).length : Nat)) ∧ w = w' := by
  have H := hid h
  have HO := hid ho
  clear h
  cases hm : maySt k with
  | false =>
    have h0 : getS (chS Y) k = [] := (getS_nil_iff ho k).2 (fun r hr e => by
      have := ho.may r hr
      rw [e, hm] at this
      cases this)
    rw [h0]
    clear h0 ht HO ho
    have h5 : ¬ ((0 ≤ k.1 ∧ k.1 ≤ 5) ∧ 1 ≤ k.2 ∧ k.2 ≤ 3) := fun e => by rw [(maySt_iff k).2 e] at hm; cases hm
    have H5 := hid h5
    clear h5 hm
    by_cases h1 : k.1 < 0
    case pos =>
      go_enter Try.func13, Try.ntmps13
      go_wp2
      go_ret
      exact ⟨rfl, rfl⟩
    by_cases h2 : 5 < k.1
    case pos =>
      go_enter Try.func13, Try.ntmps13
      go_wp2
      go_ret
      exact ⟨rfl, rfl⟩
    by_cases h3 : k.2 < 1
    case pos =>
      go_enter Try.func13, Try.ntmps13
      go_wp2
      go_ret
      exact ⟨rfl, rfl⟩
    by_cases h4 : 3 < k.2
    case pos =>
      go_enter Try.func13, Try.ntmps13
      go_wp2
      go_ret
      exact ⟨rfl, rfl⟩
    have := H5.out
    omega
  | true =>
    obtain ⟨⟨m1, m2⟩, m3, m4⟩ := (maySt_iff k).1 hm
    have g1 : ¬ k.1 < 0 := by omega
    have g2 : ¬ 5 < k.1 := by omega
    have g3 : ¬ k.2 < 1 := by omega
    have g4 : ¬ 3 < k.2 := by omega
    have h5 : ¬ (seq = ((getS (chS Y) k).length : Int) ∧ seq < 40) := fun e => by rw [(takesS_iff _ _ _).2 ⟨hm, e⟩] at ht; cases ht
    obtain ⟨n, hn⟩ : ∃ n, (getS (chS Y) k).length = n := ⟨_, rfl⟩
    rw [hn] at h5 ⊢
    have HN := hid hn
    have H5 := hid h5
    clear ht hn h5 hm m1 m2 m3 m4
    by_cases h6 : seq = (n : Int)
    · have h7 : ¬ seq < 40 := fun e => H5.out ⟨h6, e⟩
      subst h6
      have hd : decide (((40 : Int) ≤ (n : Int))) = true := by simp; omega
      have hd2 : 40 ≤ n := by omega
      clear h7
      go_enter Try.func13, Try.ntmps13
      go_wp2_with fail
      refine (rnext_any B q v Y k w H.out HO.out).mono ?_
      rintro e w1 ⟨rfl, rfl⟩
      rw [HN.out]
      go_wp2
      go_ret
      exact ⟨rfl, rfl⟩
    · go_enter Try.func13, Try.ntmps13
      go_wp2_with fail
      refine (rnext_any B q v Y k w H.out HO.out).mono ?_
      rintro e w1 ⟨rfl, rfl⟩
      rw [HN.out]
      go_wp2
      go_ret
      exact ⟨rfl, rfl⟩
/-- A row with no chunks is laid behind all. -/
theorem Sf.laid {B q : Nat} {v v1 : Value} {Y : List ((Int × Int) × Pay)} {w w1 : World} {k : Int × Int} (h : Sf B q v Y w) (ho : OkS (chS Y)) (hk : getS (chS Y) k = [])
    (hr : w1.ownsRow B 61 3 v1 (Y.length + 1) (fl encW Y ++ [.int .i64 k.1, .int .i64 k.2, .slice none 0 0])) (hg : w.grownBy w1 v.ownBlock) (hat : v1.ownBlock = v.ownBlock ∨ v1.ownBlock = some w.heap.size) :
    Sf B q v1 (Y ++ [(k, Pay.none)]) (w1.setCell ⟨q, 0, none⟩ v1) ∧ Sav (InF q v Y) w (w1.setCell ⟨q, 0, none⟩ v1) ∧ NextF w q v Y v1 (Y ++ [(k, Pay.none)]) := by
  have hq1 : w1.heap[q]? = some (.cells #[v] 30 (0, 0)) := grown_at h.row hg h.obj (by decide)
  have hsv : Sav (fun g => v.ownBlock = some g) w w1 := Sav.grown hg (fun g hg => hg)
  have hvX : ∀ g, InX Y g → v.ownBlock ≠ some g := fun g hX e => by
    obtain ⟨cs, hc⟩ := owns_cells h.row e
    exact h.pays.off hc (fun cs t r e => by cases e; exact ⟨by decide, by decide⟩) hX
  have hqX : ¬ InX Y q := h.pays.off h.obj (fun cs t r e => by cases e; exact ⟨by decide, by decide⟩)
  have hp1 := h.pays.sav hsv hvX
  have hp2 : Pays B Y (w1.setCell ⟨q, 0, none⟩ v1) := hp1.sav (S := Just q) ((Sav.refl _ _).setCell (just q) 0 _) (fun g hg e => hqX (by rw [← show g = q from e]; exact hg))
  have hks : ∀ r ∈ Y, r.1 ≠ k := fun r hr => (getS_nil_iff ho k).1 hk (r.1, r.2.cs) (List.mem_map.2 ⟨r, hr, rfl⟩)
  have hin : ∀ g, InX (Y ++ [(k, Pay.none)]) g → InX Y g := by
    rintro g ⟨r, hr, hg⟩
    rcases List.mem_append.1 hr with hr | hr
    · exact ⟨r, hr, hg⟩
    · rw [List.mem_singleton.1 hr] at hg
      exact (Pay.none_in hg).elim
  have hl : Y.length ≤ 18 := by have := okS_few ho; rw [chS_len] at this; exact this
  refine ⟨⟨by have := set_same (j := 0) (v := v1) hq1; simpa using this, ?_, ⟨?_, fun r hr => ?_, ?_⟩, by rw [List.length_append, List.length_singleton]; omega, h.far, Nat.le_trans h.low (Nat.le_trans hg.size (by simp [World.setCell]))⟩, ?_, fun g hg => ?_⟩
  · have := owns_sav (S := Just q) hr ((Sav.refl _ w1).setCell (just q) 0 v1) (fun g hg e => owns_ne hr hq1 (by decide) (by rw [hg]; exact congrArg some e.symm))
    rw [List.length_append, fl_append]
    exact this
  · refine List.pairwise_append.2 ⟨h.pays.keys, List.pairwise_singleton _ _, fun a ha b hb e => ?_⟩
    rw [List.mem_singleton.1 hb] at e
    exact hks a ha e
  · rcases List.mem_append.1 hr with hr | hr
    · exact hp2.is r hr
    · rw [List.mem_singleton.1 hr]
      exact Pay.none_is _ _
  · intro r hr s hs hne g hg hg2
    rcases List.mem_append.1 hr with hr | hr
    · rcases List.mem_append.1 hs with hs | hs
      · exact hp2.apart r hr s hs hne g hg hg2
      · rw [List.mem_singleton.1 hs] at hg2
        exact (Pay.none_in hg2).elim
    · rw [List.mem_singleton.1 hr] at hg
      exact (Pay.none_in hg).elim
  · exact (hsv.mono (fun g _ e => .inr (.inl e))).setCell (.inl rfl) 0 _
  · rcases hg with e | e | e
    · exact .inl (.inl e)
    · rcases hat with h1 | h1
      · exact .inl (.inr (.inl (by rw [← h1]; exact e)))
      · rw [h1] at e
        cases e
        exact .inr (Nat.le_refl _)
    · exact .inl (.inr (.inr (hin g e)))
theorem setS_laid {β : Type} {l : List ((Int × Int) × β)} {k : Int × Int} (h : ∀ r ∈ l, r.1 ≠ k) (u v : β) : setS (l ++ [(k, u)]) k v = setS l k v := by
  induction l with
  | nil => simp [setS]
  | cons r l ih =>
    have h1 := h r List.mem_cons_self
    simp only [List.cons_append, setS, if_neg h1]
    rw [ih (fun q hq => h q (List.mem_cons_of_mem _ hq))]
theorem setS_at {β : Type} : ∀ {l : List ((Int × Int) × β)}, l.Pairwise (fun p q => p.1 ≠ q.1) → ∀ {j : Nat} (hj : j < l.length) (v : β), setS l l[j].1 v = l.set j (l[j].1, v)
  | [], _, j, hj, _ => absurd hj (by simp)
  | r :: l, hp, 0, hj, v => by simp [setS]
  | r :: l, hp, j + 1, hj, v => by
    have h1 := List.pairwise_cons.1 hp
    have h2 : r.1 ≠ (r :: l)[j + 1].1 := h1.1 _ (List.getElem_mem _)
    unfold setS
    rw [if_neg h2, List.set_cons_succ]
    exact congrArg (r :: ·) (setS_at h1.2 (by simpa using hj) v)
theorem fl_set3 : ∀ (Y : List ((Int × Int) × Pay)) {j : Nat} (hj : j < Y.length) (p : Pay), fl encW (Y.set j (Y[j].1, p)) = (fl encW Y).set (j * 3 + 2) p.u
  | [], j, hj, _ => absurd hj (by simp)
  | r :: Y, 0, hj, p => rfl
  | r :: Y, j + 1, hj, p => by
    have e : ∀ (r : (Int × Int) × Pay) l, fl encW (r :: l) = encW r ++ fl encW l := fun _ _ => rfl
    rw [List.set_cons_succ, e, e, List.set_append_right _ _ (by simp [encW]; omega), show (j + 1) * 3 + 2 - (encW r).length = j * 3 + 2 by simp [encW]; omega]
    exact congrArg (encW r ++ ·) (fl_set3 Y (by simpa using hj) p)
/-- A row of the attempt is there, and of the rest nothing is changed. -/
structure RowAt (B q : Nat) (v : Value) (Y : List ((Int × Int) × Pay)) (k : Int × Int) (w : World) (v1 : Value) (w1 : World) : Prop where
  ex : ∃ Y1, Sf B q v1 Y1 w1 ∧ (∃ r ∈ Y1, r.1 = k) ∧ getS (chS Y1) k = getS (chS Y) k ∧ (∀ c, setS (chS Y1) k c = setS (chS Y) k c) ∧ NextF w q v Y v1 Y1
  sav : Sav (InF q v Y) w w1
theorem getS_laid {α : Type} {R : RowsS α} {k : Int × Int} (h : ∀ r ∈ R, r.1 ≠ k) : getS (R ++ [(k, [])]) k = [] := by
  induction R with
  | nil => simp [getS]
  | cons r R ih =>
    simp only [List.cons_append, getS, if_neg (h r List.mem_cons_self)]
    exact ih (fun q hq => h q (List.mem_cons_of_mem _ hq))
theorem RowAt.new {B q : Nat} {v v1 : Value} {Y : List ((Int × Int) × Pay)} {w w1 : World} {k : Int × Int} (ho : OkS (chS Y)) (hk : getS (chS Y) k = []) (h : Sf B q v1 (Y ++ [(k, Pay.none)]) w1) (hs : Sav (InF q v Y) w w1) (hn : NextF w q v Y v1 (Y ++ [(k, Pay.none)])) : RowAt B q v Y k w v1 w1 := by
  have e : chS (Y ++ [(k, Pay.none)]) = chS Y ++ [(k, [])] := by simp [chS, Pay.none]
  have hks := (getS_nil_iff ho k).1 hk
  exact ⟨⟨_, h, ⟨_, List.mem_append_right _ (List.mem_singleton.2 rfl), rfl⟩, by rw [e, getS_laid hks, hk], fun c => by rw [e, setS_laid hks], hn⟩, hs⟩
theorem RowAt.old {B q : Nat} {v : Value} {Y : List ((Int × Int) × Pay)} {w : World} {k : Int × Int} (h : Sf B q v Y w) (hk : getS (chS Y) k ≠ []) : RowAt B q v Y k w v w := by
  obtain ⟨r, hr, e⟩ := List.mem_map.1 (getS_mem hk)
  exact ⟨⟨Y, h, ⟨r, hr, congrArg Prod.fst e⟩, rfl, fun c => rfl, NextF.refl _ _ _ _⟩, Sav.refl _ _⟩
theorem AtIs.mem {Y : List ((Int × Int) × Pay)} {k : Int × Int} {i : Int} (h : AtIs Y k i) (hm : ∃ r ∈ Y, r.1 = k) : ∃ j : Nat, i = j ∧ ∃ h : j < Y.length, Y[j].1 = k := by
  rcases h with ⟨_, h⟩ | h
  · obtain ⟨r, hr, e⟩ := hm
    exact absurd e (h r hr)
  · exact h
/-- A chunk has been put behind those of an attempt, in a slice of its own. -/
theorem Sf.put {B q p c : Nat} {Y : List ((Int × Int) × Pay)} {w w6 : World} {k : Int × Int} {ps : List KV} {x u' : Value} {j : Nat} (h : Sf B q (.slice (some ⟨p, 0, none⟩) Y.length c) Y w) (hb : Below w.heap.size w w6) (hj : j < Y.length) (hk : Y[j].1 = k)
    (hx : w6.ownsRow w.heap.size 53 2 x ps.length (fl encP ps)) (ho : w6.ownsRow w.heap.size 31 1 u' (Y[j].2.cs.length + 1) (Y[j].2.vs ++ [x])) :
    Sf B q (.slice (some ⟨p, 0, none⟩) Y.length c) (setS Y k ⟨u', Y[j].2.vs ++ [x], Y[j].2.cs ++ [ps]⟩) (w6.setCell ⟨p, j * 3 + 2, none⟩ u') ∧ Sav (InF q (.slice (some ⟨p, 0, none⟩) Y.length c) Y) w (w6.setCell ⟨p, j * 3 + 2, none⟩ u') ∧ NextF w q (.slice (some ⟨p, 0, none⟩) Y.length c) Y (.slice (some ⟨p, 0, none⟩) Y.length c) (setS Y k ⟨u', Y[j].2.vs ++ [x], Y[j].2.cs ++ [ps]⟩) := by
  have hlow := h.low
  have h6 := h.below hb
  have hpY : Y[j].2.Is B w6 := h6.pays.is _ (List.getElem_mem hj)
  have hnew : Pay.Is B ⟨u', Y[j].2.vs ++ [x], Y[j].2.cs ++ [ps]⟩ w6 := by
    refine ⟨by rw [List.length_append]; exact owns_mono ho hlow, fun i m hi => ?_⟩
    by_cases e : i < Y[j].2.cs.length
    · rw [List.getElem?_append_left e] at hi
      obtain ⟨y, hy, hoy⟩ := hpY.own i m hi
      exact ⟨y, by rw [List.getElem?_append_left (by rw [hpY.len]; exact e)]; exact hy, hoy⟩
    · rw [List.getElem?_append_right (by omega)] at hi
      obtain ⟨y, hy, hoy⟩ := own_one (B := B) (owns_mono hx hlow) _ m hi
      exact ⟨y, by rw [List.getElem?_append_right (by rw [hpY.len]; omega), hpY.len]; exact hy, hoy⟩
  have hs6 : Sav (Just p) w6 (w6.setCell ⟨p, j * 3 + 2, none⟩ u') := (Sav.refl _ _).setCell (just p) _ _
  obtain ⟨cs, hc⟩ := owns_cells h6.row (g := p) rfl
  have hpX : ¬ InX Y p := h6.pays.off hc (fun cs t r e => by cases e; exact ⟨by decide, by decide⟩)
  have hnp : ∀ g, Pay.In ⟨u', Y[j].2.vs ++ [x], Y[j].2.cs ++ [ps]⟩ g → ¬ Just p g := fun g hg e => by
    obtain ⟨cs2, t, hc2, ht⟩ := hnew.cells hg
    rw [show g = p from e, hc] at hc2
    simp only [Option.some.injEq, Obj.cells.injEq, and_true] at hc2
    rcases ht with ht | ht <;> rw [ht] at hc2 <;> exact absurd hc2.2 (by decide)
  have hqp : q ≠ p := tag_ne h6.obj hc (by decide)
  have hsv : Sav (Just p) w (w6.setCell ⟨p, j * 3 + 2, none⟩ u') := (Sav.of_below hb).trans hs6
  have hpays := h.pays.set (k := k) (hnew.sav hs6 hnp) hsv (fun g hg hS => absurd (by rw [← show g = p from hS]; exact hg) hpX) (fun g hg => by
    rcases hg with e | ⟨y, hy, e⟩
    · exact .inr (ho.lt g e).1
    · rcases List.mem_append.1 hy with hy | hy
      · left
        rw [(get_at h.pays hj hk).2]
        exact .inr ⟨y, hy, e⟩
      · rw [List.mem_singleton.1 hy] at e
        exact .inr (hx.lt g e).1)
  have hset : setS Y k ⟨u', Y[j].2.vs ++ [x], Y[j].2.cs ++ [ps]⟩ = Y.set j (Y[j].1, ⟨u', Y[j].2.vs ++ [x], Y[j].2.cs ++ [ps]⟩) := by
    rw [← hk]
    exact setS_at h.pays.keys hj _
  refine ⟨⟨hs6.at h6.obj hqp, ?_, hpays, by rw [hset, List.length_set]; exact h.few, h.far, Nat.le_trans hlow hsv.size⟩, hsv.mono (fun g _ e => .inr (.inl (by rw [show g = p from e]; rfl))), fun g hg => ?_⟩
  · rw [hset, List.length_set, fl_set3 Y hj]
    exact (h6.row.stored (j * 3 + 2) u').1
  · rcases hg with e | e | e
    · exact .inl (.inl e)
    · exact .inl (.inr (.inl e))
    · rcases inX_set h.pays.keys e with e | e
      · rcases e with e | ⟨y, hy, e⟩
        · exact .inr (ho.lt g e).1
        · rcases List.mem_append.1 hy with hy | hy
          · exact .inl (.inr (.inr ⟨_, List.getElem_mem hj, .inr ⟨y, hy, e⟩⟩))
          · rw [List.mem_singleton.1 hy] at e
            exact .inr (hx.lt g e).1
      · exact .inl (.inr (.inr e))
set_option maxHeartbeats 4000000 in
theorem rput_take (B q : Nat) (v : Value) (Y : List ((Int × Int) × Pay)) (k : Int × Int) (a : Value) (ps : List KV) (w : World) (h : Sf B q v Y w) (ho : OkS (chS Y)) (ha : ∀ w', Sav (InF q v Y) w w' → Prs w' a ps) (hps : ps.length ≤ 1000) (n : Nat) (hn : (getS (chS Y) k).length = n) (ht1 : maySt k = true) (ht2 : n < 40) :
    Calls Try.prog 13 #[.pointer (some ⟨q, 0, none⟩), .int .i64 k.1, .int .i64 k.2, .int .i64 n, a] w fun e w' => e = .returned (.int .i64 (n + 1 : Nat)) ∧ ∃ v' Y', Sf B q v' Y' w' ∧ chS Y' = setS (chS Y) k (getS (chS Y) k ++ [ps]) ∧ Sav (InF q v Y) w w' ∧ NextF w q v Y v' Y' := by
  have H := hid h
  have HO := hid ho
  have HN := hid hn
  have HA := hid ha
  obtain ⟨⟨m1, m2⟩, m3, m4⟩ := (maySt_iff k).1 ht1
  have g1 : ¬ k.1 < 0 := by omega
  have g2 : ¬ 5 < k.1 := by omega
  have g3 : ¬ k.2 < 1 := by omega
  have g4 : ¬ 3 < k.2 := by omega
  obtain ⟨ao, cap, rfl, p1, p2, p3, -⟩ := ha w (Sav.refl _ _)
  have hnone : ao = none → ps.length = 0 ∧ cap = 0 := fun e => ⟨by rw [(p3 e).1]; rfl, (p3 e).2⟩
  unfold maxLen at p2
  have hd : decide ((40 : Int) ≤ (n : Int)) = false := by simp; omega
  clear h ho hn ht1 p3 m1 m2 m3 m4
  obtain ⟨i0, hi, hz0, hz1, hz2⟩ := info_parts Try.infoP
  obtain ⟨j0, hj1, hy0, hy1, hy2⟩ := info_parts Try.infoS
  go_enter Try.func13, Try.ntmps13
  go_wp2_with fail
  refine (rnext_any B q v Y k w H.out HO.out).mono ?_
  rintro e w1 ⟨rfl, rfl⟩
  rw [HN.out]
  have hbA := alloc_one w (.cells #[.int .i64 k.1, .int .i64 k.2, .slice none 0 0] 61)
  have HF := hid (H.out.below hbA)
  obtain ⟨r0, hri, hr0, hr1, hr2⟩ := info_parts Try.infoR
  by_cases h0 : n = 0
  · have HK := hid (show getS (chS Y) k = [] from List.eq_nil_of_length_eq_zero (by rw [HN.out]; exact h0))
    have c0 := H.out.c0
    have hne : w.heap.size ≠ q := by have := lt_of_block H.out.obj; omega
    obtain ⟨vo, vc, hv⟩ := H.out.slice
    have HV := hid hv
    have hd0 : ((n : Int) == 0) = true := by simpa using h0
    rw [hv] at c0
    clear hv h0
    go_wp2_with (at_builtin; refine wpList_append_at_any _ rfl _ _ 28 rfl B 61 r0 (.agg #[.int .i64 0, .int .i64 0, .slice none 0 0]) 3 40 Try.underlying28 hri hr0 hr1 hr2 rfl (by decide) _ Y.length (fl encW Y) rfl (by rw [← HV.out]; exact HF.out.row) (some ⟨w.heap.size, 0, none⟩) 1 1 [.int .i64 k.1, .int .i64 k.2, .slice none 0 0] rfl rfl (fun e => by cases e) (fun ad had => by cases had; exact new_cells w #[.int .i64 k.1, .int .i64 k.2, .slice none 0 0] 61) (by simp [Value.oneCell']) (by have := H.out.few; unfold maxLen; omega) (by have := H.out.few; omega) HF.out.low ?_; intro v1 w1 ho1 hg1 hat1; obtain ⟨a1, k1, rfl⟩ := owns_slice ho1; have hq1 := grown_at HF.out.row (by rw [HV.out]; exact hg1) HF.out.obj (by decide); have c1 : w1.cell? ⟨q, 0, none⟩ = some v := cell_of_cells hq1; have f1 : w1.frozen? ⟨q, 0, none⟩ = false := free_of_cells hq1)
    have HY := hid (show RowAt B q v Y k w (.slice a1 (Y.length + 1) k1) (w1.setCell ⟨q, 0, none⟩ (.slice a1 (Y.length + 1) k1)) from by
      obtain ⟨y1, y2, y3⟩ := Sf.laid HF.out HO.out HK.out ho1 (by rw [HV.out]; exact hg1) (by rw [HV.out]; exact hat1.imp id (fun e => e))
      exact RowAt.new HO.out HK.out y1 ((Sav.of_below hbA).trans y2) (fun g hg => (y3 g hg).imp id (Nat.le_trans hbA.size)))
    clear ho1 hg1 hat1 hq1 c1 f1 c0 HF hbA HV
    generalize w1.setCell ⟨q, 0, none⟩ (.slice a1 (Y.length + 1) k1) = wx at *
    generalize (Value.slice a1 (Y.length + 1) k1) = v1 at *
    obtain ⟨Y1, hf1, hm1, hg1, hs1, hn1⟩ := HY.out.ex
    have HSF1 := hid hf1
    have HG1 := hid hg1
    have HS1 := hid hs1
    have HN1 := hid hn1
    have HSV := hid HY.out.sav
    have HMM := hid hm1
    clear hf1 hg1 hs1 hn1 hm1 HY
    refine (at_any B q _ Y1 k _ HSF1.out).mono ?_
    rintro e w2 ⟨⟨i, rfl, hi⟩, rfl⟩
    obtain ⟨j, rfl, hj, hjk⟩ := hi.mem HMM.out
    clear hi
    have HJK := hid hjk
    clear hjk
    go_upto_region 9 with fail
    have HA1 := hid (HA.out _ HSV.out)
    generalize wx = wa at *
    replace HSF1 := hid (show Sf B q v1 Y1 wa.drew from HSF1.out.below (below_drew1 wa))
    replace HA1 := hid (show Prs wa.drew (.slice ao ps.length cap) ps from HA1.out.below (below_drew1 wa))
    replace HSV := hid HSV.out.drew
    obtain ⟨p, c, uo, un, hv1, h1, h2, hu, q0, q1, q2⟩ := HSF1.out.cell hj
    obtain ⟨hgc, hpay⟩ := get_at HSF1.out.pays hj HJK.out
    have HP := hid (show payS Y1 k = Y1[j].2 from hpay)
    have hlen : Y1[j].2.cs.length = n := by rw [← hgc, HG1.out, HN.out]
    rw [hlen] at q2 hu
    unfold maxLen at h2
    have HU := hid hu
    have HLEN := hid hlen
    have HGC := hid hgc
    subst hv1
    clear q0 q1 hu hlen hpay hgc
    have hfew1 := HSF1.out.few
    have HCQ := hid (fun V (hb : Below wa.drew.heap.size wa.drew V) => show V.cell? ⟨q, 0, none⟩ = some (.slice (some ⟨p, 0, none⟩) Y1.length c) from (HSF1.out.below hb).c0)
    refine wp_region_held_drew (S := fun w' => w'.cell? ⟨q, 0, none⟩ = some (.slice (some ⟨p, 0, none⟩) Y1.length c)) (by kernel_rfl) HSF1.out.c0 (fun hHeld => ?_)
    generalize wa.drew = wd at *
    have HPI := hid (show Pay.Is B Y1[j].2 wd from HSF1.out.pays.is _ (List.getElem_mem hj))
    have HRD := hid (show Reads 1 encL wd (.slice uo n un) Y1[j].2.vs from by
      have h := HPI.out.row
      rw [HU.out, HLEN.out] at h
      exact Reads.own encL_len (by decide) (by rw [fl_encL]; exact h))
    have hvs : Y1[j].2.vs.length = n := by rw [HPI.out.len, HLEN.out]
    have hone : ∀ y ∈ Y1[j].2.vs, y.oneCell' = true := fun y hy => by
      obtain ⟨l, ho⟩ := HPI.out.mem hy
      obtain ⟨a, c, rfl⟩ := owns_slice ho
      rfl
    have hunone : uo = none → n = 0 ∧ un = 0 := HRD.out.noneOf
    have HR := hid (Below.refl wd.heap.size wd)
    refine takeH 0 57 (.pointer (some ⟨q, 0, none⟩)) rfl rfl (by kernel_rfl) (by kernel_rfl) (by kernel_rfl) (fun _ _ _ h => h) (by rfl) ?_ (by assumption) ?_
    · intro w' hSw
      go_simp
    try simp only [Act.put, List.setIfInBounds_toArray, List.set_cons_zero, List.set_cons_succ]
    refine takeH 1 58 (.pointer (some ⟨q, 0, none⟩)) rfl rfl (by kernel_rfl) (by kernel_rfl) (by kernel_rfl) (fun _ _ _ h => h) (by rfl) ?_ (by assumption) ?_
    · intro w' hSw
      go_simp
    try simp only [Act.put, List.setIfInBounds_toArray, List.set_cons_zero, List.set_cons_succ]
    refine takeH 2 59 (.pointer (some ⟨q, 0, none⟩)) rfl rfl (by kernel_rfl) (by kernel_rfl) (by kernel_rfl) (fun _ _ _ h => h) (by rfl) ?_ (by assumption) ?_
    · intro w' hSw
      go_simp
    try simp only [Act.put, List.setIfInBounds_toArray, List.set_cons_zero, List.set_cons_succ]
    refine takeH 3 60 (.slice (some ⟨p, 0, none⟩) Y1.length c) rfl rfl (by kernel_rfl) (by kernel_rfl) (by kernel_rfl) (fun _ _ _ h => h) (by rfl) ?_ (by assumption) ?_
    · intro w' hSw
      go_simp
    try simp only [Act.put, List.setIfInBounds_toArray, List.set_cons_zero, List.set_cons_succ]
    refine takeH 4 61 (.int .i64 j) rfl rfl (by kernel_rfl) (by kernel_rfl) (by kernel_rfl) (fun _ _ _ h => h) (by rfl) ?_ (by assumption) ?_
    · intro w' hSw
      go_simp
    try simp only [Act.put, List.setIfInBounds_toArray, List.set_cons_zero, List.set_cons_succ]
    refine takeH 5 62 (.pointer (some ⟨q, 0, none⟩)) rfl rfl (by kernel_rfl) (by kernel_rfl) (by kernel_rfl) (fun _ _ _ h => h) (by rfl) ?_ (by assumption) ?_
    · intro w' hSw
      go_simp
    try simp only [Act.put, List.setIfInBounds_toArray, List.set_cons_zero, List.set_cons_succ]
    refine takeH 6 63 (.pointer (some ⟨q, 0, none⟩)) rfl rfl (by kernel_rfl) (by kernel_rfl) (by kernel_rfl) (fun _ _ _ h => h) (by rfl) ?_ (by assumption) ?_
    · intro w' hSw
      go_simp
    try simp only [Act.put, List.setIfInBounds_toArray, List.set_cons_zero, List.set_cons_succ]
    refine takeH 7 64 (.pointer (some ⟨q, 0, none⟩)) rfl rfl (by kernel_rfl) (by kernel_rfl) (by kernel_rfl) (fun _ _ _ h => h) (by rfl) ?_ (by assumption) ?_
    · intro w' hSw
      go_simp
    try simp only [Act.put, List.setIfInBounds_toArray, List.set_cons_zero, List.set_cons_succ]
    refine takeH 8 65 (.slice (some ⟨p, 0, none⟩) Y1.length c) rfl rfl (by kernel_rfl) (by kernel_rfl) (by kernel_rfl) (fun _ _ _ h => h) (by rfl) ?_ (by assumption) ?_
    · intro w' hSw
      go_simp
    try simp only [Act.put, List.setIfInBounds_toArray, List.set_cons_zero, List.set_cons_succ]
    refine takeH 9 66 (.int .i64 j) rfl rfl (by kernel_rfl) (by kernel_rfl) (by kernel_rfl) (fun _ _ _ h => h) (by rfl) ?_ (by assumption) ?_
    · intro w' hSw
      go_simp
    try simp only [Act.put, List.setIfInBounds_toArray, List.set_cons_zero, List.set_cons_succ]
    refine takeH 10 67 (.pointer (some ⟨p, j * 3, none⟩)) rfl rfl (by kernel_rfl) (by kernel_rfl) (by kernel_rfl) (fun _ _ _ h => h) (by rfl) ?_ (by assumption) ?_
    · intro w' hSw
      go_simp
    try simp only [Act.put, List.setIfInBounds_toArray, List.set_cons_zero, List.set_cons_succ]
    refine takeH 11 68 (.pointer (some ⟨p, j * 3 + 2, none⟩)) rfl rfl (by kernel_rfl) (by kernel_rfl) (by kernel_rfl) (fun _ _ _ h => h) (by rfl) ?_ (by assumption) ?_
    · intro w' hSw
      go_simp
    try simp only [Act.put, List.setIfInBounds_toArray, List.set_cons_zero, List.set_cons_succ]
    refine takeH 14 71 (.slice ao ps.length cap) rfl rfl (by kernel_rfl) (by kernel_rfl) (by kernel_rfl) (fun _ _ _ h => h) (by rfl) ?_ (by assumption) ?_
    · intro w' hSw
      go_simp
    try simp only [Act.put, List.setIfInBounds_toArray, List.set_cons_zero, List.set_cons_succ]
    refine wpAnyH_ready (rs := [12]) (by kernel_rfl) (by simp) (nextH 12 rfl (by rfl) (fun K hK => ?_) AllReadyH.nil)
    go_simp
    refine hK.out _ _ (by assumption) (fun hHeld => ?_)
    clear hK K
    try simp only [Act.put, List.setIfInBounds_toArray, List.set_cons_zero, List.set_cons_succ]
    refine wpAnyH_ready (rs := [13]) (by kernel_rfl) (by simp) (AllReadyH.cons rfl (fun K hK => ?_) AllReadyH.nil)
    refine step_append_any_to 70 rfl rfl (.const (.slice none 0 0)) (.tmp 69) 49 rfl wd.heap.size 31 j0 (.slice none 0 0) 1 24 Try.underlying49 hj1 hy0 hy1 hy2 rfl (by decide) (.slice none 0 0) 0 [] (by simp [Act.eval]) (World.ownsRow_nil _ _ _ _) uo n un Y1[j].2.vs (by simp [Act.eval]) (by rw [hvs, Nat.mul_one]) hunone (by have h := Reads.news encL_len (by decide) HRD.out HR.out; rw [fl_encL] at h; exact h) hone (by unfold maxLen; omega) (by omega) (Nat.le_refl _) ?_
    intro v3 w3 ho3 hg3
    simp only [Nat.zero_add, List.nil_append] at ho3
    have hb3 := below_none hg3
    obtain ⟨a3, k3, rfl⟩ := owns_slice ho3
    have HO3 := hid ho3
    have HB3 := hid hb3
    clear ho3 hg3 hb3
    have hS3 := HCQ.out _ HB3.out
    refine hK.out _ _ (by assumption) (fun hHeld => ?_)
    clear hK K
    try simp only [Act.put, List.setIfInBounds_toArray, List.set_cons_zero, List.set_cons_succ]
    refine wpAnyH_ready (rs := [15]) (by kernel_rfl) (by simp) (AllReadyH.cons rfl (fun K hK => ?_) AllReadyH.nil)
    refine step_append_any_to 72 rfl rfl (.const (.slice none 0 0)) (.tmp 71) 31 rfl wd.heap.size 53 i0 (.agg #[.string ⟨#[]⟩, .string ⟨#[]⟩]) 2 32 Try.underlying31 hi hz0 hz1 hz2 rfl (by decide) (.slice none 0 0) 0 [] (by simp [Act.eval]) (World.ownsRow_nil _ _ _ _) ao ps.length cap (fl encP ps) (by simp [Act.eval]) (fl_length encP_len ps) hnone (Reads.news encP_len (by decide) HA1.out HB3.out) (fl_one encP_one ps) (by unfold maxLen; omega) (by omega) HB3.out.size ?_
    intro v4 w4 ho4 hg4
    simp only [Nat.zero_add, List.nil_append] at ho4
    have hb4 := below_none hg4
    obtain ⟨a4, k4, rfl⟩ := owns_slice ho4
    have HO4 := hid ho4
    have HO34 := hid (owns_below HO3.out hb4)
    have HB4 := hid (below_then HB3.out hb4 HB3.out.size)
    clear ho4 hg4 hb4 HB3 HO3 hS3
    have hS4 := HCQ.out _ HB4.out
    refine hK.out _ _ (by assumption) (fun hHeld => ?_)
    clear hK K
    try simp only [Act.put, List.setIfInBounds_toArray, List.set_cons_zero, List.set_cons_succ]
    refine wpAnyH_ready (rs := [16]) (by kernel_rfl) (by simp) (nextH 16 rfl (by rfl) (fun K hK => ?_) AllReadyH.nil)
    go_simp
    have hb5 := alloc_one w4 (.cells #[.slice a4 ps.length k4] 31)
    have HO5 := hid (owns_below HO4.out hb5)
    have HO35 := hid (owns_below HO34.out hb5)
    have HB5 := hid (below_then HB4.out hb5 HB4.out.size)
    have hS5 := HCQ.out _ HB5.out
    have NW := hid (new_cells w4 #[.slice a4 ps.length k4] 31)
    refine hK.out _ _ (by assumption) (fun hHeld => ?_)
    clear hK K
    try simp only [Act.put, List.setIfInBounds_toArray, List.set_cons_zero, List.set_cons_succ]
    refine wpAnyH_ready (rs := [17]) (by kernel_rfl) (by simp) (AllReadyH.cons rfl (fun K hK => ?_) AllReadyH.nil)
    refine step_append_to 74 rfl rfl (.tmp 70) (.tmp 73) 49 rfl wd.heap.size 31 j0 (.slice none 0 0) 1 24 Try.underlying49 hj1 hy0 hy1 hy2 rfl (by decide) _ n _ (by simp [Act.eval]) HO35.out ⟨w4.heap.size, 0, none⟩ 1 1 [.slice a4 ps.length k4] (by simp [Act.eval]) rfl NW.out (by simp [Value.oneCell']) (by unfold maxLen; omega) (by omega) HB5.out.size ?_
    intro v6 w6 ho6 hg6 hat6
    obtain ⟨a6, k6, rfl⟩ := owns_slice ho6
    have HO6 := hid ho6
    have HO46 := hid (owns_grown HO5.out HO35.out (by decide) hg6)
    have HB6 := hid (HB5.out.grown hg6 HB5.out.size (fun r hr => (HO35.out.lt r hr).1))
    clear ho6 hg6 hat6
    have hS6 := HCQ.out _ HB6.out
    refine hK.out _ _ (by assumption) (fun hHeld => ?_)
    clear hK K
    try simp only [Act.put, List.setIfInBounds_toArray, List.set_cons_zero, List.set_cons_succ]
    refine takeH 18 75 (.pointer (some ⟨p, j * 3, none⟩)) rfl rfl (by kernel_rfl) (by kernel_rfl) (by kernel_rfl) (fun _ _ _ h => h) (by rfl) ?_ (by assumption) ?_
    · intro w' hSw
      go_simp
    try simp only [Act.put, List.setIfInBounds_toArray, List.set_cons_zero, List.set_cons_succ]
    refine takeH 19 76 (.pointer (some ⟨p, j * 3 + 2, none⟩)) rfl rfl (by kernel_rfl) (by kernel_rfl) (by kernel_rfl) (fun _ _ _ h => h) (by rfl) ?_ (by assumption) ?_
    · intro w' hSw
      go_simp
    try simp only [Act.put, List.setIfInBounds_toArray, List.set_cons_zero, List.set_cons_succ]
    refine wpAnyH_ready (rs := [20]) (by kernel_rfl) (by simp) (nextH 20 rfl (by rfl) (fun K hK => ?_) AllReadyH.nil)
    have HS6 := hid (HSF1.out.below HB6.out)
    obtain ⟨p', c', uo', un', e', -, -, -, -, -, d2⟩ := HS6.out.cell hj
    cases e'
    have df : w6.frozen? ⟨p, j * 3 + 2, none⟩ = false := HS6.out.row.frozenAt _
    go_simp
    have hS7 : (w6.setCell ⟨p, j * 3 + 2, none⟩ (.slice a6 (n + 1) k6)).cell? ⟨q, 0, none⟩ = some (.slice (some ⟨p, 0, none⟩) Y1.length c) := (World.cell?_setCell_far _ _ _ _ (fun e => owns_ne HS6.out.row HS6.out.obj (by decide) (congrArg some (show q = p from e.symm)))).trans hS6
    refine hK.out _ _ (by assumption) (fun hHeld => ?_)
    clear hK K
    try simp only [Act.put, List.setIfInBounds_toArray, List.set_cons_zero, List.set_cons_succ]
    refine wpAnyH_done (by kernel_rfl) ?_ _
    have HF := hid (Sf.put HSF1.out HB6.out hj HJK.out HO46.out (by rw [HLEN.out]; exact HO6.out))
    clear d2 df hS7
    go_wp2
    go_ret
    obtain ⟨f1, f2, f3⟩ := HF.out
    refine ⟨rfl, _, _, f1, by rw [chS_set, HS1.out, ← HGC.out, HG1.out], HSV.out.then f2 (fun i hi h => (HN1.out i h).resolve_right (by omega)), fun g hg => ?_⟩
    rcases f3 g hg with e | e
    · exact HN1.out g e
    · exact .inr (Nat.le_trans HSV.out.size e)
  · have HY := hid (show RowAt B q v Y k w v w from RowAt.old H.out (fun e => h0 (by rw [← HN.out, e]; rfl)))
    have hd0 : ((n : Int) == 0) = false := by simpa using h0
    go_wp2_with fail
    obtain ⟨wx, hwx⟩ : ∃ wx, w = wx := ⟨_, rfl⟩
    rw [hwx]
    replace HY := hid (show RowAt B q v Y k w v wx from by rw [← hwx]; exact HY.out)
    clear hwx HF hbA
    obtain ⟨Y1, hf1, hm1, hg1, hs1, hn1⟩ := HY.out.ex
    have HSF1 := hid hf1
    have HG1 := hid hg1
    have HS1 := hid hs1
    have HN1 := hid hn1
    have HSV := hid HY.out.sav
    have HMM := hid hm1
    clear hf1 hg1 hs1 hn1 hm1 HY
    refine (at_any B q _ Y1 k _ HSF1.out).mono ?_
    rintro e w2 ⟨⟨i, rfl, hi⟩, rfl⟩
    obtain ⟨j, rfl, hj, hjk⟩ := hi.mem HMM.out
    clear hi
    have HJK := hid hjk
    clear hjk
    go_upto_region 9 with fail
    have HA1 := hid (HA.out _ HSV.out)
    generalize wx = wa at *
    replace HSF1 := hid (show Sf B q v Y1 wa.drew from HSF1.out.below (below_drew1 wa))
    replace HA1 := hid (show Prs wa.drew (.slice ao ps.length cap) ps from HA1.out.below (below_drew1 wa))
    replace HSV := hid HSV.out.drew
    obtain ⟨p, c, uo, un, hv1, h1, h2, hu, q0, q1, q2⟩ := HSF1.out.cell hj
    obtain ⟨hgc, hpay⟩ := get_at HSF1.out.pays hj HJK.out
    have HP := hid (show payS Y1 k = Y1[j].2 from hpay)
    have hlen : Y1[j].2.cs.length = n := by rw [← hgc, HG1.out, HN.out]
    rw [hlen] at q2 hu
    unfold maxLen at h2
    have HU := hid hu
    have HLEN := hid hlen
    have HGC := hid hgc
    subst hv1
    clear q0 q1 hu hlen hpay hgc
    have hfew1 := HSF1.out.few
    have HCQ := hid (fun V (hb : Below wa.drew.heap.size wa.drew V) => show V.cell? ⟨q, 0, none⟩ = some (.slice (some ⟨p, 0, none⟩) Y1.length c) from (HSF1.out.below hb).c0)
    refine wp_region_held_drew (S := fun w' => w'.cell? ⟨q, 0, none⟩ = some (.slice (some ⟨p, 0, none⟩) Y1.length c)) (by kernel_rfl) HSF1.out.c0 (fun hHeld => ?_)
    generalize wa.drew = wd at *
    have HPI := hid (show Pay.Is B Y1[j].2 wd from HSF1.out.pays.is _ (List.getElem_mem hj))
    have HRD := hid (show Reads 1 encL wd (.slice uo n un) Y1[j].2.vs from by
      have h := HPI.out.row
      rw [HU.out, HLEN.out] at h
      exact Reads.own encL_len (by decide) (by rw [fl_encL]; exact h))
    have hvs : Y1[j].2.vs.length = n := by rw [HPI.out.len, HLEN.out]
    have hone : ∀ y ∈ Y1[j].2.vs, y.oneCell' = true := fun y hy => by
      obtain ⟨l, ho⟩ := HPI.out.mem hy
      obtain ⟨a, c, rfl⟩ := owns_slice ho
      rfl
    have hunone : uo = none → n = 0 ∧ un = 0 := HRD.out.noneOf
    have HR := hid (Below.refl wd.heap.size wd)
    refine takeH 0 57 (.pointer (some ⟨q, 0, none⟩)) rfl rfl (by kernel_rfl) (by kernel_rfl) (by kernel_rfl) (fun _ _ _ h => h) (by rfl) ?_ (by assumption) ?_
    · intro w' hSw
      go_simp
    try simp only [Act.put, List.setIfInBounds_toArray, List.set_cons_zero, List.set_cons_succ]
    refine takeH 1 58 (.pointer (some ⟨q, 0, none⟩)) rfl rfl (by kernel_rfl) (by kernel_rfl) (by kernel_rfl) (fun _ _ _ h => h) (by rfl) ?_ (by assumption) ?_
    · intro w' hSw
      go_simp
    try simp only [Act.put, List.setIfInBounds_toArray, List.set_cons_zero, List.set_cons_succ]
    refine takeH 2 59 (.pointer (some ⟨q, 0, none⟩)) rfl rfl (by kernel_rfl) (by kernel_rfl) (by kernel_rfl) (fun _ _ _ h => h) (by rfl) ?_ (by assumption) ?_
    · intro w' hSw
      go_simp
    try simp only [Act.put, List.setIfInBounds_toArray, List.set_cons_zero, List.set_cons_succ]
    refine takeH 3 60 (.slice (some ⟨p, 0, none⟩) Y1.length c) rfl rfl (by kernel_rfl) (by kernel_rfl) (by kernel_rfl) (fun _ _ _ h => h) (by rfl) ?_ (by assumption) ?_
    · intro w' hSw
      go_simp
    try simp only [Act.put, List.setIfInBounds_toArray, List.set_cons_zero, List.set_cons_succ]
    refine takeH 4 61 (.int .i64 j) rfl rfl (by kernel_rfl) (by kernel_rfl) (by kernel_rfl) (fun _ _ _ h => h) (by rfl) ?_ (by assumption) ?_
    · intro w' hSw
      go_simp
    try simp only [Act.put, List.setIfInBounds_toArray, List.set_cons_zero, List.set_cons_succ]
    refine takeH 5 62 (.pointer (some ⟨q, 0, none⟩)) rfl rfl (by kernel_rfl) (by kernel_rfl) (by kernel_rfl) (fun _ _ _ h => h) (by rfl) ?_ (by assumption) ?_
    · intro w' hSw
      go_simp
    try simp only [Act.put, List.setIfInBounds_toArray, List.set_cons_zero, List.set_cons_succ]
    refine takeH 6 63 (.pointer (some ⟨q, 0, none⟩)) rfl rfl (by kernel_rfl) (by kernel_rfl) (by kernel_rfl) (fun _ _ _ h => h) (by rfl) ?_ (by assumption) ?_
    · intro w' hSw
      go_simp
    try simp only [Act.put, List.setIfInBounds_toArray, List.set_cons_zero, List.set_cons_succ]
    refine takeH 7 64 (.pointer (some ⟨q, 0, none⟩)) rfl rfl (by kernel_rfl) (by kernel_rfl) (by kernel_rfl) (fun _ _ _ h => h) (by rfl) ?_ (by assumption) ?_
    · intro w' hSw
      go_simp
    try simp only [Act.put, List.setIfInBounds_toArray, List.set_cons_zero, List.set_cons_succ]
    refine takeH 8 65 (.slice (some ⟨p, 0, none⟩) Y1.length c) rfl rfl (by kernel_rfl) (by kernel_rfl) (by kernel_rfl) (fun _ _ _ h => h) (by rfl) ?_ (by assumption) ?_
    · intro w' hSw
      go_simp
    try simp only [Act.put, List.setIfInBounds_toArray, List.set_cons_zero, List.set_cons_succ]
    refine takeH 9 66 (.int .i64 j) rfl rfl (by kernel_rfl) (by kernel_rfl) (by kernel_rfl) (fun _ _ _ h => h) (by rfl) ?_ (by assumption) ?_
    · intro w' hSw
      go_simp
    try simp only [Act.put, List.setIfInBounds_toArray, List.set_cons_zero, List.set_cons_succ]
    refine takeH 10 67 (.pointer (some ⟨p, j * 3, none⟩)) rfl rfl (by kernel_rfl) (by kernel_rfl) (by kernel_rfl) (fun _ _ _ h => h) (by rfl) ?_ (by assumption) ?_
    · intro w' hSw
      go_simp
    try simp only [Act.put, List.setIfInBounds_toArray, List.set_cons_zero, List.set_cons_succ]
    refine takeH 11 68 (.pointer (some ⟨p, j * 3 + 2, none⟩)) rfl rfl (by kernel_rfl) (by kernel_rfl) (by kernel_rfl) (fun _ _ _ h => h) (by rfl) ?_ (by assumption) ?_
    · intro w' hSw
      go_simp
    try simp only [Act.put, List.setIfInBounds_toArray, List.set_cons_zero, List.set_cons_succ]
    refine takeH 14 71 (.slice ao ps.length cap) rfl rfl (by kernel_rfl) (by kernel_rfl) (by kernel_rfl) (fun _ _ _ h => h) (by rfl) ?_ (by assumption) ?_
    · intro w' hSw
      go_simp
    try simp only [Act.put, List.setIfInBounds_toArray, List.set_cons_zero, List.set_cons_succ]
    refine wpAnyH_ready (rs := [12]) (by kernel_rfl) (by simp) (nextH 12 rfl (by rfl) (fun K hK => ?_) AllReadyH.nil)
    go_simp
    refine hK.out _ _ (by assumption) (fun hHeld => ?_)
    clear hK K
    try simp only [Act.put, List.setIfInBounds_toArray, List.set_cons_zero, List.set_cons_succ]
    refine wpAnyH_ready (rs := [13]) (by kernel_rfl) (by simp) (AllReadyH.cons rfl (fun K hK => ?_) AllReadyH.nil)
    refine step_append_any_to 70 rfl rfl (.const (.slice none 0 0)) (.tmp 69) 49 rfl wd.heap.size 31 j0 (.slice none 0 0) 1 24 Try.underlying49 hj1 hy0 hy1 hy2 rfl (by decide) (.slice none 0 0) 0 [] (by simp [Act.eval]) (World.ownsRow_nil _ _ _ _) uo n un Y1[j].2.vs (by simp [Act.eval]) (by rw [hvs, Nat.mul_one]) hunone (by have h := Reads.news encL_len (by decide) HRD.out HR.out; rw [fl_encL] at h; exact h) hone (by unfold maxLen; omega) (by omega) (Nat.le_refl _) ?_
    intro v3 w3 ho3 hg3
    simp only [Nat.zero_add, List.nil_append] at ho3
    have hb3 := below_none hg3
    obtain ⟨a3, k3, rfl⟩ := owns_slice ho3
    have HO3 := hid ho3
    have HB3 := hid hb3
    clear ho3 hg3 hb3
    have hS3 := HCQ.out _ HB3.out
    refine hK.out _ _ (by assumption) (fun hHeld => ?_)
    clear hK K
    try simp only [Act.put, List.setIfInBounds_toArray, List.set_cons_zero, List.set_cons_succ]
    refine wpAnyH_ready (rs := [15]) (by kernel_rfl) (by simp) (AllReadyH.cons rfl (fun K hK => ?_) AllReadyH.nil)
    refine step_append_any_to 72 rfl rfl (.const (.slice none 0 0)) (.tmp 71) 31 rfl wd.heap.size 53 i0 (.agg #[.string ⟨#[]⟩, .string ⟨#[]⟩]) 2 32 Try.underlying31 hi hz0 hz1 hz2 rfl (by decide) (.slice none 0 0) 0 [] (by simp [Act.eval]) (World.ownsRow_nil _ _ _ _) ao ps.length cap (fl encP ps) (by simp [Act.eval]) (fl_length encP_len ps) hnone (Reads.news encP_len (by decide) HA1.out HB3.out) (fl_one encP_one ps) (by unfold maxLen; omega) (by omega) HB3.out.size ?_
    intro v4 w4 ho4 hg4
    simp only [Nat.zero_add, List.nil_append] at ho4
    have hb4 := below_none hg4
    obtain ⟨a4, k4, rfl⟩ := owns_slice ho4
    have HO4 := hid ho4
    have HO34 := hid (owns_below HO3.out hb4)
    have HB4 := hid (below_then HB3.out hb4 HB3.out.size)
    clear ho4 hg4 hb4 HB3 HO3 hS3
    have hS4 := HCQ.out _ HB4.out
    refine hK.out _ _ (by assumption) (fun hHeld => ?_)
    clear hK K
    try simp only [Act.put, List.setIfInBounds_toArray, List.set_cons_zero, List.set_cons_succ]
    refine wpAnyH_ready (rs := [16]) (by kernel_rfl) (by simp) (nextH 16 rfl (by rfl) (fun K hK => ?_) AllReadyH.nil)
    go_simp
    have hb5 := alloc_one w4 (.cells #[.slice a4 ps.length k4] 31)
    have HO5 := hid (owns_below HO4.out hb5)
    have HO35 := hid (owns_below HO34.out hb5)
    have HB5 := hid (below_then HB4.out hb5 HB4.out.size)
    have hS5 := HCQ.out _ HB5.out
    have NW := hid (new_cells w4 #[.slice a4 ps.length k4] 31)
    refine hK.out _ _ (by assumption) (fun hHeld => ?_)
    clear hK K
    try simp only [Act.put, List.setIfInBounds_toArray, List.set_cons_zero, List.set_cons_succ]
    refine wpAnyH_ready (rs := [17]) (by kernel_rfl) (by simp) (AllReadyH.cons rfl (fun K hK => ?_) AllReadyH.nil)
    refine step_append_to 74 rfl rfl (.tmp 70) (.tmp 73) 49 rfl wd.heap.size 31 j0 (.slice none 0 0) 1 24 Try.underlying49 hj1 hy0 hy1 hy2 rfl (by decide) _ n _ (by simp [Act.eval]) HO35.out ⟨w4.heap.size, 0, none⟩ 1 1 [.slice a4 ps.length k4] (by simp [Act.eval]) rfl NW.out (by simp [Value.oneCell']) (by unfold maxLen; omega) (by omega) HB5.out.size ?_
    intro v6 w6 ho6 hg6 hat6
    obtain ⟨a6, k6, rfl⟩ := owns_slice ho6
    have HO6 := hid ho6
    have HO46 := hid (owns_grown HO5.out HO35.out (by decide) hg6)
    have HB6 := hid (HB5.out.grown hg6 HB5.out.size (fun r hr => (HO35.out.lt r hr).1))
    clear ho6 hg6 hat6
    have hS6 := HCQ.out _ HB6.out
    refine hK.out _ _ (by assumption) (fun hHeld => ?_)
    clear hK K
    try simp only [Act.put, List.setIfInBounds_toArray, List.set_cons_zero, List.set_cons_succ]
    refine takeH 18 75 (.pointer (some ⟨p, j * 3, none⟩)) rfl rfl (by kernel_rfl) (by kernel_rfl) (by kernel_rfl) (fun _ _ _ h => h) (by rfl) ?_ (by assumption) ?_
    · intro w' hSw
      go_simp
    try simp only [Act.put, List.setIfInBounds_toArray, List.set_cons_zero, List.set_cons_succ]
    refine takeH 19 76 (.pointer (some ⟨p, j * 3 + 2, none⟩)) rfl rfl (by kernel_rfl) (by kernel_rfl) (by kernel_rfl) (fun _ _ _ h => h) (by rfl) ?_ (by assumption) ?_
    · intro w' hSw
      go_simp
    try simp only [Act.put, List.setIfInBounds_toArray, List.set_cons_zero, List.set_cons_succ]
    refine wpAnyH_ready (rs := [20]) (by kernel_rfl) (by simp) (nextH 20 rfl (by rfl) (fun K hK => ?_) AllReadyH.nil)
    have HS6 := hid (HSF1.out.below HB6.out)
    obtain ⟨p', c', uo', un', e', -, -, -, -, -, d2⟩ := HS6.out.cell hj
    cases e'
    have df : w6.frozen? ⟨p, j * 3 + 2, none⟩ = false := HS6.out.row.frozenAt _
    go_simp
    have hS7 : (w6.setCell ⟨p, j * 3 + 2, none⟩ (.slice a6 (n + 1) k6)).cell? ⟨q, 0, none⟩ = some (.slice (some ⟨p, 0, none⟩) Y1.length c) := (World.cell?_setCell_far _ _ _ _ (fun e => owns_ne HS6.out.row HS6.out.obj (by decide) (congrArg some (show q = p from e.symm)))).trans hS6
    refine hK.out _ _ (by assumption) (fun hHeld => ?_)
    clear hK K
    try simp only [Act.put, List.setIfInBounds_toArray, List.set_cons_zero, List.set_cons_succ]
    refine wpAnyH_done (by kernel_rfl) ?_ _
    have HF := hid (Sf.put HSF1.out HB6.out hj HJK.out HO46.out (by rw [HLEN.out]; exact HO6.out))
    clear d2 df hS7
    go_wp2
    go_ret
    obtain ⟨f1, f2, f3⟩ := HF.out
    refine ⟨rfl, _, _, f1, by rw [chS_set, HS1.out, ← HGC.out, HG1.out], HSV.out.then f2 (fun i hi h => (HN1.out i h).resolve_right (by omega)), fun g hg => ?_⟩
    rcases f3 g hg with e | e
    · exact HN1.out g e
    · exact .inr (Nat.le_trans HSV.out.size e)
end Go.Proofs.Ytejkboahjfcdcaa
