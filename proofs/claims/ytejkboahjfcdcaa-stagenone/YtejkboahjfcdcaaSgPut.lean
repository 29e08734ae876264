/- package stage: Put. -/
import Derived.Test.YtejkboahjfcdcaaSgIs
import Derived.Test.YtejkboahjfcdcaaStStep
import Derived.Deep.Cut
namespace Go.Proofs.Ytejkboahjfcdcaa
open Go.RowKit
set_option linter.unusedVariables false

section
variable {B b m : Nat} {X : List ((Int × Int) × Pay)} {w : World}
/-- A map's block is none of those that chunks lie in. -/
theorem Pays.off_map {es : Array MapEntry} {c : Nat} (h : Pays B X w) (hm : w.heap[m]? = some (.map es c)) : ¬ InX X m := h.off hm (fun cs t r e => by cases e)
/-- A chunk has been put behind those of an attempt. -/
theorem Sg.put {w1 w4 w3 : World} {k : Int × Int} {ps : List KV} {x u' : Value} {es : Array MapEntry} {c : Nat} (h : Sg B b (.map (some m)) X w) (hs : Sav (Just m) w w1) (hpend : w1.heap[m]? = some (.map es c))
    (hx : w1.ownsRow w.heap.size 53 2 x ps.length (fl encP ps)) (ho : w4.ownsRow B 31 1 u' ((getS (chS X) k).length + 1) ((payS X k).vs ++ [x])) (hg : w1.grownBy w4 (payS X k).u.ownBlock)
    (hat : u'.ownBlock = (payS X k).u.ownBlock ∨ u'.ownBlock = some w1.heap.size) (hM : MapIs Try.prog 59 m (setS (slS X) k u') w3) (h3 : Sav (Just m) w4 w3) (hk : maySt k = true) (hl : (getS (chS X) k).length < 40) :
    ∃ X', Sg B b (.map (some m)) X' w3 ∧ chS X' = setS (chS X) k (getS (chS X) k ++ [ps]) ∧ Sav (InG b (.map (some m)) X) w w3 ∧ NextG w b (.map (some m)) X (.map (some m)) X' := by
  have hlow := h.low
  obtain ⟨m', em, hm1, hm2⟩ : ∃ m', m' = m ∧ B ≤ m ∧ MapIs Try.prog 59 m (slS X) w := by
    rcases h.map with ⟨e, _⟩ | ⟨m', e, h1, h2⟩
    · cases e
    · cases e
      exact ⟨m, rfl, h1, h2⟩
  obtain ⟨es0, c0, hmw⟩ : ∃ es0 c0, w.heap[m]? = some (.map es0 c0) := by
    obtain ⟨D, ⟨es0, c0, hb, _⟩, _⟩ := hm2.ex
    exact ⟨es0, c0, hb⟩
  have hX := h.pays.off_map hmw
  have hp := h.pays.at_ k
  have hpin : ∀ g, (payS X k).In g → g ≠ m := fun g hg e => hX ⟨_, payS_in hg, by rw [← e]; exact hg⟩
  have hpW := hp.sav hs hpin
  have hcs : (payS X k).cs.length = (getS (chS X) k).length := by rw [payS_cs]
  have hnew4 : Pay.Is B ⟨u', (payS X k).vs ++ [x], (payS X k).cs ++ [ps]⟩ w4 := hpW.more (owns_mono hx hlow) (by rw [hcs]; exact ho) hg
  have hme : w4.heap[m]? = some (.map es c) := (hg.block m (lt_of_block hpend) (fun e => owns_map hpend hpW.row e.symm)).trans hpend
  have hnew3 := hnew4.sav h3 (fun g hg e => by
    obtain ⟨cs, t, hc, _⟩ := hnew4.cells hg
    exact not_cells hme hc e)
  have hbm : b ≠ m := not_cells hmw h.obj
  have hbu : some b ≠ (payS X k).u.ownBlock := owns_ne hp.row h.obj (by decide)
  have hsv : Sav (fun g => g = m ∨ (payS X k).u.ownBlock = some g) w w3 := by
    refine Sav.trans (Sav.trans (hs.mono (fun g _ hg => .inl hg)) (Sav.grown hg (fun g hg => .inr hg))) (h3.mono (fun g _ hg => .inl hg))
  have hpays := h.pays.set (k := k) hnew3 hsv (fun g hg hS => by
    rcases hS with e | e
    · exact absurd (by rw [← e]; exact hg) hX
    · exact .inl e) (fun g hg => by
    rcases Pay.more_in hg with e | e | e
    · rcases hat with h1 | h1
      · exact .inl (.inl (by rw [← h1]; exact e))
      · rw [h1] at e
        cases e
        exact .inr hs.size
    · exact .inr (hx.lt g e).1
    · exact .inl e)
  refine ⟨_, ⟨hsv.at h.obj (fun e => ?_), .inr ⟨m, rfl, hm1, by rw [slS_set]; exact hM⟩, hpays, ?_, h.far, Nat.le_trans hlow hsv.size⟩, by rw [chS_set, payS_cs], hsv.mono (fun g _ hg => ?_), fun g hg => ?_⟩
  · rcases e with e | e
    · exact hbm e
    · exact hbu e.symm
  · rw [chS_set, payS_cs]
    exact h.ok.set hk (by simp) (by rw [List.length_append]; simp; omega)
  · rcases hg with e | e
    · exact .inr (.inl (by rw [e]))
    · exact .inr (.inr ⟨_, payS_in (.inl e), .inl e⟩)
  · rcases hg with e | e | e
    · exact .inl (.inl e)
    · exact .inl (.inr (.inl e))
    · rcases inX_set h.pays.keys e with e | e
      · rcases Pay.more_in e with e | e | e
        · rcases hat with h1 | h1
          · rw [h1] at e
            exact .inl (.inr (.inr ⟨_, payS_in (.inl e), .inl e⟩))
          · rw [h1] at e
            cases e
            exact .inr hs.size
        · exact .inr (hx.lt g e).1
        · exact .inl (.inr (.inr ⟨_, payS_in e, e⟩))
      · exact .inl (.inr (.inr e))
/-- A map is made for a stage that has none. -/
theorem Sg.made (h : Sg B b (.map none) X w) : X = [] ∧ Sg B b (.map (some w.heap.size)) [] ((w.alloc (.map #[] 0)).setCell ⟨b, 0, none⟩ (.map (some w.heap.size))) ∧ Sav (InG b (.map none) X) w ((w.alloc (.map #[] 0)).setCell ⟨b, 0, none⟩ (.map (some w.heap.size))) ∧ NextG w b (.map none) X (.map (some w.heap.size)) [] := by
  obtain rfl : X = [] := by
    rcases h.map with ⟨_, e⟩ | ⟨m, e, _⟩
    · exact e
    · cases e
  have hlt := lt_of_block h.obj
  have h1 : (w.alloc (.map #[] 0)).heap[b]? = some (.cells #[.map none] 56 (0, 0)) := ((alloc_one w (.map #[] 0)).block b hlt).trans h.obj
  have hm : (w.alloc (.map #[] 0)).heap[w.heap.size]? = some (.map #[] 0) := new_block _ _
  have hs : Sav (Just b) (w.alloc (.map #[] 0)) ((w.alloc (.map #[] 0)).setCell ⟨b, 0, none⟩ (.map (some w.heap.size))) := (Sav.refl _ _).setCell (just b) 0 _
  refine ⟨rfl, ⟨?_, .inr ⟨_, rfl, h.low, (MapIs.made Try.prog 59 w).sav hs (fun e => by have : w.heap.size = b := e; omega)⟩, Pays.nil _ _, okS_nil, h.far, by simp [World.setCell]; have := h.low; omega⟩, ?_, fun g hg => ?_⟩
  · have := set_same (j := 0) (v := .map (some w.heap.size)) h1
    simpa using this
  · exact (Sav.of_below (alloc_one w _)).trans (hs.mono (fun g _ e => .inl e))
  · rcases hg with e | e | e
    · exact .inl (.inl e)
    · cases e
      exact .inr (Nat.le_refl _)
    · obtain ⟨r, hr, _⟩ := e
      cases hr
end
/-- What is loaded in Put's last region. -/
def Ld (b m f : Nat) (k : Int × Int) (w : World) : Prop := w.cell? ⟨b, 0, none⟩ = some (.map (some m)) ∧ w.cell? ⟨f, 0, none⟩ = some (.int .i64 k.1) ∧ w.cell? ⟨f, 1, none⟩ = some (.int .i64 k.2)
theorem Ld.of {b m f : Nat} {k : Int × Int} {w : World} {t t2 : TypeId} (h1 : w.heap[b]? = some (.cells #[.map (some m)] t (0, 0))) (h2 : w.heap[f]? = some (.cells #[.int .i64 k.1, .int .i64 k.2] t2 (0, 0))) : Ld b m f k w :=
  ⟨cell_of_cells h1, cell_of_cells h2, cell_of_cells h2⟩

theorem Ld.map {b m f : Nat} {k : Int × Int} {w w' : World} {es : Array MapEntry} {c : Nat} (h : w.heap[m]? = some (.map es c)) (hs : Sav (Just m) w w') (h1 : Ld b m f k w) : Ld b m f k w' :=
  ⟨cell_map h hs h1.1, cell_map h hs h1.2.1, cell_map h hs h1.2.2⟩
/-- Blocks turn that hold no text. -/
theorem Prs.sav {S : Nat → Prop} {w w' : World} {v : Value} {l : List KV} (h : Prs w v l) (hs : Sav S w w') (hn : ∀ g, S g → ∀ j t, w.cell? ⟨g, j, none⟩ ≠ some (.string t)) : Prs w' v l := by
  obtain ⟨ao, cap, rfl, h1, h2, h3, h4⟩ := h
  refine ⟨ao, cap, rfl, h1, h2, h3, fun hl => ?_⟩
  obtain ⟨b, off, rfl, hlt, hc⟩ := h4 hl
  refine ⟨b, off, rfl, Nat.lt_of_lt_of_le hlt hs.size, fun j x hj q u hu => ?_⟩
  have h5 := hc j x hj q u hu
  rw [hs.cell (a := ⟨b, off + j * 2 + q, none⟩) hlt (fun hS => ?_)]
  · exact h5
  · obtain ⟨t, rfl⟩ : ∃ t, u = .string t := by
      match q, hu with
      | 0, hu => exact ⟨_, (Option.some.inj hu).symm⟩
      | 1, hu => exact ⟨_, (Option.some.inj hu).symm⟩
      | q + 2, hu => simp [encP] at hu
    exact hn b hS _ _ h5

set_option maxHeartbeats 1000000 in
theorem put_not (B b : Nat) (mv : Value) (X : List ((Int × Int) × Pay)) (k : Int × Int) (hk : W64 k) (seq : Int) (a : Value) (w : World) (h : Sg B b mv X w) (ht : takesS (chS X) k seq = false) :
    Calls Try.prog 12 #[.pointer (some ⟨b, 0, none⟩), .int .i64 k.1, .int .i64 k.2, .int .i64 seq, a] w fun e w' => e = .returned (.int .i64 ((getS (chS X) k).length : Nat)) ∧ w = w' := by
  have H := hid h
  clear h
  obtain ⟨mb, hmb⟩ : ∃ mb, (maySt (k.1, k.2) && decide (seq < 40)) = mb := ⟨_, rfl⟩
  obtain ⟨n, hn⟩ : ∃ n, (getS (chS X) k).length = n := ⟨_, rfl⟩
  have HN := hid hn
  rw [hn]
  clear hn
  go_enter Try.func12, Try.ntmps12
  go_wp2_with fail
  refine (next_any B b mv X k hk w H.out).mono ?_
  rintro e w1 ⟨rfl, rfl⟩
  rw [HN.out]
  go_wp2_with fail
  refine (may_any k.1 k.2 seq _).mono ?_
  rintro e w1 ⟨rfl, rfl⟩
  rw [hmb]
  have HM := hid hmb
  clear hmb
  cases mb with
  | false =>
    go_wp2
    go_ret
    exact ⟨rfl, rfl⟩
  | true =>
    have hne : ¬ seq = (n : Int) := by
      intro e
      have h1 := HM.out
      rw [Bool.and_eq_true, decide_eq_true_eq] at h1
      rw [(takesS_iff _ _ _).2 ⟨h1.1, by rw [HN.out]; exact e, h1.2⟩] at ht
      cases ht
    have hd : decide (seq = (n : Int)) = false := by simpa using hne
    go_wp2
    go_ret
    exact ⟨rfl, rfl⟩

set_option maxHeartbeats 4000000 in
theorem put_take (B b : Nat) (mv : Value) (X : List ((Int × Int) × Pay)) (k : Int × Int) (hk : W64 k) (a : Value) (ps : List KV) (w : World) (h : Sg B b mv X w) (ha : Prs w a ps) (hps : ps.length ≤ 1000) (n : Nat) (hn : (getS (chS X) k).length = n) (ht1 : maySt k = true) (ht2 : n < 40) :
    Calls Try.prog 12 #[.pointer (some ⟨b, 0, none⟩), .int .i64 k.1, .int .i64 k.2, .int .i64 n, a] w fun e w' => e = .returned (.int .i64 (n + 1 : Nat)) ∧ ∃ mv' X', Sg B b mv' X' w' ∧ chS X' = setS (chS X) k (getS (chS X) k ++ [ps]) ∧ Sav (InG b mv X) w w' ∧ NextG w b mv X mv' X' := by
  have H := hid h
  clear h
  have HN := hid hn
  clear hn
  have HT := hid ht1
  have HW := hid hk
  have HA := hid ha
  obtain ⟨ao, cap, rfl, p1, p2, p3, -⟩ := ha
  have hnone : ao = none → ps.length = 0 ∧ cap = 0 := fun e => ⟨by rw [(p3 e).1]; rfl, (p3 e).2⟩
  unfold maxLen at p2
  clear p3 ht1
  obtain ⟨i0, hi, hz0, hz1, hz2⟩ := info_parts Try.infoP
  obtain ⟨j0, hj, hy0, hy1, hy2⟩ := info_parts Try.infoS
  have hmb : (maySt (k.1, k.2) && decide ((n : Int) < 40)) = true := by rw [Bool.and_eq_true, decide_eq_true_eq]; exact ⟨HT.out, by omega⟩
  have HMB := hid hmb
  clear hmb
  go_enter Try.func12, Try.ntmps12
  go_wp2_with fail
  refine (next_any B b mv X k HW.out w H.out).mono ?_
  rintro e w1 ⟨rfl, rfl⟩
  rw [HN.out]
  go_wp2_with fail
  refine (may_any k.1 k.2 n _).mono ?_
  rintro e w1 ⟨rfl, rfl⟩
  rw [HMB.out]
  obtain ⟨m, w1, HG1, HS1, HN1, HA1, hcase⟩ : ∃ m w1, Hid (Sg B b (.map (some m)) X w1) ∧ Hid (Sav (InG b mv X) w w1) ∧ Hid (NextG w b mv X (.map (some m)) X) ∧ Hid (Prs w1 (.slice ao ps.length cap) ps) ∧ ((mv = .map none ∧ m = w.heap.size ∧ w1 = (w.alloc (.map #[] 0)).setCell ⟨b, 0, none⟩ (.map (some w.heap.size)) ∧ w1.heap.size = m + 1) ∨ (mv = .map (some m) ∧ w1 = w)) := by
    rcases H.out.map with ⟨rfl, rfl⟩ | ⟨m, rfl, -⟩
    · obtain ⟨-, q1, q2, q3⟩ := H.out.made
      have hs2 : Sav (Just b) w ((w.alloc (.map #[] 0)).setCell ⟨b, 0, none⟩ (.map (some w.heap.size))) := ((Sav.refl _ w).alloc _).setCell (just b) 0 _
      refine ⟨_, _, q1, q2, q3, HA.out.sav hs2 (fun g hg j t e => ?_), .inl ⟨rfl, rfl, rfl, by simp [World.setCell]⟩⟩
      have hgb : g = b := hg
      subst hgb
      rw [cell_of_cells H.out.obj] at e
      match j, e with
      | 0, e => simp at e
      | j + 1, e => simp at e
    · exact ⟨m, w, H, hid (Sav.refl _ _), hid (NextG.refl _ _ _ _), HA, .inr ⟨rfl, rfl⟩⟩
  have c0 := H.out.c0
  have f0 := H.out.free
  have e1 : ∀ w : World, (binOp BinOp.eql 54 (.map none) (.map none)).run Try.prog w = .ok (.bool true) w := fun w => by kernel_rfl
  have e2 : ∀ w : World, (binOp BinOp.eql 54 (.map (some m)) (.map none)).run Try.prog w = .ok (.bool false) w := fun w => by kernel_rfl
  have e3 : ∀ w : World, (Instr.makeMap 54 none).run Try.prog w = .ok (.map (some w.heap.size)) (w.alloc (.map #[] 0)) := fun w => by kernel_rfl
  rcases hcase with ⟨rfl, hm, hw, hsz⟩ | ⟨rfl, hw⟩
  · have hbA : (w.alloc (.map #[] 0)).heap[b]? = some (.cells #[.map none] 56 (0, 0)) := ((alloc_one w (.map #[] 0)).block b (lt_of_block H.out.obj)).trans H.out.obj
    have cA : (w.alloc (.map #[] 0)).cell? ⟨b, 0, none⟩ = some (.map none) := cell_of_cells hbA
    have fA : (w.alloc (.map #[] 0)).frozen? ⟨b, 0, none⟩ = false := free_of_cells hbA
    go_upto_region 7 with fail
    rw [← hw, ← hm, ← hsz]
    clear hsz hm hw hbA cA fA c0 f0 e1 e2 e3 H HA HMB
    -- the region that draws its order
    have HG := hid (HG1.out.below (alloc_one w1 (.cells #[.int .i64 k.1, .int .i64 k.2] 59)))
    have hF : (w1.alloc (.cells #[.int .i64 k.1, .int .i64 k.2] 59)).heap[w1.heap.size]? = some (.cells #[.int .i64 k.1, .int .i64 k.2] 59 (0, 0)) := new_block _ _
    replace HA1 := hid (HA1.out.below (alloc_one w1 (.cells #[.int .i64 k.1, .int .i64 k.2] 59)))
    replace HS1 := hid (HS1.out.alloc (.cells #[.int .i64 k.1, .int .i64 k.2] 59))
    clear HG1
    generalize w1.alloc (.cells #[.int .i64 k.1, .int .i64 k.2] 59) = wa at *
    generalize w1.heap.size = f at *
    replace HG := hid (show Sg B b (.map (some m)) X wa.drew from HG.out.below (below_drew1 wa))
    replace HA1 := hid (show Prs wa.drew (.slice ao ps.length cap) ps from HA1.out.below (below_drew1 wa))
    replace HS1 := hid HS1.out.drew
    replace hF : wa.drew.heap[f]? = some (.cells #[.int .i64 k.1, .int .i64 k.2] 59 (0, 0)) := hF
    refine wp_region_held_drew (S := Ld b m f k) (by kernel_rfl) (Ld.of HG.out.obj hF) (fun hHeld => ?_)
    generalize wa.drew = wd at *
    obtain ⟨es0, c0, hm0, hq0⟩ : ∃ es0 c0, wd.heap[m]? = some (.map es0 c0) ∧ MapIs Try.prog 59 m (slS X) wd := by
      rcases HG.out.map with ⟨e, _⟩ | ⟨m', e, h1, h2⟩
      · cases e
      · cases e
        obtain ⟨D, ⟨es0, c0, hb, _⟩, _⟩ := h2.ex
        exact ⟨es0, c0, hb, h2⟩
    have HM0 := hid hm0
    have HQ0 := hid hq0
    have HF0 := hid hF
    obtain ⟨uo, uc, hu⟩ : ∃ uo uc, (payS X k).u = .slice uo n uc := by
      obtain ⟨uo, uc, e, -⟩ := (HG.out.lis k).slice
      exact ⟨uo, uc, by rw [e, HN.out]⟩
    replace hu := hid hu
    have hXl : X.length ≤ 18 := by have := okS_few HG.out.ok; rw [chS_len] at this; exact this
    have HNM := hid (fun g (hg : (payS X k).In g) (e : Just m g) => HG.out.pays.off_map HM0.out ⟨_, payS_in hg, by rw [← show g = m from e]; exact hg⟩)
    have HSF := hid (fun V (hs : Sav (Just m) wd V) => show Ld b m f k V from Ld.of (hs.at HG.out.obj (fun e => not_cells HM0.out HG.out.obj e)) (hs.at HF0.out (fun e => not_cells HM0.out HF0.out e)))
    have HSG := hid (fun V V4 (hs : Sav (Just m) wd V) (hg : V.grownBy V4 (payS X k).u.ownBlock) => show Ld b m f k V4 from by
      have hr := ((HG.out.pays.at_ k).sav hs HNM.out).row
      exact Ld.of (grown_at hr hg (hs.at HG.out.obj (fun e => not_cells HM0.out HG.out.obj e)) (by decide)) (grown_at hr hg (hs.at HF0.out (fun e => not_cells HM0.out HF0.out e)) (by decide)))
    have HNW := hid (fun V (hs : Sav (Just m) wd V) => show ∀ ad, ao = some ad → ∀ j u, (fl encP ps)[j]? = some u → V.cell? (ad.add j) = some u from fun ad had j u hj => cell_map HM0.out hs (Reads.news encP_len (by decide) HA1.out (Below.refl _ wd) ad had j u hj))
    have HR := hid (Sav.refl (Just m) wd)
    clear hm0 hq0 hF
    refine takeH 0 44 (.pointer (some ⟨b, 0, none⟩)) rfl rfl (by kernel_rfl) (by kernel_rfl) (by kernel_rfl) (fun _ _ _ h => h) (by rfl) ?_ (by assumption) ?_
    · intro w' hSw
      go_simp
    try simp only [Act.put, List.setIfInBounds_toArray, List.set_cons_zero, List.set_cons_succ]
    refine takeH 1 45 (.pointer (some ⟨b, 0, none⟩)) rfl rfl (by kernel_rfl) (by kernel_rfl) (by kernel_rfl) (fun _ _ _ h => h) (by rfl) ?_ (by assumption) ?_
    · intro w' hSw
      go_simp
    try simp only [Act.put, List.setIfInBounds_toArray, List.set_cons_zero, List.set_cons_succ]
    refine takeH 2 46 (.pointer (some ⟨b, 0, none⟩)) rfl rfl (by kernel_rfl) (by kernel_rfl) (by kernel_rfl) (fun _ _ _ h => h) (by rfl) ?_ (by assumption) ?_
    · intro w' hSw
      go_simp
    try simp only [Act.put, List.setIfInBounds_toArray, List.set_cons_zero, List.set_cons_succ]
    refine takeH 3 47 (.map (some m)) rfl rfl (by kernel_rfl) (by kernel_rfl) (by kernel_rfl) (fun _ _ _ h => h) (by rfl) ?_ (by assumption) ?_
    · intro w' hSw
      obtain ⟨s0, s1, s2⟩ := hSw; go_simp
    try simp only [Act.put, List.setIfInBounds_toArray, List.set_cons_zero, List.set_cons_succ]
    refine takeH 4 48 (.agg #[.int .i64 k.1, .int .i64 k.2]) rfl rfl (by kernel_rfl) (by kernel_rfl) (by kernel_rfl) (fun _ _ _ h => h) (by rfl) ?_ (by assumption) ?_
    · intro w' hSw
      obtain ⟨s0, s1, s2⟩ := hSw; go_simp
    try simp only [Act.put, List.setIfInBounds_toArray, List.set_cons_zero, List.set_cons_succ]
    refine takeH 5 50 (.slice ao ps.length cap) rfl rfl (by kernel_rfl) (by kernel_rfl) (by kernel_rfl) (fun _ _ _ h => h) (by rfl) ?_ (by assumption) ?_
    · intro w' hSw
      go_simp
    try simp only [Act.put, List.setIfInBounds_toArray, List.set_cons_zero, List.set_cons_succ]
    refine wpAnyH_ready (rs := [6]) (by kernel_rfl) (by simp) (AllReadyH.cons rfl (fun K hK => ?_) AllReadyH.nil)
    refine step_append_any_to 51 rfl rfl (.const (.slice none 0 0)) (.tmp 50) 31 rfl wd.heap.size 53 i0 (.agg #[.string ⟨#[]⟩, .string ⟨#[]⟩]) 2 32 Try.underlying31 hi hz0 hz1 hz2 rfl (by decide) (.slice none 0 0) 0 [] (by simp [Act.eval]) (World.ownsRow_nil _ _ _ _) ao ps.length cap (fl encP ps) (by simp [Act.eval]) (fl_length encP_len ps) hnone (HNW.out _ HR.out) (fl_one encP_one ps) (by unfold maxLen; omega) (by omega) HR.out.size ?_
    intro v1 w1 ho1 hg1
    simp only [Nat.zero_add, List.nil_append] at ho1
    have hb1 := below_none hg1
    obtain ⟨a1, k1, rfl⟩ := owns_slice ho1
    have hs1 := hid (HR.out.trans (Sav.of_below (S := Just m) hb1))
    have hm1 := hid ((hb1.block m (lt_of_block HM0.out)).trans HM0.out)
    have hx1 := hid ho1
    clear ho1 hg1
    have hq1 := hid (HQ0.out.below hb1)
    have hS1 := HSF.out _ hs1.out
    refine hK.out _ _ (by assumption) (fun hHeld => ?_)
    clear hK K
    try simp only [Act.put, List.setIfInBounds_toArray, List.set_cons_zero, List.set_cons_succ]
    refine wpAnyH_ready (rs := [7]) (by kernel_rfl) (by simp) (nextH 7 rfl (by rfl) (fun K hK => ?_) AllReadyH.nil)
    go_simp
    have hb2 := alloc_one w1 (.cells #[(.slice a1 ps.length k1)] 31)
    have hs2 := hid (hs1.out.trans (Sav.of_below (S := Just m) hb2))
    have hm2 := hid ((hb2.block m (lt_of_block hm1.out)).trans hm1.out)
    have hx2 := hid (owns_below hx1.out hb2)
    have nw2 := hid (new_cells w1 #[(.slice a1 ps.length k1)] 31)
    have hq2 := hid (hq1.out.below hb2)
    have hS2 := HSF.out _ hs2.out
    refine hK.out _ _ (by assumption) (fun hHeld => ?_)
    clear hK K
    try simp only [Act.put, List.setIfInBounds_toArray, List.set_cons_zero, List.set_cons_succ]
    refine wpAnyH_ready (rs := [8]) (by kernel_rfl) (by simp) (nextH 8 rfl (by rfl) (fun K hK => ?_) AllReadyH.nil)
    obtain ⟨st, es, c, hr3, hf3⟩ := hq2.out.entry keyTwo Try.underlying54 zeroLists (by rw [slS_len]; unfold maxLen; omega) HW.out
    rw [payS_u, hu.out] at hr3
    have sv3 := sav_setBlock (w1.alloc (.cells #[(.slice a1 ps.length k1)] 31)) m (.map es c)
    have hs3 := hid (hs2.out.trans sv3)
    have hm3 := hid (heap_setBlock (w1.alloc (.cells #[(.slice a1 ps.length k1)] 31)) (o' := .map es c) hm2.out)
    have hx3 := hid (owns_sav hx2.out sv3 (fun g hg e => owns_map hm2.out hx2.out (by rw [hg]; exact congrArg some e)))
    have nw3 := hid (fun j u hj => cell_map hm2.out sv3 (nw2.out j u hj))
    have hS3 := HSF.out _ hs3.out
    have hf3 := hid hf3
    refine step_entry 53 rfl 54 (.tmp 47) (.tmp 48) rfl (.tuple #[.slice uo n uc, .int .i64 st]) (Go.ChangeMaps.setBlock (w1.alloc (.cells #[(.slice a1 ps.length k1)] 31)) m (.map es c)) ?_ ?_
    · simpa [Act.eval, kv] using hr3
    generalize hz3 : Go.ChangeMaps.setBlock (w1.alloc (.cells #[(.slice a1 ps.length k1)] 31)) m (.map es c) = w3 at *
    clear hr3 sv3 hz3
    refine hK.out _ _ (by assumption) (fun hHeld => ?_)
    clear hK K
    try simp only [Act.put, List.setIfInBounds_toArray, List.set_cons_zero, List.set_cons_succ]
    refine takeH 9 49 (.slice uo n uc) rfl rfl (by kernel_rfl) (by kernel_rfl) (by kernel_rfl) (fun _ _ _ h => h) (by rfl) ?_ (by assumption) ?_
    · intro w' hSw
      go_simp
    try simp only [Act.put, List.setIfInBounds_toArray, List.set_cons_zero, List.set_cons_succ]
    refine takeH 11 55 (.int .i64 st) rfl rfl (by kernel_rfl) (by kernel_rfl) (by kernel_rfl) (fun _ _ _ h => h) (by rfl) ?_ (by assumption) ?_
    · intro w' hSw
      go_simp
    try simp only [Act.put, List.setIfInBounds_toArray, List.set_cons_zero, List.set_cons_succ]
    refine wpAnyH_ready (rs := [10]) (by kernel_rfl) (by simp) (AllReadyH.cons rfl (fun K hK => ?_) AllReadyH.nil)
    have hp4 := (HG.out.pays.at_ k).sav hs3.out (fun g hg e => HNM.out g hg e)
    have hr4 := hp4.row
    rw [payS_cs, HN.out, hu.out] at hr4
    refine step_append_to 54 rfl rfl (.tmp 49) (.tmp 52) 49 rfl B 31 j0 (.slice none 0 0) 1 24 Try.underlying49 hj hy0 hy1 hy2 rfl (by decide) _ n _ (by simp [Act.eval]) hr4 ⟨w1.heap.size, 0, none⟩ 1 1 [(.slice a1 ps.length k1)] (by simp [Act.eval]) rfl nw3.out (by simp [Value.oneCell']) (by unfold maxLen; omega) (by omega) (Nat.le_trans HG.out.low hs3.out.size) ?_
    intro v4 w4 ho4 hg4 hat4
    obtain ⟨a4, k4, rfl⟩ := owns_slice ho4
    have hme4 := hid ((hg4.block m (lt_of_block hm3.out) (fun e => owns_map hm3.out hr4 e.symm)).trans hm3.out)
    have hS4 := HSG.out _ _ hs3.out (by rw [hu.out]; exact hg4)
    have HO4 := hid (And.intro ho4 (And.intro hg4 hat4))
    clear ho4 hg4 hat4 hp4 hr4
    refine hK.out _ _ (by assumption) (fun hHeld => ?_)
    clear hK K
    try simp only [Act.put, List.setIfInBounds_toArray, List.set_cons_zero, List.set_cons_succ]
    refine wpAnyH_ready (rs := [12]) (by kernel_rfl) (by simp) (nextH 12 rfl (by rfl) (fun K hK => ?_) AllReadyH.nil)
    obtain ⟨w5, hr5, hM5, hv5⟩ := hf3.out _ (.slice a4 (n + 1) k4) hme4.out
    refine step_filled rfl 54 (.tmp 47) (.tmp 55) (.tmp 54) rfl w5 (by simpa [Act.eval] using hr5) ?_
    have hS5 := Ld.map hme4.out hv5 (show Ld b m f k w4 by assumption)
    clear hr5
    refine hK.out _ _ (by assumption) (fun hHeld => ?_)
    clear hK K
    try simp only [Act.put, List.setIfInBounds_toArray, List.set_cons_zero, List.set_cons_succ]
    refine wpAnyH_done (by kernel_rfl) ?_ _
    have HF := hid (Sg.put HG.out hs3.out hm3.out hx3.out (by rw [HN.out]; exact HO4.out.1) (by rw [hu.out]; exact HO4.out.2.1) (by rw [hu.out]; exact HO4.out.2.2) hM5 hv5 HT.out (by rw [HN.out]; exact ht2))
    clear hM5 hv5
    go_wp2
    go_ret
    obtain ⟨X', f1, f2, f3, f4⟩ := HF.out
    exact ⟨rfl, _, X', f1, f2, HS1.out.then f3 (fun i hi h => (HN1.out i h).resolve_right (by omega)), fun g hg => by
      rcases f4 g hg with e | e
      · exact HN1.out g e
      · exact .inr (Nat.le_trans HS1.out.size e)⟩
  · go_upto_region 7 with fail
    rw [← hw]
    clear hw c0 f0 e1 e2 e3 H HA HMB
    -- the region that draws its order
    have HG := hid (HG1.out.below (alloc_one w1 (.cells #[.int .i64 k.1, .int .i64 k.2] 59)))
    have hF : (w1.alloc (.cells #[.int .i64 k.1, .int .i64 k.2] 59)).heap[w1.heap.size]? = some (.cells #[.int .i64 k.1, .int .i64 k.2] 59 (0, 0)) := new_block _ _
    replace HA1 := hid (HA1.out.below (alloc_one w1 (.cells #[.int .i64 k.1, .int .i64 k.2] 59)))
    replace HS1 := hid (HS1.out.alloc (.cells #[.int .i64 k.1, .int .i64 k.2] 59))
    clear HG1
    generalize w1.alloc (.cells #[.int .i64 k.1, .int .i64 k.2] 59) = wa at *
    generalize w1.heap.size = f at *
    replace HG := hid (show Sg B b (.map (some m)) X wa.drew from HG.out.below (below_drew1 wa))
    replace HA1 := hid (show Prs wa.drew (.slice ao ps.length cap) ps from HA1.out.below (below_drew1 wa))
    replace HS1 := hid HS1.out.drew
    replace hF : wa.drew.heap[f]? = some (.cells #[.int .i64 k.1, .int .i64 k.2] 59 (0, 0)) := hF
    refine wp_region_held_drew (S := Ld b m f k) (by kernel_rfl) (Ld.of HG.out.obj hF) (fun hHeld => ?_)
    generalize wa.drew = wd at *
    obtain ⟨es0, c0, hm0, hq0⟩ : ∃ es0 c0, wd.heap[m]? = some (.map es0 c0) ∧ MapIs Try.prog 59 m (slS X) wd := by
      rcases HG.out.map with ⟨e, _⟩ | ⟨m', e, h1, h2⟩
      · cases e
      · cases e
        obtain ⟨D, ⟨es0, c0, hb, _⟩, _⟩ := h2.ex
        exact ⟨es0, c0, hb, h2⟩
    have HM0 := hid hm0
    have HQ0 := hid hq0
    have HF0 := hid hF
    obtain ⟨uo, uc, hu⟩ : ∃ uo uc, (payS X k).u = .slice uo n uc := by
      obtain ⟨uo, uc, e, -⟩ := (HG.out.lis k).slice
      exact ⟨uo, uc, by rw [e, HN.out]⟩
    replace hu := hid hu
    have hXl : X.length ≤ 18 := by have := okS_few HG.out.ok; rw [chS_len] at this; exact this
    have HNM := hid (fun g (hg : (payS X k).In g) (e : Just m g) => HG.out.pays.off_map HM0.out ⟨_, payS_in hg, by rw [← show g = m from e]; exact hg⟩)
    have HSF := hid (fun V (hs : Sav (Just m) wd V) => show Ld b m f k V from Ld.of (hs.at HG.out.obj (fun e => not_cells HM0.out HG.out.obj e)) (hs.at HF0.out (fun e => not_cells HM0.out HF0.out e)))
    have HSG := hid (fun V V4 (hs : Sav (Just m) wd V) (hg : V.grownBy V4 (payS X k).u.ownBlock) => show Ld b m f k V4 from by
      have hr := ((HG.out.pays.at_ k).sav hs HNM.out).row
      exact Ld.of (grown_at hr hg (hs.at HG.out.obj (fun e => not_cells HM0.out HG.out.obj e)) (by decide)) (grown_at hr hg (hs.at HF0.out (fun e => not_cells HM0.out HF0.out e)) (by decide)))
    have HNW := hid (fun V (hs : Sav (Just m) wd V) => show ∀ ad, ao = some ad → ∀ j u, (fl encP ps)[j]? = some u → V.cell? (ad.add j) = some u from fun ad had j u hj => cell_map HM0.out hs (Reads.news encP_len (by decide) HA1.out (Below.refl _ wd) ad had j u hj))
    have HR := hid (Sav.refl (Just m) wd)
    clear hm0 hq0 hF
    refine takeH 0 44 (.pointer (some ⟨b, 0, none⟩)) rfl rfl (by kernel_rfl) (by kernel_rfl) (by kernel_rfl) (fun _ _ _ h => h) (by rfl) ?_ (by assumption) ?_
    · intro w' hSw
      go_simp
    try simp only [Act.put, List.setIfInBounds_toArray, List.set_cons_zero, List.set_cons_succ]
    refine takeH 1 45 (.pointer (some ⟨b, 0, none⟩)) rfl rfl (by kernel_rfl) (by kernel_rfl) (by kernel_rfl) (fun _ _ _ h => h) (by rfl) ?_ (by assumption) ?_
    · intro w' hSw
      go_simp
    try simp only [Act.put, List.setIfInBounds_toArray, List.set_cons_zero, List.set_cons_succ]
    refine takeH 2 46 (.pointer (some ⟨b, 0, none⟩)) rfl rfl (by kernel_rfl) (by kernel_rfl) (by kernel_rfl) (fun _ _ _ h => h) (by rfl) ?_ (by assumption) ?_
    · intro w' hSw
      go_simp
    try simp only [Act.put, List.setIfInBounds_toArray, List.set_cons_zero, List.set_cons_succ]
    refine takeH 3 47 (.map (some m)) rfl rfl (by kernel_rfl) (by kernel_rfl) (by kernel_rfl) (fun _ _ _ h => h) (by rfl) ?_ (by assumption) ?_
    · intro w' hSw
      obtain ⟨s0, s1, s2⟩ := hSw; go_simp
    try simp only [Act.put, List.setIfInBounds_toArray, List.set_cons_zero, List.set_cons_succ]
    refine takeH 4 48 (.agg #[.int .i64 k.1, .int .i64 k.2]) rfl rfl (by kernel_rfl) (by kernel_rfl) (by kernel_rfl) (fun _ _ _ h => h) (by rfl) ?_ (by assumption) ?_
    · intro w' hSw
      obtain ⟨s0, s1, s2⟩ := hSw; go_simp
    try simp only [Act.put, List.setIfInBounds_toArray, List.set_cons_zero, List.set_cons_succ]
    refine takeH 5 50 (.slice ao ps.length cap) rfl rfl (by kernel_rfl) (by kernel_rfl) (by kernel_rfl) (fun _ _ _ h => h) (by rfl) ?_ (by assumption) ?_
    · intro w' hSw
      go_simp
    try simp only [Act.put, List.setIfInBounds_toArray, List.set_cons_zero, List.set_cons_succ]
    refine wpAnyH_ready (rs := [6]) (by kernel_rfl) (by simp) (AllReadyH.cons rfl (fun K hK => ?_) AllReadyH.nil)
    refine step_append_any_to 51 rfl rfl (.const (.slice none 0 0)) (.tmp 50) 31 rfl wd.heap.size 53 i0 (.agg #[.string ⟨#[]⟩, .string ⟨#[]⟩]) 2 32 Try.underlying31 hi hz0 hz1 hz2 rfl (by decide) (.slice none 0 0) 0 [] (by simp [Act.eval]) (World.ownsRow_nil _ _ _ _) ao ps.length cap (fl encP ps) (by simp [Act.eval]) (fl_length encP_len ps) hnone (HNW.out _ HR.out) (fl_one encP_one ps) (by unfold maxLen; omega) (by omega) HR.out.size ?_
    intro v6 w6 ho6 hg6
    simp only [Nat.zero_add, List.nil_append] at ho6
    have hb6 := below_none hg6
    obtain ⟨a6, k6, rfl⟩ := owns_slice ho6
    have hs6 := hid (HR.out.trans (Sav.of_below (S := Just m) hb6))
    have hm6 := hid ((hb6.block m (lt_of_block HM0.out)).trans HM0.out)
    have hx6 := hid ho6
    clear ho6 hg6
    have hq6 := hid (HQ0.out.below hb6)
    have hS6 := HSF.out _ hs6.out
    refine hK.out _ _ (by assumption) (fun hHeld => ?_)
    clear hK K
    try simp only [Act.put, List.setIfInBounds_toArray, List.set_cons_zero, List.set_cons_succ]
    refine wpAnyH_ready (rs := [7]) (by kernel_rfl) (by simp) (nextH 7 rfl (by rfl) (fun K hK => ?_) AllReadyH.nil)
    go_simp
    have hb7 := alloc_one w6 (.cells #[(.slice a6 ps.length k6)] 31)
    have hs7 := hid (hs6.out.trans (Sav.of_below (S := Just m) hb7))
    have hm7 := hid ((hb7.block m (lt_of_block hm6.out)).trans hm6.out)
    have hx7 := hid (owns_below hx6.out hb7)
    have nw7 := hid (new_cells w6 #[(.slice a6 ps.length k6)] 31)
    have hq7 := hid (hq6.out.below hb7)
    have hS7 := HSF.out _ hs7.out
    refine hK.out _ _ (by assumption) (fun hHeld => ?_)
    clear hK K
    try simp only [Act.put, List.setIfInBounds_toArray, List.set_cons_zero, List.set_cons_succ]
    refine wpAnyH_ready (rs := [8]) (by kernel_rfl) (by simp) (nextH 8 rfl (by rfl) (fun K hK => ?_) AllReadyH.nil)
    obtain ⟨st, es, c, hr8, hf8⟩ := hq7.out.entry keyTwo Try.underlying54 zeroLists (by rw [slS_len]; unfold maxLen; omega) HW.out
    rw [payS_u, hu.out] at hr8
    have sv8 := sav_setBlock (w6.alloc (.cells #[(.slice a6 ps.length k6)] 31)) m (.map es c)
    have hs8 := hid (hs7.out.trans sv8)
    have hm8 := hid (heap_setBlock (w6.alloc (.cells #[(.slice a6 ps.length k6)] 31)) (o' := .map es c) hm7.out)
    have hx8 := hid (owns_sav hx7.out sv8 (fun g hg e => owns_map hm7.out hx7.out (by rw [hg]; exact congrArg some e)))
    have nw8 := hid (fun j u hj => cell_map hm7.out sv8 (nw7.out j u hj))
    have hS8 := HSF.out _ hs8.out
    have hf8 := hid hf8
    refine step_entry 53 rfl 54 (.tmp 47) (.tmp 48) rfl (.tuple #[.slice uo n uc, .int .i64 st]) (Go.ChangeMaps.setBlock (w6.alloc (.cells #[(.slice a6 ps.length k6)] 31)) m (.map es c)) ?_ ?_
    · simpa [Act.eval, kv] using hr8
    generalize hz8 : Go.ChangeMaps.setBlock (w6.alloc (.cells #[(.slice a6 ps.length k6)] 31)) m (.map es c) = w8 at *
    clear hr8 sv8 hz8
    refine hK.out _ _ (by assumption) (fun hHeld => ?_)
    clear hK K
    try simp only [Act.put, List.setIfInBounds_toArray, List.set_cons_zero, List.set_cons_succ]
    refine takeH 9 49 (.slice uo n uc) rfl rfl (by kernel_rfl) (by kernel_rfl) (by kernel_rfl) (fun _ _ _ h => h) (by rfl) ?_ (by assumption) ?_
    · intro w' hSw
      go_simp
    try simp only [Act.put, List.setIfInBounds_toArray, List.set_cons_zero, List.set_cons_succ]
    refine takeH 11 55 (.int .i64 st) rfl rfl (by kernel_rfl) (by kernel_rfl) (by kernel_rfl) (fun _ _ _ h => h) (by rfl) ?_ (by assumption) ?_
    · intro w' hSw
      go_simp
    try simp only [Act.put, List.setIfInBounds_toArray, List.set_cons_zero, List.set_cons_succ]
    refine wpAnyH_ready (rs := [10]) (by kernel_rfl) (by simp) (AllReadyH.cons rfl (fun K hK => ?_) AllReadyH.nil)
    have hp9 := (HG.out.pays.at_ k).sav hs8.out (fun g hg e => HNM.out g hg e)
    have hr9 := hp9.row
    rw [payS_cs, HN.out, hu.out] at hr9
    refine step_append_to 54 rfl rfl (.tmp 49) (.tmp 52) 49 rfl B 31 j0 (.slice none 0 0) 1 24 Try.underlying49 hj hy0 hy1 hy2 rfl (by decide) _ n _ (by simp [Act.eval]) hr9 ⟨w6.heap.size, 0, none⟩ 1 1 [(.slice a6 ps.length k6)] (by simp [Act.eval]) rfl nw8.out (by simp [Value.oneCell']) (by unfold maxLen; omega) (by omega) (Nat.le_trans HG.out.low hs8.out.size) ?_
    intro v9 w9 ho9 hg9 hat9
    obtain ⟨a9, k9, rfl⟩ := owns_slice ho9
    have hme9 := hid ((hg9.block m (lt_of_block hm8.out) (fun e => owns_map hm8.out hr9 e.symm)).trans hm8.out)
    have hS9 := HSG.out _ _ hs8.out (by rw [hu.out]; exact hg9)
    have HO9 := hid (And.intro ho9 (And.intro hg9 hat9))
    clear ho9 hg9 hat9 hp9 hr9
    refine hK.out _ _ (by assumption) (fun hHeld => ?_)
    clear hK K
    try simp only [Act.put, List.setIfInBounds_toArray, List.set_cons_zero, List.set_cons_succ]
    refine wpAnyH_ready (rs := [12]) (by kernel_rfl) (by simp) (nextH 12 rfl (by rfl) (fun K hK => ?_) AllReadyH.nil)
    obtain ⟨w10, hr10, hM10, hv10⟩ := hf8.out _ (.slice a9 (n + 1) k9) hme9.out
    refine step_filled rfl 54 (.tmp 47) (.tmp 55) (.tmp 54) rfl w10 (by simpa [Act.eval] using hr10) ?_
    have hS10 := Ld.map hme9.out hv10 (show Ld b m f k w9 by assumption)
    clear hr10
    refine hK.out _ _ (by assumption) (fun hHeld => ?_)
    clear hK K
    try simp only [Act.put, List.setIfInBounds_toArray, List.set_cons_zero, List.set_cons_succ]
    refine wpAnyH_done (by kernel_rfl) ?_ _
    have HF := hid (Sg.put HG.out hs8.out hm8.out hx8.out (by rw [HN.out]; exact HO9.out.1) (by rw [hu.out]; exact HO9.out.2.1) (by rw [hu.out]; exact HO9.out.2.2) hM10 hv10 HT.out (by rw [HN.out]; exact ht2))
    clear hM10 hv10
    go_wp2
    go_ret
    obtain ⟨X', f1, f2, f3, f4⟩ := HF.out
    exact ⟨rfl, _, X', f1, f2, HS1.out.then f3 (fun i hi h => (HN1.out i h).resolve_right (by omega)), fun g hg => by
      rcases f4 g hg with e | e
      · exact HN1.out g e
      · exact .inr (Nat.le_trans HS1.out.size e)⟩
end Go.Proofs.Ytejkboahjfcdcaa
