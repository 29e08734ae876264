/- StageDrops: what is dropped of a split is gone of all its attempts, and of no other one's. -/
import Derived.Test.YtejkboahjfcdcaaSgLaw
namespace Go.Proofs.Ytejkboahjfcdcaa
open Go.RowKit
set_option linter.unusedVariables false

/-- The first p keys' numbers of chunks stand in an array of six rows of four. -/
structure ArrIs (R : RowsS KV) (p : Nat) (cs : Array Value) : Prop where
  size : cs.size = 24
  has : ∀ i a : Nat, i < 6 → a < 3 → i * 3 + a < p → cs[i * 4 + (a + 1)]? = some (.int .i64 ((getS R ((i : Int), ((a + 1 : Nat) : Int))).length : Nat))
theorem ArrIs.put {R : RowsS KV} {cs : Array Value} {i a : Nat} (h : ArrIs R (i * 3 + a) cs) (hi : i < 6) (ha : a < 3) : ArrIs R (i * 3 + (a + 1)) (cs.setIfInBounds (i * 4 + (a + 1)) (.int .i64 ((getS R ((i : Int), ((a + 1 : Nat) : Int))).length : Nat))) := by
  refine ⟨by simpa using h.size, fun i' a' hi' ha' hp => ?_⟩
  rw [Array.getElem?_setIfInBounds]
  by_cases e : i * 4 + (a + 1) = i' * 4 + (a' + 1)
  · obtain ⟨rfl, rfl⟩ : i = i' ∧ a = a' := by omega
    rw [if_pos rfl, if_pos (by rw [h.size]; omega)]
  · rw [if_neg e]
    exact h.has i' a' hi' ha' (by omega)
/-- A block that is none of a stage's. -/
structure AwayG (b : Nat) (mv : Value) (X : List ((Int × Int) × Pay)) (A : Nat) (cs : Array Value) (w : World) : Prop where
  obj : w.heap[A]? = some (.cells cs 46 (0, 0))
  off : ¬ InG b mv X A
theorem AwayG.turn {b : Nat} {mv mv' : Value} {X X' : List ((Int × Int) × Pay)} {A : Nat} {cs : Array Value} {w w' : World} (h : AwayG b mv X A cs w) (hs : Sav (InG b mv X) w w') (hn : NextG w b mv X mv' X') : AwayG b mv' X' A cs w' :=
  ⟨hs.at h.obj h.off, fun e => (hn A e).elim h.off (fun h2 => by have := lt_of_block h.obj; omega)⟩
theorem AwayG.below {b : Nat} {mv : Value} {X : List ((Int × Int) × Pay)} {A : Nat} {cs : Array Value} {w w' : World} (h : AwayG b mv X A cs w) (hb : Below w.heap.size w w') : AwayG b mv X A cs w' :=
  ⟨(hb.block _ (lt_of_block h.obj)).trans h.obj, h.off⟩
def zeros24 : Array Value := #[.int .i64 0, .int .i64 0, .int .i64 0, .int .i64 0, .int .i64 0, .int .i64 0, .int .i64 0, .int .i64 0, .int .i64 0, .int .i64 0, .int .i64 0, .int .i64 0, .int .i64 0, .int .i64 0, .int .i64 0, .int .i64 0, .int .i64 0, .int .i64 0, .int .i64 0, .int .i64 0, .int .i64 0, .int .i64 0, .int .i64 0, .int .i64 0]
theorem next_q (B b : Nat) (mv : Value) (X : List ((Int × Int) × Pay)) (k : Int × Int) (hk : W64 k) (N : Nat) (w : World) (h : Sg B b mv X w) (hN : (getS (chS X) k).length = N) : ∀ n, Calls Try.prog 22 #[.pointer (some ⟨b, 0, none⟩), .int .i64 k.1, .int .i64 k.2] (w.drewN n) fun e w' => e = .returned (.int .i64 (N : Nat)) ∧ ∃ m, w' = w.drewN m := fun n =>
  (next_any B b mv X k hk (w.drewN n) (h.below (below_drew w n))).mono fun e w' ⟨h1, h2⟩ => ⟨by rw [h1, hN], n, h2.symm⟩
theorem drop_again {α : Type} (R : RowsS α) (s : Int) : dropS (dropS R s) s = dropS R s ∧ dropN (dropS R s) s = 0 := by
  unfold dropS dropN
  refine ⟨by rw [List.filter_filter]; exact List.filter_congr (fun r _ => by simp), ?_⟩
  rw [List.filter_filter, List.length_eq_zero_iff, List.filter_eq_nil_iff]
  intro r _
  simp
theorem count_le {α : Type} (R : RowsS α) (j : Nat) : countS R (gridS.take j) ≤ 18 := by
  refine Nat.le_trans (List.length_filter_le _ _) ?_
  rw [List.length_take, gridS_len]
  omega
theorem of_le {α : Type} (R : RowsS α) (s : Int) (j : Nat) : ofS R s (gridS.take j) ≤ 18 := by
  refine Nat.le_trans (List.length_filter_le _ _) (Nat.le_trans (List.length_filter_le _ _) ?_)
  rw [List.length_take, gridS_len]
  omega
theorem AwayG.set {b A j : Nat} {mv : Value} {X : List ((Int × Int) × Pay)} {cs : Array Value} {w : World} (h : AwayG b mv X A cs w) (v : Value) : AwayG b mv X A (cs.setIfInBounds j v) (w.setCell ⟨A, j, none⟩ v) := ⟨set_same h.obj, h.off⟩
theorem OnG.setA {B b A j : Nat} {mv : Value} {X : List ((Int × Int) × Pay)} {cs : Array Value} {W w : World} (h : OnG B b mv X W w) (ha : AwayG b mv X A cs w) (hA : B ≤ A) (v : Value) : OnG B b mv X W (w.setCell ⟨A, j, none⟩ v) := by
  have hs : Sav (Just A) w (w.setCell ⟨A, j, none⟩ v) := (Sav.refl _ _).setCell (just A) j v
  exact ⟨h.sg.sav hs (fun g hg e => ha.off (by rw [← show g = A from e]; exact hg)), h.bel.trans (hs.below (fun g e => by rw [show g = A from e]; exact hA) h.sg.low)⟩
set_option maxHeartbeats 4000000 in
set_option maxRecDepth 100000 in
theorem stageDrops_walk (W : World) (v : Value) (l : List ActV) (hv : rSlice 5 rAct W [v] l) (s0 : Int) (ws : (Lit.int .i64 s0).wf = true) :
    Calls Try.prog 5 #[v, .int .i64 s0] W fun e w' => e = .returned (.bool true) ∧ Below W.heap.size W w' := by
  have HV := hid hv
  obtain ⟨ao, ca, hv, a1, a2, a3, a4⟩ := hv
  obtain rfl : v = _ := by simpa using hv
  have HC := hid a4
  clear hv a4 a3
  unfold maxLen at a2
  go_enter Try.func5, Try.ntmps5
  go_wp2_with fail
  refine (great_any _ l 60 W HV.out (by decide)).mono ?_
  rintro e w1 ⟨⟨g, rfl, hg⟩, hw1⟩
  obtain rfl := hw1.symm
  have HGR := hid hg
  clear hg hw1
  cases g with
  | true =>
    go_wp2_with fail
    refine (awake_calls _).mono ?_
    rintro e w2 ⟨rfl, hb2⟩
    have HB2 := hid hb2
    clear hb2
    go_wp2
    go_ret
    exact ⟨rfl, HB2.out⟩
  | false =>
    obtain ⟨hl, hsm⟩ := HGR.out rfl
    have HSM := hid hsm
    clear hsm HGR
    obtain ⟨sp, hsp, hsp6⟩ := low_nat s0 6 (by decide)
    have HSP := hid hsp
    clear hsp
    go_wp2_with fail
    refine (low_calls s0 6 (by decide) (by decide) _).mono ?_
    rintro e w1 ⟨rfl, rfl⟩
    rw [show low s0 6 = (sp : Int) from HSP.out]
    go_wp2_with fail
    refine (new_stage _).mono ?_
    rintro e w1 ⟨rfl, hw1⟩
    have H1 := hid (show OnG W.heap.size W.heap.size (.map none) [] W w1 by rw [hw1]; exact OnG.new W)
    have hw1s : w1.heap.size = W.heap.size + 1 := by rw [hw1]; simp
    clear hw1
    have hbA := alloc_one w1 (.cells zeros24 46)
    have H2 := hid (H1.out.below hbA)
    have HA2 := hid (show AwayG W.heap.size (.map none) [] w1.heap.size zeros24 (w1.alloc (.cells zeros24 46)) from ⟨new_block _ _, inG_fresh (by omega)⟩)
    have HAZ := hid (show W.heap.size ≤ w1.heap.size by omega)
    clear hbA hw1s H1 HSP
    simp only [zeros24] at H2 HA2
    go_wp2
    have HZ := hid (show (#[.int .i64 0, .int .i64 0, .int .i64 0, .int .i64 0, .int .i64 0, .int .i64 0, .int .i64 0, .int .i64 0, .int .i64 0, .int .i64 0, .int .i64 0, .int .i64 0, .int .i64 0, .int .i64 0, .int .i64 0, .int .i64 0, .int .i64 0, .int .i64 0, .int .i64 0, .int .i64 0, .int .i64 0, .int .i64 0, .int .i64 0, .int .i64 0] : Array Value).size = 24 from rfl)
    generalize (w1.alloc (.cells #[.int .i64 0, .int .i64 0, .int .i64 0, .int .i64 0, .int .i64 0, .int .i64 0, .int .i64 0, .int .i64 0, .int .i64 0, .int .i64 0, .int .i64 0, .int .i64 0, .int .i64 0, .int .i64 0, .int .i64 0, .int .i64 0, .int .i64 0, .int .i64 0, .int .i64 0, .int .i64 0, .int .i64 0, .int .i64 0, .int .i64 0, .int .i64 0] 46)) = w2 at *
    generalize w1.heap.size = A at *
    generalize (#[.int .i64 0, .int .i64 0, .int .i64 0, .int .i64 0, .int .i64 0, .int .i64 0, .int .i64 0, .int .i64 0, .int .i64 0, .int .i64 0, .int .i64 0, .int .i64 0, .int .i64 0, .int .i64 0, .int .i64 0, .int .i64 0, .int .i64 0, .int .i64 0, .int .i64 0, .int .i64 0, .int .i64 0, .int .i64 0, .int .i64 0, .int .i64 0] : Array Value) = Z at *
    go_loopw [7] (fun i wr => ∃ (j : Nat) (mv : Value) (X : List ((Int × Int) × Pay)), j ≤ l.length ∧ i = .int .i64 j ∧ Hid (OnG W.heap.size W.heap.size mv X W wr) ∧ Hid (AwayG W.heap.size mv X A Z wr)) (fun i _ => l.length - (intOf i).toNat)
    case atStart => exact ⟨0, _, _, by omega, rfl, H2, HA2⟩
    case round =>
      obtain ⟨j, mv, X, hj, rfl, H, HA⟩ := hrel
      by_cases hlt : j < l.length
      · obtain ⟨b, off, rfl, hb, hc⟩ := HC.out (by intro e; rw [e] at hlt; simp at hlt)
        obtain ⟨xo, xc, c0, c1, c2, c3, c4, hp, hw64⟩ := acts_later hc hb H.out.bel hlt
        have hx20 := HSM.out _ (List.getElem_mem hlt)
        have HXP := hid (hp.below H.out.bel)
        have HXW := hid hw64
        have hd4 : decide ((j : Int) < (l.length : Int)) = true := by simp; omega
        generalize l[j].2.1 = xs at c1 HXW
        generalize l[j].2.2.1 = xt at c2 HXW
        generalize l[j].2.2.2.1 = xq at c3
        generalize l[j].2.2.2.2 = xp at c4 hx20 HXP
        clear hp hw64 hc c0
        go_wp2_with fail
        have H4 := hid (H.out.below (below_drew1 wr))
        have HA4 := hid (HA.out.below (below_drew1 wr))
        have HP4 := hid (HXP.out.below (below_drew1 wr))
        go_region_held3 (fun w' => w'.cell? ⟨b, off + j * 5 + 1, none⟩ = some (.int .i64 xs) ∧ w'.cell? ⟨b, off + j * 5 + 2, none⟩ = some (.int .i64 xt) ∧ w'.cell? ⟨b, off + j * 5 + 3, none⟩ = some (.int .i64 xq) ∧ w'.cell? ⟨b, off + j * 5 + 4, none⟩ = some (.slice xo xp.length xc)) (go_keep) (first | (go_at_call 12; refine (put_any W.heap.size W.heap.size mv X (xs, xt) HXW.out xq _ xp wr.drew H4.out.sg HP4.out (by omega)).mono ?_; rintro e w5 ⟨rfl, mv5, X5, s5, r5, v5, n5⟩; have H5 := hid (H4.out.turn s5 v5); have HA5 := hid (HA4.out.turn v5 n5); have hbl := H4.out.sg.bel v5; have k1 : w5.cell? ⟨b, off + j * 5 + 1, none⟩ = some (.int .i64 xs) := (hbl.cell (p := ⟨b, off + j * 5 + 1, none⟩) hb).trans c1; have k2 : w5.cell? ⟨b, off + j * 5 + 2, none⟩ = some (.int .i64 xt) := (hbl.cell (p := ⟨b, off + j * 5 + 2, none⟩) hb).trans c2; have k3 : w5.cell? ⟨b, off + j * 5 + 3, none⟩ = some (.int .i64 xq) := (hbl.cell (p := ⟨b, off + j * 5 + 3, none⟩) hb).trans c3; have k4 : w5.cell? ⟨b, off + j * 5 + 4, none⟩ = some (.slice xo xp.length xc) := (hbl.cell (p := ⟨b, off + j * 5 + 4, none⟩) hb).trans c4; clear s5 r5 v5 n5 hbl))
        go_wp2
        go_roundw
        case rel => exact ⟨j + 1, mv5, X5, by omega, by go_num, H5, HA5⟩
        case measure => simp [intOf]; omega
      · obtain rfl : j = l.length := by omega
        have hd4 : decide ((l.length : Int) < (l.length : Int)) = false := by simp
        clear hlt
        go_wp2
        have HSG := hid H.out.sg.ok
        have HA0 := hid (show ArrIs (chS X) 0 Z from ⟨HZ.out, fun i a hi ha hp => by omega⟩)
        generalize hRR : chS X = R at HSG HA0
        have HRR := hid hRR
        clear hRR
        go_loopw [8, 9, 10] (fun n al i wr => ∃ (iN nN aN : Nat), iN ≤ 6 ∧ i = .int .i64 iN ∧ n = .int .i64 nN ∧ al = .int .i64 aN ∧ Hid (nN = ofS R sp (gridS.take (iN * 3))) ∧ Hid (aN = countS R (gridS.take (iN * 3))) ∧ Hid (OnG W.heap.size W.heap.size mv X W wr) ∧ ∃ cs, Hid (AwayG W.heap.size mv X A cs wr) ∧ Hid (ArrIs R (iN * 3) cs)) (fun _ _ i _ => 6 - (intOf i).toNat)
        case atStart => exact ⟨0, 0, 0, by omega, rfl, rfl, rfl, hid rfl, hid rfl, H, Z, HA, HA0⟩
        case round =>
          clear H HA HA0
          obtain ⟨i, n, al, hi, rfl, rfl, rfl, HNN, HAL, H, cs, HA, HAR⟩ := hrel
          by_cases hlt : i < 6
          · have hd5 : decide ((i : Int) < 6) = true := by simp; omega
            go_wp2
            go_loopw [8, 9, 11] (fun n al a wr => ∃ (aN a1 nN alN : Nat), aN + 1 = a1 ∧ aN ≤ 3 ∧ a = .int .i64 a1 ∧ n = .int .i64 nN ∧ al = .int .i64 alN ∧ Hid (nN = ofS R sp (gridS.take (i * 3 + aN))) ∧ Hid (alN = countS R (gridS.take (i * 3 + aN))) ∧ Hid (OnG W.heap.size W.heap.size mv X W wr) ∧ ∃ cs, Hid (AwayG W.heap.size mv X A cs wr) ∧ Hid (ArrIs R (i * 3 + aN) cs)) (fun _ _ a _ => 4 - (intOf a).toNat)
            case atStart => exact ⟨0, 1, n, al, rfl, by omega, rfl, rfl, rfl, HNN, HAL, H, cs, HA, HAR⟩
            case round =>
              clear H HA HAR HNN HAL
              obtain ⟨a, a1, n2, al2, ha1, ha3, rfl, rfl, rfl, HNN, HAL, H, cs2, HA, HAR⟩ := hrel
              by_cases hla : a < 3
              · have hd6 : decide ((a1 : Int) ≤ 3) = true := by simp; omega
                have HW := hid (show W64 ((i : Int), (a1 : Int)) from ⟨wf_small (by omega) (by omega), wf_small (by omega) (by omega)⟩)
                obtain ⟨z, hz⟩ : ∃ z, cs2[i * 4 + a1]? = some z := ⟨_, Array.getElem?_eq_getElem (by rw [HAR.out.size]; omega)⟩
                have e0 : wr.cell? ⟨A, i * 4 + a1, none⟩ = some z := (cell_of_cells HA.out.obj).trans hz
                have f0 : wr.frozen? ⟨A, i * 4 + a1, none⟩ = false := free_of_cells HA.out.obj
                have HZ2 := hid hz
                obtain ⟨N, hN⟩ : ∃ N, (getS R ((i : Int), (a1 : Int))).length = N := ⟨_, rfl⟩
                have HN := hid hN
                have hN40 : N ≤ 40 := by
                  rw [← hN]
                  by_cases e : getS R ((i : Int), (a1 : Int)) = []
                  · rw [e]; simp
                  · exact HSG.out.few _ (getS_mem e)
                clear hz hN
                have b1 : (0 : Int) ≤ (i : Int) := by omega
                have b2 : (i : Int) < 6 := by omega
                have b3 : (0 : Int) ≤ (a1 : Int) := by omega
                have b4 : (a1 : Int) < 4 := by omega
                have b5 : a1 < 4 := by omega
                have H4 := hid (H.out.below (below_drew1 wr))
                go_wp2_with fail
                go_region_held3 (fun _ => True) (trivial) (first | (go_at_call 22; refine (next_any W.heap.size W.heap.size mv X ((i : Int), (a1 : Int)) HW.out wr.drew H4.out.sg).mono ?_; rintro e w5 ⟨rfl, rfl⟩; rw [HRR.out, HN.out]))
                have HA5 := hid ((HA.out.set (j := i * 4 + a1) (.int .i64 (N : Nat))).below (below_drew1 _))
                have H5 := hid ((H.out.setA HA.out HAZ.out (j := i * 4 + a1) (.int .i64 (N : Nat))).below (below_drew1 _))
                have HAR5 := hid (show ArrIs R (i * 3 + (a + 1)) (cs2.setIfInBounds (i * 4 + a1) (.int .i64 (N : Nat))) from by
                  have := HAR.out.put (by omega) hla
                  simp only [ha1] at this
                  rw [HN.out] at this
                  rw [ha1]
                  exact this)
                have e1 : ((wr.setCell ⟨A, i * 4 + a1, none⟩ (.int .i64 (N : Nat))).drew).cell? ⟨A, i * 4 + a1, none⟩ = some (.int .i64 (N : Nat)) := by
                  rw [cell_of_cells HA5.out.obj, Array.getElem?_setIfInBounds, if_pos rfl, if_pos (by rw [HAR.out.size]; omega)]
                have hgr : gridS[i * 3 + a]? = some ((i : Int), (a1 : Int)) := by
                  rw [gridS_at (by omega) hla, ← ha1]
                have hst1 := count_step R hgr
                have hst2 := ofS_step R sp hgr
                have hal18 := count_le R (i * 3 + a)
                have hn18 := of_le R sp (i * 3 + a)
                rw [← HAL.out] at hal18
                rw [← HNN.out] at hn18
                clear HA HAR H H4 e0 f0 HZ2 hgr
                generalize (wr.setCell ⟨A, i * 4 + a1, none⟩ (.int .i64 (N : Nat))).drew = w5 at *
                generalize cs2.setIfInBounds (i * 4 + a1) (.int .i64 (N : Nat)) = cs5 at *
                by_cases hN0 : N = 0
                · have he : getS R ((i : Int), (a1 : Int)) = [] := List.eq_nil_of_length_eq_zero (by rw [HN.out]; exact hN0)
                  rw [if_pos he] at hst1
                  rw [if_neg (fun e => e.2 he)] at hst2
                  have HT1 := hid (show al2 = countS R (gridS.take (i * 3 + (a + 1))) from by rw [HAL.out]; exact hst1.symm)
                  have HT2 := hid (show n2 = ofS R sp (gridS.take (i * 3 + (a + 1))) from by rw [HNN.out]; exact hst2.symm)
                  have hd7 : decide ((0 : Int) < (N : Int)) = false := by simp; omega
                  have hq7 : ¬ 0 < N := by omega
                  clear he hst1 hst2 hN0 HNN HAL
                  go_wp2
                  go_roundw
                  case rel => exact ⟨a + 1, a1 + 1, n2, al2, by omega, by omega, by go_num, rfl, rfl, HT2, HT1, H5, cs5, HA5, HAR5⟩
                  case measure => simp [intOf]; omega
                · have he : getS R ((i : Int), (a1 : Int)) ≠ [] := fun e => hN0 (by rw [← HN.out, e]; rfl)
                  rw [if_neg he] at hst1
                  have HT1 := hid (show al2 + 1 = countS R (gridS.take (i * 3 + (a + 1))) from by rw [HAL.out]; exact hst1.symm)
                  have hd7 : decide ((0 : Int) < (N : Int)) = true := by simp; omega
                  have hq7 : 0 < N := by omega
                  by_cases hisp : i = sp
                  · rw [if_pos ⟨by rw [hisp], he⟩] at hst2
                    have HT2 := hid (show n2 + 1 = ofS R sp (gridS.take (i * 3 + (a + 1))) from by rw [HNN.out]; exact hst2.symm)
                    have hd8 : ((i : Int) == (sp : Int)) = true := by rw [hisp]; simp
                    have hd9 : (i == sp) = true := by rw [hisp]; simp
                    have hd10 : decide (i = sp) = true := by simpa using hisp
                    clear hisp
                    clear he hst1 hst2 hN0 HNN HAL
                    go_wp2
                    go_roundw
                    case rel => exact ⟨a + 1, a1 + 1, n2 + 1, al2 + 1, by omega, by omega, by go_num, by go_num, by go_num, HT2, HT1, H5, cs5, HA5, HAR5⟩
                    case measure => simp [intOf]; omega
                  · rw [if_neg (fun e => hisp (Int.ofNat_inj.1 e.1))] at hst2
                    have HT2 := hid (show n2 = ofS R sp (gridS.take (i * 3 + (a + 1))) from by rw [HNN.out]; exact hst2.symm)
                    have hd8 : ((i : Int) == (sp : Int)) = false := by simp; omega
                    have hd9 : (i == sp) = false := by simp; omega
                    clear he hst1 hst2 hN0 HNN HAL
                    go_wp2
                    go_roundw
                    case rel => exact ⟨a + 1, a1 + 1, n2, al2 + 1, by omega, by omega, by go_num, rfl, by go_num, HT2, HT1, H5, cs5, HA5, HAR5⟩
                    case measure => simp [intOf]; omega
              · have hd6 : decide ((a1 : Int) ≤ 3) = false := by simp; omega
                have hq6 : ¬ a1 ≤ 3 := by omega
                obtain rfl : a = 3 := by omega
                go_wp2
                go_roundw
                case rel => exact ⟨i + 1, n2, al2, by omega, by go_num, rfl, rfl, hid (by rw [Nat.add_mul]; exact HNN.out), hid (by rw [Nat.add_mul]; exact HAL.out), H, cs2, HA, hid (by rw [Nat.add_mul]; exact HAR.out)⟩
                case measure => simp [intOf]; omega
          · have hd5 : decide ((i : Int) < 6) = false := by simp; omega
            have hi6 : i = 6 := by omega
            have HI := hid hi6
            have e18 : gridS.take (i * 3) = gridS := List.take_of_length_le (by rw [gridS_len, hi6]; decide)
            have HCL := hid (show (chS X).length = al from by
              rw [HRR.out, HAL.out, e18, count_grid HSG.out])
            have HDN := hid (show dropN (chS X) sp = n from by
              rw [HRR.out, HNN.out, e18, ofS_all HSG.out])
            obtain ⟨d, hdl⟩ : ∃ d, (dropS (chS X) sp).length = d := ⟨_, rfl⟩
            have hsum := drop_length (chS X) sp
            rw [hdl, HDN.out, HCL.out] at hsum
            have hal18 := okS_few HSG.out
            rw [← HRR.out, HCL.out] at hal18
            have HDL := hid hdl
            have HAF := hid (show ArrIs R 18 cs from by have := HAR.out; rw [HI.out] at this; exact this)
            have hlt2 : ¬ i < 6 := hlt
            clear hi6 hlt HNN HAL HAR hdl hi e18
            go_wp2_with fail
            refine (count_any W.heap.size W.heap.size mv X _ H.out.sg).mono ?_
            rintro e w6 ⟨rfl, rfl⟩
            rw [HCL.out]
            go_wp2_with fail
            refine (drop_any W.heap.size W.heap.size mv X sp _ H.out.sg).mono ?_
            rintro e w7 ⟨rfl, X7, s7, r7, v7, n7⟩
            rw [HDN.out]
            have H7 := hid (H.out.turn s7 v7)
            have HA7 := hid (HA.out.turn v7 n7)
            have HR7 := hid r7
            clear s7 r7 v7 n7 H HA
            subst hsum
            go_wp2_with fail
            refine (count_any W.heap.size W.heap.size mv X7 _ H7.out.sg).mono ?_
            rintro e w8 ⟨rfl, rfl⟩
            rw [HR7.out, HDL.out]
            go_wp2_with fail
            refine (drop_any W.heap.size W.heap.size mv X7 sp _ H7.out.sg).mono ?_
            rintro e w9 ⟨rfl, X9, s9, r9, v9, n9⟩
            rw [HR7.out] at r9 ⊢
            rw [(drop_again (chS X) sp).1] at r9
            rw [(drop_again (chS X) sp).2]
            have H9 := hid (H7.out.turn s9 v9)
            have HA9 := hid (HA7.out.turn v9 n9)
            have HR9 := hid (show chS X9 = dropS R sp from by rw [r9, HRR.out])
            clear s9 r9 v9 n9 H7 HA7
            go_wp2
            go_loopw [12] (fun z wr => ∃ iN : Nat, iN ≤ 6 ∧ z = .int .i64 iN ∧ Hid (OnG W.heap.size W.heap.size mv X9 W wr) ∧ Hid (AwayG W.heap.size mv X9 A cs wr)) (fun z _ => 6 - (intOf z).toNat)
            case atStart => exact ⟨0, by omega, rfl, H9, HA9⟩
            case round =>
              clear H9 HA9 hlt2 hd5
              obtain ⟨i2, hi2, rfl, H, HA⟩ := hrel
              by_cases hlt : i2 < 6
              · have hd5 : decide ((i2 : Int) < 6) = true := by simp; omega
                go_wp2
                go_loopw [13] (fun z wr => ∃ aN a1 : Nat, aN + 1 = a1 ∧ aN ≤ 3 ∧ z = .int .i64 a1 ∧ Hid (OnG W.heap.size W.heap.size mv X9 W wr) ∧ Hid (AwayG W.heap.size mv X9 A cs wr)) (fun z _ => 4 - (intOf z).toNat)
                case atStart => exact ⟨0, 1, rfl, by omega, rfl, H, HA⟩
                case round =>
                  clear H HA
                  obtain ⟨a, a1, ha1, ha3, rfl, H, HA⟩ := hrel
                  by_cases hla : a < 3
                  · have hd6 : decide ((a1 : Int) ≤ 3) = true := by simp; omega
                    have HW := hid (show W64 ((i2 : Int), (a1 : Int)) from ⟨wf_small (by omega) (by omega), wf_small (by omega) (by omega)⟩)
                    obtain ⟨N, hN⟩ : ∃ N, (getS R ((i2 : Int), (a1 : Int))).length = N := ⟨_, rfl⟩
                    have e0 : wr.cell? ⟨A, i2 * 4 + a1, none⟩ = some (.int .i64 (N : Nat)) := by
                      have := HAF.out.has i2 a hlt hla (by omega)
                      simp only [ha1] at this
                      rw [hN] at this
                      exact (cell_of_cells HA.out.obj).trans this
                    have b1 : (0 : Int) ≤ (i2 : Int) := by omega
                    have b2 : (i2 : Int) < 6 := by omega
                    have b3 : (0 : Int) ≤ (a1 : Int) := by omega
                    have b4 : (a1 : Int) < 4 := by omega
                    have b5 : a1 < 4 := by omega
                    by_cases hisp : i2 = sp
                    · have HQ := hid (next_q W.heap.size W.heap.size mv X9 ((i2 : Int), (a1 : Int)) HW.out 0 wr H.out.sg (by
                        rw [HR9.out, getS_drop, if_pos (by show (i2 : Int) = sp; rw [hisp])]
                        rfl))
                      have hd8 : ((i2 : Int) == (sp : Int)) = true := by rw [hisp]; simp
                      have hd9 : (i2 == sp) = true := by rw [hisp]; simp
                      have hd10 : decide (i2 = sp) = true := by simpa using hisp
                      have hd11 : ((i2 : Int) != (sp : Int)) = false := by rw [hisp]; simp
                      have hd12 : (i2 != sp) = false := by rw [hisp]; simp
                      clear hisp hN
                      go_wp2_with fail
                      go_quiet ((go_at_call 22; exact HQ.out _))
                      have H5 := hid (H.out.below (below_drew wr nq))
                      have HA5 := hid (HA.out.below (below_drew wr nq))
                      clear HQ H HA e0
                      go_wp2
                      go_roundw
                      case rel => exact ⟨a + 1, a1 + 1, by omega, by omega, by go_num, H5, HA5⟩
                      case measure => simp [intOf]; omega
                    · have HQ := hid (next_q W.heap.size W.heap.size mv X9 ((i2 : Int), (a1 : Int)) HW.out N wr H.out.sg (by
                        rw [HR9.out, getS_drop, if_neg (by show ¬ (i2 : Int) = sp; omega)]
                        exact hN))
                      have hd8 : ((i2 : Int) == (sp : Int)) = false := by simp; omega
                      have hd9 : (i2 == sp) = false := by simp; omega
                      have hd11 : ((i2 : Int) != (sp : Int)) = true := by simp; omega
                      have hd12 : (i2 != sp) = true := by simp; omega
                      clear hN
                      go_wp2_with fail
                      go_quiet ((go_at_call 22; exact HQ.out _))
                      have H5 := hid (H.out.below (below_drew wr nq))
                      have HA5 := hid (HA.out.below (below_drew wr nq))
                      clear HQ H HA e0
                      go_wp2
                      go_roundw
                      case rel => exact ⟨a + 1, a1 + 1, by omega, by omega, by go_num, H5, HA5⟩
                      case measure => simp [intOf]; omega
                  · have hd6 : decide ((a1 : Int) ≤ 3) = false := by simp; omega
                    have hq6 : ¬ a1 ≤ 3 := by omega
                    go_wp2
                    go_roundw
                    case rel => exact ⟨i2 + 1, by omega, by go_num, H, HA⟩
                    case measure => simp [intOf]; omega
              · have hd5 : decide ((i2 : Int) < 6) = false := by simp; omega
                go_wp2_with fail
                refine (awake_calls _).mono ?_
                rintro e w4 ⟨rfl, hb4⟩
                have HB4 := hid (H.out.bel.trans (hb4.mono H.out.sg.low))
                clear hb4
                go_wp2
                go_ret
                exact ⟨rfl, HB4.out⟩
end Go.Proofs.Ytejkboahjfcdcaa
