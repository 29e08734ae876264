/- Laid together: MPlace MRuns. -/
import Derived.Test.YtfimoobgbodbmaaGreatDoorLis
import Derived.Test.YtfimoobgbodbmaaGreatDoorGF
import Derived.Test.YtfimoobgbodbmaaGreatDoorAppAny
import Derived.Test.YtfimoobgbodbmaaGreatDoorGStab
import Derived.Deep.RegionHeld3
/-! byPlaces of the program: two runs that are in order are merged. -/
namespace Go.Proofs.YtfimoobgbodbmaaGreatDoor
open Go.RowKit
set_option linter.unusedVariables false
set_option maxRecDepth 100000

set_option maxHeartbeats 4000000 in
theorem byPlaces_any (a b : Value) (la lb : List KV) (w : World) (ha : Prs w a la) (hb : Prs w b lb) (ra : Rising la) (rb : Rising lb) (hn : la.length + lb.length ≤ 1000) :
    Calls Tryz.prog 147 #[a, b] w (PairsNew w (srt (la ++ lb))) := by
  have HA := hid ha
  have HB := hid hb
  have RA := hid ra
  have RB := hid rb
  obtain ⟨ao, ca, rfl, a1, a2, a3, -⟩ := ha
  obtain ⟨bo, cb, rfl, b1, b2, b3, -⟩ := hb
  unfold maxLen at a2 b2
  clear a3 b3 ra rb
  obtain ⟨i0, hi, hz0, hz1, hz2⟩ := info_parts Tryz.infoP
  go_enter Tryz.func147, Tryz.ntmps147
  go_wp2_with (at_make; refine wpList_make_own _ rfl _ _ 51 rfl w.heap.size 105 i0 _ 2 Tryz.underlying51 hi hz0 hz1 .i64 .i64 _ (la.length + lb.length) rfl rfl (by omega) (by rw [hz2]; omega) (by unfold maxLen; omega) (Nat.le_refl _) ?_; intro w1 ho1 hg1)
  have HO1 := hid ho1
  have HB1 := hid (show Below w.heap.size w w1 from (Below.refl _ _).grown hg1 (Nat.le_refl _) (by intro q hq; cases hq))
  clear ho1 hg1
  go_loopw [5, 6, 7] (fun u i j wr => ∃ (M : List KV) (p q : Nat), p ≤ la.length ∧ q ≤ lb.length ∧ i = .int .i64 p ∧ j = .int .i64 q ∧ Hid (Taken la lb M p q) ∧ wr.ownsRow w.heap.size 105 2 u (p + q) (fl encP M) ∧ Below w.heap.size w wr) (fun _ i j _ => la.length - (intOf i).toNat + (lb.length - (intOf j).toNat))
  case atStart => exact ⟨[], 0, 0, by omega, by omega, rfl, rfl, hid (Taken.start la lb), HO1.out, HB1.out⟩
  case round =>
    clear HO1 HB1
    obtain ⟨M, p, q, hp, hq, rfl, rfl, HT, ho, hbel⟩ := hrel
    have HO := hid ho
    have hsz := hbel.size
    clear ho
    by_cases hlpq : p < la.length ∧ q < lb.length
    · obtain ⟨hlp, hlq⟩ := hlpq
      have d1 : decide ((p : Int) < (la.length : Int)) = true := by simp; omega
      have d2 : decide ((q : Int) < (lb.length : Int)) = true := by simp; omega
      obtain ⟨ba, oa, x, hx, rfl, hba, c1, c2⟩ := Prs.cell? (HA.out.below hbel) hlp
      obtain ⟨bb, ob, y, hy, rfl, hbb, e1, e2⟩ := Prs.cell? (HB.out.below hbel) hlq
      have HX := hid hx
      have HY := hid hy
      clear hx hy
      obtain ⟨xk, xv⟩ := x
      obtain ⟨yk, yv⟩ := y
      simp only at c1 c2 e1 e2
      obtain ⟨z, hz⟩ : ∃ z, kLt yk xk = z := ⟨_, rfl⟩
      have hbl : Op.bytesLess yk.toList xk.toList = z := by rw [ByteArray.toList_eq, ByteArray.toList_eq]; exact hz
      have HZ := hid hz
      clear hz
      cases z with
      | true =>
        have HT2 := hid (HT.out.right RA.out RB.out HX.out HY.out HZ.out)
        go_wp2_with fail
        go_quiet (fail)
        rename Nat => nq
        have HOd := hid (owns_below HO.out (below_drew wr nq))
        have HBd := hid (below_then hbel (below_drew wr nq) hbel.size)
        clear HO hbel HT
        go_wp2_with (at_builtin; refine wpList_append_own _ rfl _ _ 51 rfl w.heap.size 105 i0 (.agg #[.string ⟨#[]⟩, .string ⟨#[]⟩]) 2 32 Tryz.underlying51 hi hz0 hz1 hz2 rfl (by decide) _ (p + q) _ rfl (HOd.out.alloc _) ⟨wr.heap.size, 0, none⟩ 1 1 [.string yk, .string yv] rfl rfl (two_new (wr.drewN nq) _ _ _) (by intro u hu; simp at hu; rcases hu with rfl | rfl <;> rfl) (by unfold maxLen; omega) (by omega) (by simp; omega) ?_; intro v3 w3 ho3 hg3 _)
        have HB3 := hid ((HBd.out.alloc HBd.out.size _).grown hg3 (by simp; omega) (by intro q hq; exact owns_base HOd.out hq))
        have HO3 := hid (show w3.ownsRow w.heap.size 105 2 v3 (p + (q + 1)) (fl encP (M ++ [(yk, yv)])) by rw [fl_append, ← Nat.add_assoc]; exact ho3)
        clear ho3 hg3 HOd HBd c1 c2 e1 e2
        go_wp2
        go_roundw
        case rel => exact ⟨_, p, q + 1, by omega, by omega, rfl, by go_num, HT2, HO3.out, HB3.out⟩
        case measure => simp [intOf]; omega
      | false =>
        have HT2 := hid (HT.out.left RA.out RB.out HX.out HY.out HZ.out)
        go_wp2_with fail
        go_quiet (fail)
        rename Nat => nq
        have HOd := hid (owns_below HO.out (below_drew wr nq))
        have HBd := hid (below_then hbel (below_drew wr nq) hbel.size)
        clear HO hbel HT
        go_wp2_with (at_builtin; refine wpList_append_own _ rfl _ _ 51 rfl w.heap.size 105 i0 (.agg #[.string ⟨#[]⟩, .string ⟨#[]⟩]) 2 32 Tryz.underlying51 hi hz0 hz1 hz2 rfl (by decide) _ (p + q) _ rfl (HOd.out.alloc _) ⟨wr.heap.size, 0, none⟩ 1 1 [.string xk, .string xv] rfl rfl (two_new (wr.drewN nq) _ _ _) (by intro u hu; simp at hu; rcases hu with rfl | rfl <;> rfl) (by unfold maxLen; omega) (by omega) (by simp; omega) ?_; intro v3 w3 ho3 hg3 _)
        have HB3 := hid ((HBd.out.alloc HBd.out.size _).grown hg3 (by simp; omega) (by intro q hq; exact owns_base HOd.out hq))
        have HO3 := hid (show w3.ownsRow w.heap.size 105 2 v3 (p + 1 + q) (fl encP (M ++ [(xk, xv)])) by rw [fl_append, show p + 1 + q = p + q + 1 by omega]; exact ho3)
        clear ho3 hg3 HOd HBd c1 c2 e1 e2
        go_wp2
        go_roundw
        case rel => exact ⟨_, p + 1, q, by omega, by omega, by go_num, rfl, HT2, HO3.out, HB3.out⟩
        case measure => simp [intOf]; omega
    · have HD := hid (HT.out.done RA.out RB.out (by omega))
      have hml : M.length = p + q := HT.out.2
      clear HT
      obtain ⟨ao2, hao2⟩ : ∃ ao2, (if ca = p then ao else Option.map (fun x => x.add (p * 2)) ao) = ao2 := ⟨_, rfl⟩
      obtain ⟨bo2, hbo2⟩ : ∃ bo2, (if cb = q then bo else Option.map (fun x => x.add (q * 2)) bo) = bo2 := ⟨_, rfl⟩
      have HFA := hid ((HA.out.below hbel).far hp hao2)
      have HFB := hid (HB.out.far hq hbo2)
      by_cases hlp : p < la.length
      case' pos =>
        have d1 : decide ((p : Int) < (la.length : Int)) = true := by simp; omega
        have d2 : decide ((q : Int) < (lb.length : Int)) = false := by simp; omega
        have d3 : decide (q < lb.length) = false := by simp; omega
        rw [if_neg (by omega)] at hao2
      case' neg =>
        have d1 : decide ((p : Int) < (la.length : Int)) = false := by simp; omega
        have d3 : decide (p < la.length) = false := by simp; omega
      all_goals
        clear hlpq hml
        go_wp2_with (first
          | (at_builtin; refine wpList_append_own_any _ rfl _ _ 51 rfl w.heap.size 105 i0 (.agg #[.string ⟨#[]⟩, .string ⟨#[]⟩]) 2 32 Tryz.underlying51 hi hz0 hz1 hz2 rfl (by decide) _ (p + q + (la.length - p)) _ rfl HO3.out bo2 (lb.length - q) (cb - q) (fl encP (lb.drop q)) rfl (by rw [fl_length encP_len, List.length_drop]) HFB3.out.noneOf (HFB3.out.news encP_len (by decide) (Below.refl _ _)) (fl_one encP_one _) (by unfold maxLen; omega) (by omega) (by omega) ?_; intro v4 w4 ho4 hg4)
          | (at_builtin; refine wpList_append_own_any _ rfl _ _ 51 rfl w.heap.size 105 i0 (.agg #[.string ⟨#[]⟩, .string ⟨#[]⟩]) 2 32 Tryz.underlying51 hi hz0 hz1 hz2 rfl (by decide) _ (p + q) _ rfl HO.out ao2 (la.length - p) (ca - p) (fl encP (la.drop p)) rfl (by rw [fl_length encP_len, List.length_drop]) HFA.out.noneOf (HFA.out.news encP_len (by decide) (Below.refl _ _)) (fl_one encP_one _) (by unfold maxLen; omega) (by omega) (by omega) ?_; intro v3 w3 ho3 hg3
             have HB3 := hid (hbel.grown hg3 (by omega) (by intro q hq; exact owns_base HO.out hq))
             have HO3 := hid (show w3.ownsRow w.heap.size 105 2 v3 (p + q + (la.length - p)) (fl encP (M ++ la.drop p)) by rw [fl_append]; exact ho3)
             have hsz3 := HB3.out.size
             have HFB3 := hid (HFB.out.below HB3.out)
             clear ho3 hg3 HO hbel HFA hao2))
        have HB4 := hid (HB3.out.grown hg4 (by omega) (by intro q hq; exact owns_base HO3.out hq))
        have HO4 := hid (show w4.ownsRow w.heap.size 105 2 v4 (srt (la ++ lb)).length (fl encP (srt (la ++ lb))) by
          rw [length_srt, List.length_append, ← HD.out, fl_append, show la.length + lb.length = p + q + (la.length - p) + (lb.length - q) by omega]
          exact ho4)
        clear ho4 hg4 HO3 HB3 HFB3 HFB hbo2 HD
        go_ret
        exact ⟨_, rfl, HO4.out, HB4.out⟩
end Go.Proofs.YtfimoobgbodbmaaGreatDoor
/-! Runs and Two of the program: the stable sort of all runs, one behind the other. -/
namespace Go.Proofs.YtfimoobgbodbmaaGreatDoor
open Go.RowKit
set_option linter.unusedVariables false
set_option maxRecDepth 100000

/-- What Runs does, where there are fewer runs than k. -/
def RunsOk (k : Nat) : Prop := ∀ (v : Value) (ls : List (List KV)) (w : World), ls.length < k → Lis w v ls → ls.flatten.length ≤ 1000 → Calls Tryz.prog 126 #[v] w (PairsNew w (srt ls.flatten))

set_option maxHeartbeats 4000000 in
theorem runs_none (v : Value) (w : World) (hv : Lis w v []) : Calls Tryz.prog 126 #[v] w (PairsNew w (srt ([] : List (List KV)).flatten)) := by
  obtain ⟨ao, ca, rfl, a1, a2, -⟩ := hv.slice
  clear hv
  go_enter Tryz.func126, Tryz.ntmps126
  go_wp2
  go_ret
  exact ⟨_, rfl, World.ownsRow_nil _ _ _ _, Below.refl _ _⟩
set_option maxHeartbeats 4000000 in
theorem runs_one (v : Value) (l : List KV) (w : World) (hv : Lis w v [l]) (hn : l.length ≤ 1000) : Calls Tryz.prog 126 #[v] w (PairsNew w (srt [l].flatten)) := by
  obtain ⟨ao, ca, rfl, a1, a2, -⟩ := hv.slice
  obtain ⟨b, off, l', xo, xc, hl, rfl, hb, c1, hp⟩ := hv.cell (j := 0) (by simp)
  simp only [List.getElem?_cons_zero, Option.some.injEq] at hl
  subst hl
  have HP := hid hp
  have HE := hid (show [l].flatten = l by simp)
  clear hv hp
  simp only [Nat.add_zero, List.length_singleton] at c1 a1 ⊢
  go_enter Tryz.func126, Tryz.ntmps126
  go_wp2_with fail
  refine (sort_any _ l w HP.out hn).mono ?_
  rintro e w1 ⟨u, rfl, ho, hb1⟩
  have HO := hid ho
  have HB := hid hb1
  clear ho hb1
  go_wp2
  go_ret
  exact ⟨_, rfl, by rw [HE.out]; exact HO.out, HB.out⟩
set_option maxHeartbeats 8000000 in
theorem runs_more (v : Value) (ls : List (List KV)) (w : World) (IH : RunsOk ls.length) (h2 : 2 ≤ ls.length) (hv : Lis w v ls) (hn : ls.flatten.length ≤ 1000) : Calls Tryz.prog 126 #[v] w (PairsNew w (srt ls.flatten)) := by
  have HV := hid hv
  have HIH := hid IH
  obtain ⟨ao, ca, rfl, a1, a2, a3⟩ := hv.slice
  unfold maxLen at a2
  clear hv IH a3
  obtain ⟨h, hh⟩ : ∃ h, ls.length / 2 = h := ⟨_, rfl⟩
  have hhi : (ls.length : Int) / 2 = (h : Int) := by omega
  have hl0 : ((ls.length : Int) == 0) = false := beq_eq_false_iff_ne.2 (by omega)
  have hl1 : ((ls.length : Int) == 1) = false := beq_eq_false_iff_ne.2 (by omega)
  have hh1 : 1 ≤ h := by omega
  have hh2 : h < ls.length := by omega
  have hcap : ¬ ca = h := by omega
  have hk0 : (0 : Int) ≤ (h : Int) := by omega
  have hkn : (h : Int) ≤ (ls.length : Int) := by omega
  have hkc : (h : Int) ≤ (ca : Int) := by omega
  obtain ⟨ao2, hao2⟩ : ∃ ao2, Option.map (fun x => x.add h) ao = ao2 := ⟨_, rfl⟩
  have HL := hid (HV.out.take (k := h) (by omega))
  have HR := hid (HV.out.far (ao2 := ao2) (k := h) (by omega) (by rw [if_neg hcap]; exact hao2))
  have HF := hid (runs_halves ls h)
  have hsum : (ls.take h).flatten.length + (ls.drop h).flatten.length = ls.flatten.length := by
    rw [← List.length_append, ← List.flatten_append, List.take_append_drop]
  have HLl := hid (show (ls.take h).length < ls.length by rw [List.length_take]; omega)
  have HRl := hid (show (ls.drop h).length < ls.length by rw [List.length_drop]; omega)
  clear hh
  have HLd := hid (HL.out.below (below_drew1 w))
  have HRd := hid (HR.out.below (below_drew1 w))
  clear HL HR
  generalize ls.take h = A at HLd HF HLl hsum
  generalize ls.drop h = B at HRd HF HRl hsum
  go_enter Tryz.func126, Tryz.ntmps126
  go_wp2_with fail
  go_region_held3 (fun _ => True) (trivial)
    (first | (go_at_call 147; refine (byPlaces_any _ _ (srt A.flatten) (srt B.flatten) w2 (Reads.own encP_len (by decide) (owns_below HO1.out HB2.out)) (Reads.own encP_len (by decide) HO2.out) (rising_srt _) (rising_srt _) (by rw [length_srt, length_srt]; omega)).mono ?_; rintro e w3 ⟨u3, rfl, ho3, hb3⟩; have HO3 := hid ho3; have HB3 := hid hb3; clear ho3 hb3)
           | (go_at_call 126; refine (HIH.out _ B w1 HRl.out (HRd.out.below HB1.out) (by omega)).mono ?_; rintro e w2 ⟨u2, rfl, ho2, hb2⟩; have HO2 := hid ho2; have HB2 := hid hb2; clear ho2 hb2)
           | (go_at_call 126; refine (HIH.out _ A w.drew HLl.out HLd.out (by omega)).mono ?_; rintro e w1 ⟨u1, rfl, ho1, hb1⟩; have HO1 := hid ho1; have HB1 := hid hb1; clear ho1 hb1))
  all_goals
    have HE := hid (below_then (below_then (below_then (below_drew1 w) HB1.out (below_drew1 w).size) HB2.out (below_then (below_drew1 w) HB1.out (below_drew1 w).size).size) HB3.out (below_then (below_then (below_drew1 w) HB1.out (below_drew1 w).size) HB2.out (below_then (below_drew1 w) HB1.out (below_drew1 w).size).size).size)
    have HO4 := hid (owns_mono HO3.out (Nat.le_trans HB1.out.size HB2.out.size))
    rw [HF.out] at HO4
    go_wp2
    go_ret
    exact ⟨_, rfl, HO4.out, HE.out⟩
theorem runs_ok : ∀ k, RunsOk k
  | 0 => fun v ls w h => absurd h (by omega)
  | k + 1 => fun v ls w h hv hn => by
    have ih := runs_ok k
    match ls, h, hv, hn with
    | [], _, hv, _ => exact runs_none v w hv
    | [l], _, hv, hn => exact runs_one v l w hv (by simpa using hn)
    | l :: m :: ls, h, hv, hn =>
      refine runs_more v (l :: m :: ls) w ?_ (by simp) hv hn
      intro v' ls' w' h' hv' hn'
      exact ih v' ls' w' (by omega) hv' hn'
theorem runs_any (v : Value) (ls : List (List KV)) (w : World) (hv : Lis w v ls) (hn : ls.flatten.length ≤ 1000) : Calls Tryz.prog 126 #[v] w (PairsNew w (srt ls.flatten)) :=
  runs_ok (ls.length + 1) v ls w (by omega) hv hn

end Go.Proofs.YtfimoobgbodbmaaGreatDoor
