/- Runs and Two of the program: the stable sort of all runs, one behind the other. -/
import Derived.Test.YtafbofcenbfkeaaSPair
import Derived.Test.YtafbofcenbfkeaaMPlace
import Derived.Deep.RegionHeld3
namespace Go.Proofs.Ytafbofcenbfkeaa
open Go.RowKit
set_option linter.unusedVariables false

/-- What Runs does, where there are fewer runs than k. -/
def RunsOk (k : Nat) : Prop := ∀ (v : Value) (ls : List (List KV)) (w : World), ls.length < k → Lis w v ls → ls.flatten.length ≤ 1000 → Calls Try.prog 9 #[v] w (PairsNew w (srt ls.flatten))

set_option maxHeartbeats 4000000 in
theorem runs_none (v : Value) (w : World) (hv : Lis w v []) : Calls Try.prog 9 #[v] w (PairsNew w (srt ([] : List (List KV)).flatten)) := by
  obtain ⟨ao, ca, rfl, a1, a2, -⟩ := hv.slice
  clear hv
  go_enter Try.func9, Try.ntmps9
  go_wp2
  go_ret
  exact ⟨_, rfl, World.ownsRow_nil _ _ _ _, Below.refl _ _⟩
set_option maxHeartbeats 4000000 in
theorem runs_one (v : Value) (l : List KV) (w : World) (hv : Lis w v [l]) (hn : l.length ≤ 1000) : Calls Try.prog 9 #[v] w (PairsNew w (srt [l].flatten)) := by
  obtain ⟨ao, ca, rfl, a1, a2, -⟩ := hv.slice
  obtain ⟨b, off, l', xo, xc, hl, rfl, hb, c1, hp⟩ := hv.cell (j := 0) (by simp)
  simp only [List.getElem?_cons_zero, Option.some.injEq] at hl
  subst hl
  have HP := hid hp
  have HE := hid (show [l].flatten = l by simp)
  clear hv hp
  simp only [Nat.add_zero, List.length_singleton] at c1 a1 ⊢
  go_enter Try.func9, Try.ntmps9
  go_wp2_with fail
  refine (sort_any _ l w HP.out hn).mono ?_
  rintro e w1 ⟨u, rfl, ho, hb1⟩
  have HO := hid ho
  have HB := hid hb1
  clear ho hb1
  go_wp2
  go_ret
  exact ⟨_, rfl, by rw [HE.out]; exact HO.out, HB.out⟩
set_option maxHeartbeats 8000000 in
theorem runs_more (v : Value) (ls : List (List KV)) (w : World) (IH : RunsOk ls.length) (h2 : 2 ≤ ls.length) (hv : Lis w v ls) (hn : ls.flatten.length ≤ 1000) : Calls Try.prog 9 #[v] w (PairsNew w (srt ls.flatten)) := by
  have HV := hid hv
  have HIH := hid IH
  obtain ⟨ao, ca, rfl, a1, a2, a3⟩ := hv.slice
  unfold maxLen at a2
  clear hv IH a3
  obtain ⟨h, hh⟩ : ∃ h, ls.length / 2 = h := ⟨_, rfl⟩
  have hhi : (ls.length : Int) / 2 = (h : Int) := by omega
  have hl0 : ((ls.length : Int) == 0) = false := beq_eq_false_iff_ne.2 (by omega)
  have hl1 : ((ls.length : Int) == 1) = false := beq_eq_false_iff_ne.2 (by omega)
  have hh1 : 1 ≤ h := by omega
  have hh2 : h < ls.length := by omega
  have hcap : ¬ ca = h := by omega
  have hk0 : (0 : Int) ≤ (h : Int) := by omega
  have hkn : (h : Int) ≤ (ls.length : Int) := by omega
  have hkc : (h : Int) ≤ (ca : Int) := by omega
  obtain ⟨ao2, hao2⟩ : ∃ ao2, Option.map (fun x => x.add h) ao = ao2 := ⟨_, rfl⟩
  have HL := hid (HV.out.take (k := h) (by omega))
  have HR := hid (HV.out.far (ao2 := ao2) (k := h) (by omega) (by rw [if_neg hcap]; exact hao2))
  have HF := hid (runs_halves ls h)
  have hsum : (ls.take h).flatten.length + (ls.drop h).flatten.length = ls.flatten.length := by
    rw [← List.length_append, ← List.flatten_append, List.take_append_drop]
  have HLl := hid (show (ls.take h).length < ls.length by rw [List.length_take]; omega)
  have HRl := hid (show (ls.drop h).length < ls.length by rw [List.length_drop]; omega)
  clear hh
  have HLd := hid (HL.out.below (below_drew1 w))
  have HRd := hid (HR.out.below (below_drew1 w))
  clear HL HR
  generalize ls.take h = A at HLd HF HLl hsum
  generalize ls.drop h = B at HRd HF HRl hsum
  go_enter Try.func9, Try.ntmps9
  go_wp2_with fail
  go_region_held3 (fun _ => True) (trivial)
    (first | (go_at_call 23; refine (byPlaces_any _ _ (srt A.flatten) (srt B.flatten) w2 (Reads.own encP_len (by decide) (owns_below HO1.out HB2.out)) (Reads.own encP_len (by decide) HO2.out) (rising_srt _) (rising_srt _) (by rw [length_srt, length_srt]; omega)).mono ?_; rintro e w3 ⟨u3, rfl, ho3, hb3⟩; have HO3 := hid ho3; have HB3 := hid hb3; clear ho3 hb3)
           | (go_at_call 9; refine (HIH.out _ B w1 HRl.out (HRd.out.below HB1.out) (by omega)).mono ?_; rintro e w2 ⟨u2, rfl, ho2, hb2⟩; have HO2 := hid ho2; have HB2 := hid hb2; clear ho2 hb2)
           | (go_at_call 9; refine (HIH.out _ A w.drew HLl.out HLd.out (by omega)).mono ?_; rintro e w1 ⟨u1, rfl, ho1, hb1⟩; have HO1 := hid ho1; have HB1 := hid hb1; clear ho1 hb1))
  all_goals
    have HE := hid (below_then (below_then (below_then (below_drew1 w) HB1.out (below_drew1 w).size) HB2.out (below_then (below_drew1 w) HB1.out (below_drew1 w).size).size) HB3.out (below_then (below_then (below_drew1 w) HB1.out (below_drew1 w).size) HB2.out (below_then (below_drew1 w) HB1.out (below_drew1 w).size).size).size)
    have HO4 := hid (owns_mono HO3.out (Nat.le_trans HB1.out.size HB2.out.size))
    rw [HF.out] at HO4
    go_wp2
    go_ret
    exact ⟨_, rfl, HO4.out, HE.out⟩
theorem runs_ok : ∀ k, RunsOk k
  | 0 => fun v ls w h => absurd h (by omega)
  | k + 1 => fun v ls w h hv hn => by
    have ih := runs_ok k
    match ls, h, hv, hn with
    | [], _, hv, _ => exact runs_none v w hv
    | [l], _, hv, hn => exact runs_one v l w hv (by simpa using hn)
    | l :: m :: ls, h, hv, hn =>
      refine runs_more v (l :: m :: ls) w ?_ (by simp) hv hn
      intro v' ls' w' h' hv' hn'
      exact ih v' ls' w' (by omega) hv' hn'
theorem runs_any (v : Value) (ls : List (List KV)) (w : World) (hv : Lis w v ls) (hn : ls.flatten.length ≤ 1000) : Calls Try.prog 9 #[v] w (PairsNew w (srt ls.flatten)) :=
  runs_ok (ls.length + 1) v ls w (by omega) hv hn

set_option maxHeartbeats 4000000 in
theorem two_any (a b : Value) (la lb : List KV) (w : World) (ha : Prs w a la) (hb : Prs w b lb) (hn : la.length + lb.length ≤ 1000) : Calls Try.prog 14 #[a, b] w (PairsNew w (srt (la ++ lb))) := by
  have HL := hid (lis_two ha hb)
  obtain ⟨ao, ca, rfl, -⟩ := ha
  obtain ⟨bo, cb, rfl, -⟩ := hb
  have HE := hid (show [la, lb].flatten = la ++ lb by simp)
  go_enter Try.func14, Try.ntmps14
  go_wp2_with fail
  refine (runs_any _ [la, lb] _ HL.out (by rw [HE.out, List.length_append]; omega)).mono ?_
  rintro e w1 ⟨u, rfl, ho, hb1⟩
  rw [HE.out] at ho
  have HO := hid (owns_mono ho (alloc_one _ _).size)
  have HB := hid (below_then (alloc_one w _) hb1 (alloc_one w _).size)
  clear ho hb1
  go_wp2
  go_ret
  exact ⟨_, rfl, HO.out, HB.out⟩
end Go.Proofs.Ytafbofcenbfkeaa
