/- Each and Combine of fold; FoldEmpty: of no pairs, and of a program that does nothing, nothing is told. -/
import Derived.Test.YtobgobmfhgagbaaGreatDoorFFold
import Derived.Test.YtobgobmfhgagbaaGreatDoorVArg
import Derived.Test.YtobgobmfhgagbaaGreatDoorSArg
import Derived.Test.YtobgobmfhgagbaaGreatDoorVLaidV
namespace Go.Proofs.YtobgobmfhgagbaaGreatDoor
open Go.RowKit Go.Lib
set_option linter.unusedVariables false
set_option maxRecDepth 100000

/-- What may be handed to a fold: numbers of 64 bits, no more than this. -/
structure FitsF (l : List Inst) (ps : List KV) : Prop where
  nums : ∀ x ∈ l, I64 x.2.1
  len : l.length ≤ 100
  few : ps.length ≤ 100
  size : ∀ x ∈ ps, x.1.size ≤ maxLen ∧ x.2.size ≤ maxLen
theorem each_any (w : World) (v u : Value) (l : List Inst) (ps : List KV) (f : Int) (T : Tabs w) (hv : Co w v l) (hp : Prs w u ps) (hF : FitsF l ps) (hf : I64 f) :
    Calls Tryz.prog 6 #[v, u, .int .i64 f] w (ToldNew w (eachL l ps f)) := by
  have H := hid (foldBy_any false w v u l ps f T hv hp hF.nums hF.len hF.few hF.size hf)
  have e : mayFn false = .func (.func 13) #[] #[] := rfl
  rw [e] at H
  unfold eachL
  generalize foldL false l ps f = Q at H ⊢
  clear T hv hp hF e
  go_enter Tryz.func6, Tryz.ntmps6
  go_wp2_with fail
  refine H.out.mono ?_
  rintro e w1 ⟨x, rfl, ho, hb⟩
  have HO := hid ho
  have HB := hid hb
  clear ho hb
  go_wp2
  go_ret2
  exact ⟨x, rfl, HO.out, HB.out⟩
theorem combine_any (w : World) (v u : Value) (l : List Inst) (ps : List KV) (f : Int) (T : Tabs w) (hv : Co w v l) (hp : Prs w u ps) (hF : FitsF l ps) (hf : I64 f) :
    Calls Tryz.prog 7 #[v, u, .int .i64 f] w (ToldNew w (combineL l ps f)) := by
  have H := hid (foldBy_any true w v u l ps f T hv hp hF.nums hF.len hF.few hF.size hf)
  have e : mayFn true = .func (.func 15) #[] #[] := rfl
  have HSo := hid (sort_any u ps w hp (by have := hF.few; omega))
  rw [e] at H
  obtain ⟨ao, ca, rfl, -, -, -, -⟩ := hv
  have hll := hF.len
  clear T hp hF e
  unfold combineL
  by_cases h0 : l.length = 0
  · rw [if_pos h0]
    have hd : ((l.length : Int) == 0) = true := by rw [h0]; rfl
    clear H
    go_enter Tryz.func7, Tryz.ntmps7
    go_wp2_with fail
    refine HSo.out.mono ?_
    rintro e w1 ⟨x, rfl, ho, hb⟩
    have HO := hid ho
    have HB := hid hb
    clear ho hb
    go_wp2
    go_ret2
    exact ⟨x, rfl, HO.out, HB.out⟩
  · rw [if_neg h0]
    generalize foldL true l ps f = Q at H ⊢
    have hd : ((l.length : Int) == 0) = false := by rw [beq_eq_false_iff_ne]; omega
    clear HSo
    go_enter Tryz.func7, Tryz.ntmps7
    go_wp2_with fail
    refine H.out.mono ?_
    rintro e w1 ⟨x, rfl, ho, hb⟩
    have HO := hid ho
    have HB := hid hb
    clear ho hb
    go_wp2
    go_ret2
    exact ⟨x, rfl, HO.out, HB.out⟩
/-- A fold whose end is known. -/
theorem each_runs {w : World} {v u : Value} {l : List Inst} {ps : List KV} {f : Int} {R : List KV} {r : Int} (T : Tabs w) (hv : Co w v l) (hp : Prs w u ps) (hF : FitsF l ps) (hf : I64 f) (h : eachL l ps f = (R, r)) :
    Calls Tryz.prog 6 #[v, u, .int .i64 f] w fun e w' => ∃ ao c, e = .returned (.tuple #[.slice ao R.length c, .int .i64 r]) ∧ Prs w' (.slice ao R.length c) R ∧ Below w.heap.size w w' := by
  have := each_any w v u l ps f T hv hp hF hf
  rw [h] at this
  refine this.mono ?_
  rintro e w1 ⟨x, rfl, ho, hb⟩
  obtain ⟨ao, c, rfl⟩ := own_slice ho
  exact ⟨ao, c, rfl, Reads.own encP_len (by decide) ho, hb⟩
theorem combine_runs {w : World} {v u : Value} {l : List Inst} {ps : List KV} {f : Int} {R : List KV} {r : Int} (T : Tabs w) (hv : Co w v l) (hp : Prs w u ps) (hF : FitsF l ps) (hf : I64 f) (h : combineL l ps f = (R, r)) :
    Calls Tryz.prog 7 #[v, u, .int .i64 f] w fun e w' => ∃ ao c, e = .returned (.tuple #[.slice ao R.length c, .int .i64 r]) ∧ Prs w' (.slice ao R.length c) R ∧ Below w.heap.size w w' := by
  have := combine_any w v u l ps f T hv hp hF hf
  rw [h] at this
  refine this.mono ?_
  rintro e w1 ⟨x, rfl, ho, hb⟩
  obtain ⟨ao, c, rfl⟩ := own_slice ho
  exact ⟨ao, c, rfl, Reads.own encP_len (by decide) ho, hb⟩

theorem firstF_calls (w : World) : Calls Tryz.prog 10 #[] w fun e w' => e = .returned (.slice (some ⟨w.heap.size, 0, none⟩) 4 4) ∧ w' = w.alloc (.cells (icl firstP).toArray 29) := by
  go_enter Tryz.func10, Tryz.ntmps10
  go_wp2
  go_ret
  exact ⟨rfl, rfl⟩
theorem first_nums : ∀ x ∈ firstP, I64 x.2.1 := by intro x hx; simp only [firstP, List.mem_cons, List.mem_nil_iff, or_false] at hx; rcases hx with rfl | rfl | rfl | rfl <;> exact i64_small (by simp) (by simp)
theorem three_size : ∀ x ∈ threeF, x.1.size ≤ maxLen ∧ x.2.size ≤ maxLen := by
  intro x hx
  simp only [List.mem_cons, List.mem_nil_iff, or_false] at hx
  rcases hx with rfl | rfl | rfl <;> exact ⟨small_len (by decide), small_len (by decide)⟩
theorem fits_three : FitsF firstP threeF := ⟨first_nums, by simp [firstP], by simp, three_size⟩
theorem fits_three0 : FitsF [] threeF := ⟨by simp, by simp, by simp, three_size⟩
theorem co_nil (w : World) : Co w (.slice none 0 0) [] := ⟨none, 0, rfl, Nat.le_refl _, by unfold maxLen; omega, fun _ => ⟨rfl, rfl⟩, fun h => absurd rfl h⟩

set_option maxHeartbeats 1000000 in
theorem awakeF (w : World) (T : Tabs w) : Calls Tryz.prog 5 #[] w fun e w' => e = .returned (.bool true) ∧ Below w.heap.size w w' := by
  have HT := hid T
  clear T
  go_enter Tryz.func5, Tryz.ntmps5
  go_wp2_with fail
  have k1 : Below w.heap.size w (w.alloc (.cells (fl encP threeF).toArray 34)) := (Below.refl _ w).alloc (Nat.le_refl _) _
  have HP := hid (Reads.made encP_len (by decide) 34 threeF w (by simp))
  change Calls _ _ _ (w.alloc (.cells (fl encP threeF).toArray 34)) _
  refine (firstF_calls _).mono ?_
  rintro e w2 ⟨rfl, rfl⟩
  generalize w.alloc (.cells (fl encP threeF).toArray 34) = w1 at k1 HP ⊢
  have HC := hid (Co.made firstP w1 (by simp [firstP]))
  have HP2 := hid (HP.out.below ((Below.refl _ w1).alloc (Nat.le_refl _) (.cells (icl firstP).toArray 29)))
  have k2 := below_then k1 ((Below.refl _ w1).alloc (Nat.le_refl _) (.cells (icl firstP).toArray 29)) k1.size
  generalize w1.alloc (.cells (icl firstP).toArray 29) = w2 at k2 HP2 HC ⊢
  clear HP k1
  go_wp2_with fail
  refine (each_runs (HT.out.on k2) HC.out HP2.out fits_three (i64_small (by omega) (by omega)) three_each).mono ?_
  rintro e w3 ⟨ao, ac, rfl, ha, hb3⟩
  have k3 := below_then k2 hb3 k2.size
  have HA := hid ha
  have HP3 := hid (HP2.out.below hb3)
  clear hb3 ha HP2 HC k2
  go_wp2_with fail
  refine (combine_runs (HT.out.on k3) (co_nil _) HP3.out fits_three0 (i64_small (by omega) (by omega)) three_combine).mono ?_
  rintro e w4 ⟨bo, bc, rfl, hb, hb4⟩
  have k4 := below_then k3 hb4 k3.size
  have HA4 := hid (HA.out.below hb4)
  have HB := hid hb
  clear hb4 hb HA HP3 k3
  have HM := hid (Reads.made encP_len (by decide) 34 [(aF, n2), (bF, n1)] w4 (by simp))
  have k5 := below_then k4 ((Below.refl _ w4).alloc (Nat.le_refl _) (.cells (fl encP [(aF, n2), (bF, n1)]).toArray 34)) k4.size
  have HA5 := hid (HA4.out.below ((Below.refl _ w4).alloc (Nat.le_refl _) (.cells (fl encP [(aF, n2), (bF, n1)]).toArray 34)))
  have HB5 := hid (HB.out.below ((Below.refl _ w4).alloc (Nat.le_refl _) (.cells (fl encP [(aF, n2), (bF, n1)]).toArray 34)))
  go_wp2_with fail
  refine (samePairs_any _ _ [(aF, n2), (bF, n1)] _ HA5.out HM.out).mono ?_
  rintro e w6 ⟨rfl, n6, rfl⟩
  have k6 := below_then k5 (below_drew _ n6) k5.size
  have HB6 := hid (HB5.out.below (below_drew _ n6))
  generalize (w4.alloc (.cells (fl encP [(aF, n2), (bF, n1)]).toArray 34)).drewN n6 = w6 at k6 HB6 ⊢
  clear k5 k4 HA5 HA4 HB HB5 HM
  obtain ⟨bb, boff, rfl, hbb, c1, -⟩ := Prs.cell HB6.out (j := 0) (by simp)
  have c2 : w6.cell? ⟨bb, boff, none⟩ = some (.string aF) := by simpa using c1
  clear c1 HB6
  go_wp2
  go_ret
  exact ⟨rfl, k6⟩
theorem greatF_any (v u : Value) (l : List Inst) (ps : List KV) (w : World) (hv : Co w v l) (hp : Prs w u ps) :
    Calls Tryz.prog 4 #[v, u] w fun e w' => (∃ g, e = .returned (.bool g) ∧ (g = false → l.length ≤ 60 ∧ ps.length ≤ 60 ∧ ∀ x ∈ ps, x.1.size ≤ 100 ∧ x.2.size ≤ 100)) ∧ w' = w := by
  go_enter Tryz.func4, Tryz.ntmps4
  go_wp2_with fail
  refine (great_any v l w hv).mono ?_
  rintro e w0 ⟨⟨g, rfl, hg⟩, rfl⟩
  cases g
  · have H0 := hid (hg rfl)
    clear hg
    go_wp2_with fail
    refine (greatPairsF u ps 60 _ hp).mono ?_
    rintro e w1 ⟨⟨g, rfl, hg2⟩, rfl⟩
    have H := hid hg2
    clear hg2
    go_wp2
    go_ret
    exact ⟨⟨g, rfl, fun h => ⟨H0.out, (H.out h).1, (H.out h).2⟩⟩, rfl⟩
  · go_wp2
    go_ret
    exact ⟨⟨true, rfl, fun h => by cases h⟩, rfl⟩
theorem fits_no {l : List Inst} (h : ∀ x ∈ l, I64 x.2.1) (hl : l.length ≤ 60) : FitsF l [] := ⟨h, by omega, by simp, by simp⟩
theorem fits_halt {ps : List KV} (h : ps.length ≤ 60) (hs : ∀ x ∈ ps, x.1.size ≤ 100 ∧ x.2.size ≤ 100) : FitsF [(0, 0, e0)] ps :=
  ⟨by intro x hx; simp at hx; subst hx; exact i64_small (by simp) (by simp), by simp, by omega, fun x hx => ⟨small_len (hs x hx).1, small_len (hs x hx).2⟩⟩
set_option maxHeartbeats 2000000 in
theorem foldEmpty_plain (w : World) (T : Tabs w) (v : Value) (l : List Inst) (hv : Co w v l) (hI : ∀ x ∈ l, I64 x.2.1) (u : Value) (ps : List KV) (hp : Prs w u ps) (f : Int) (hf : I64 f) :
    Calls Tryz.prog 3 #[v, u, .int .i64 f] w fun e w' => e = .returned (.bool true) ∧ Below w.heap.size w w' := by
  have HT := hid T
  have HV := hid hv
  have HI := hid hI
  have HP := hid hp
  have HF := hid hf
  clear T hv hI hp hf
  go_enter Tryz.func3, Tryz.ntmps3
  go_wp2_with fail
  refine (greatF_any v u l ps w HV.out HP.out).mono ?_
  rintro e w0 ⟨⟨g, rfl, hg⟩, rfl⟩
  cases g
  · have HG := hid (hg rfl)
    clear hg
    go_wp2_with fail
    refine (each_runs HT.out HV.out (Reads.nil _) (fits_no HI.out (HG.out).1) HF.out (fold_none false l f)).mono ?_
    rintro e w1 ⟨ao, ac, rfl, -, k1⟩
    go_wp2_with fail
    refine (combine_runs (HT.out.on k1) (HV.out.below k1) (Reads.nil _) (fits_no HI.out (HG.out).1) HF.out (combine_none l f)).mono ?_
    rintro e w2 ⟨bo, bc, rfl, -, hb2⟩
    have k2 := below_then k1 hb2 k1.size
    clear hb2 k1
    go_wp2_with fail
    have k3 := below_then k2 ((Below.refl _ w2).alloc (Nat.le_refl _) (.cells (icl [(0, 0, e0)]).toArray 29)) k2.size
    have HC3 := hid (Co.made [(0, 0, e0)] w2 (by simp))
    refine (each_runs (HT.out.on k3) HC3.out (HP.out.below k3) (fits_halt (HG.out).2.1 (HG.out).2.2) (i64_small (by omega) (by omega)) (halt_each ps)).mono ?_
    rintro e w4 ⟨co, cc, rfl, -, hb4⟩
    have k4 := below_then k3 hb4 k3.size
    clear hb4 HC3 k3 k2
    go_wp2_with fail
    have k5 := below_then k4 ((Below.refl _ w4).alloc (Nat.le_refl _) (.cells (icl [(0, 0, e0)]).toArray 29)) k4.size
    have HC5 := hid (Co.made [(0, 0, e0)] w4 (by simp))
    refine (combine_runs (HT.out.on k5) HC5.out (HP.out.below k5) (fits_halt (HG.out).2.1 (HG.out).2.2) (i64_small (by omega) (by omega)) (halt_combine ps)).mono ?_
    rintro e w6 ⟨eo, ec, rfl, -, hb6⟩
    have k6 := below_then k5 hb6 k5.size
    clear hb6 HC5 k5 k4
    simp only [List.length_nil]
    go_wp2_with fail
    refine (awakeF w6 (HT.out.on k6)).mono ?_
    rintro e w7 ⟨rfl, hb7⟩
    have k7 := below_then k6 hb7 k6.size
    go_wp2
    go_ret
    exact ⟨rfl, k7⟩
  · clear hg
    go_wp2_with fail
    refine (awakeF _ HT.out).mono ?_
    rintro e w7 ⟨rfl, hb7⟩
    go_wp2
    go_ret
    exact ⟨rfl, hb7⟩
theorem foldEmpty_walk (w : World) (T : Tabs w) (v : Value) (l : List Inst) (h : rSlice 3 rIns w [v] l) (u : Value) (ps : List (ByteArray × ByteArray)) (hu : rSlice 2 rPr w [u] ps) (f : Int) (wf : (Lit.int .i64 f).wf = true) :
    Calls Tryz.prog 3 #[v, u, .int .i64 f] w fun e w' => e = .returned (.bool true) ∧ Below w.heap.size w w' :=
  foldEmpty_plain w T v l (Co.arg h) (code_nums h) u ps (Prs.arg hu) f (wf_i64 wf)
end Go.Proofs.YtobgobmfhgagbaaGreatDoor
