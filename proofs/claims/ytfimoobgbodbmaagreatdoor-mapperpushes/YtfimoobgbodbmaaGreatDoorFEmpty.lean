/- Each and Combine of fold; FoldEmpty: of no pairs, and of a program that does nothing, nothing is told. -/
import Derived.Test.YtfimoobgbodbmaaGreatDoorFFold
import Derived.Test.YtfimoobgbodbmaaGreatDoorVArg
import Derived.Test.YtfimoobgbodbmaaGreatDoorGArg
import Derived.Test.YtfimoobgbodbmaaGreatDoorVLaidV
namespace Go.Proofs.YtfimoobgbodbmaaGreatDoor
open Go.RowKit Go.Lib
set_option linter.unusedVariables false
set_option maxRecDepth 100000

/-- What may be handed to a fold: numbers of 64 bits, no more than this. -/
structure FitsF (l : List Inst) (ps : List KV) : Prop where
  nums : ∀ x ∈ l, I64 x.2.1
  len : l.length ≤ 100
  few : ps.length ≤ 1000
  size : ∀ x ∈ ps, x.1.size ≤ maxLen ∧ x.2.size ≤ maxLen
theorem each_any (w : World) (v u : Value) (l : List Inst) (ps : List KV) (f : Int) (T : Tabs w) (hv : Co w v l) (hp : Prs w u ps) (hF : FitsF l ps) (hf : I64 f) :
    Calls Tryz.prog 125 #[v, u, .int .i64 f] w (ToldNew w (eachL l ps f)) := by
  have H := hid (foldBy_any false w v u l ps f T hv hp hF.nums hF.len hF.few hF.size hf)
  have e : mayFn false = .func (.func 146) #[] #[] := rfl
  rw [e] at H
  unfold eachL
  generalize foldL false l ps f = Q at H ⊢
  clear T hv hp hF e
  go_enter Tryz.func125, Tryz.ntmps125
  go_wp2_with fail
  refine H.out.mono ?_
  rintro e w1 ⟨x, rfl, ho, hb⟩
  have HO := hid ho
  have HB := hid hb
  clear ho hb
  go_wp2
  go_ret2
  exact ⟨x, rfl, HO.out, HB.out⟩
theorem combine_any (w : World) (v u : Value) (l : List Inst) (ps : List KV) (f : Int) (T : Tabs w) (hv : Co w v l) (hp : Prs w u ps) (hF : FitsF l ps) (hf : I64 f) :
    Calls Tryz.prog 100 #[v, u, .int .i64 f] w (ToldNew w (combineL l ps f)) := by
  have H := hid (foldBy_any true w v u l ps f T hv hp hF.nums hF.len hF.few hF.size hf)
  have e : mayFn true = .func (.func 124) #[] #[] := rfl
  have HSo := hid (sort_any u ps w hp (by have := hF.few; omega))
  rw [e] at H
  obtain ⟨ao, ca, rfl, -, -, -, -⟩ := hv
  have hll := hF.len
  clear T hp hF e
  unfold combineL
  by_cases h0 : l.length = 0
  · rw [if_pos h0]
    have hd : ((l.length : Int) == 0) = true := by rw [h0]; rfl
    clear H
    go_enter Tryz.func100, Tryz.ntmps100
    go_wp2_with fail
    refine HSo.out.mono ?_
    rintro e w1 ⟨x, rfl, ho, hb⟩
    have HO := hid ho
    have HB := hid hb
    clear ho hb
    go_wp2
    go_ret2
    exact ⟨x, rfl, HO.out, HB.out⟩
  · rw [if_neg h0]
    generalize foldL true l ps f = Q at H ⊢
    have hd : ((l.length : Int) == 0) = false := by rw [beq_eq_false_iff_ne]; omega
    clear HSo
    go_enter Tryz.func100, Tryz.ntmps100
    go_wp2_with fail
    refine H.out.mono ?_
    rintro e w1 ⟨x, rfl, ho, hb⟩
    have HO := hid ho
    have HB := hid hb
    clear ho hb
    go_wp2
    go_ret2
    exact ⟨x, rfl, HO.out, HB.out⟩
/-- A fold whose end is known. -/
theorem each_runs {w : World} {v u : Value} {l : List Inst} {ps : List KV} {f : Int} {R : List KV} {r : Int} (T : Tabs w) (hv : Co w v l) (hp : Prs w u ps) (hF : FitsF l ps) (hf : I64 f) (h : eachL l ps f = (R, r)) :
    Calls Tryz.prog 125 #[v, u, .int .i64 f] w fun e w' => ∃ ao c, e = .returned (.tuple #[.slice ao R.length c, .int .i64 r]) ∧ Prs w' (.slice ao R.length c) R ∧ Below w.heap.size w w' := by
  have := each_any w v u l ps f T hv hp hF hf
  rw [h] at this
  refine this.mono ?_
  rintro e w1 ⟨x, rfl, ho, hb⟩
  obtain ⟨ao, c, rfl⟩ := own_slice ho
  exact ⟨ao, c, rfl, Reads.own encP_len (by decide) ho, hb⟩
theorem combine_runs {w : World} {v u : Value} {l : List Inst} {ps : List KV} {f : Int} {R : List KV} {r : Int} (T : Tabs w) (hv : Co w v l) (hp : Prs w u ps) (hF : FitsF l ps) (hf : I64 f) (h : combineL l ps f = (R, r)) :
    Calls Tryz.prog 100 #[v, u, .int .i64 f] w fun e w' => ∃ ao c, e = .returned (.tuple #[.slice ao R.length c, .int .i64 r]) ∧ Prs w' (.slice ao R.length c) R ∧ Below w.heap.size w w' := by
  have := combine_any w v u l ps f T hv hp hF hf
  rw [h] at this
  refine this.mono ?_
  rintro e w1 ⟨x, rfl, ho, hb⟩
  obtain ⟨ao, c, rfl⟩ := own_slice ho
  exact ⟨ao, c, rfl, Reads.own encP_len (by decide) ho, hb⟩

theorem first_nums : ∀ x ∈ firstP, I64 x.2.1 := by intro x hx; simp only [firstP, List.mem_cons, List.mem_nil_iff, or_false] at hx; rcases hx with rfl | rfl | rfl | rfl <;> exact i64_small (by simp) (by simp)
theorem three_size : ∀ x ∈ threeF, x.1.size ≤ maxLen ∧ x.2.size ≤ maxLen := by
  intro x hx
  simp only [List.mem_cons, List.mem_nil_iff, or_false] at hx
  rcases hx with rfl | rfl | rfl <;> exact ⟨small_len (by decide), small_len (by decide)⟩
theorem fits_three : FitsF firstP threeF := ⟨first_nums, by simp [firstP], by simp, three_size⟩
theorem fits_three0 : FitsF [] threeF := ⟨by simp, by simp, by simp, three_size⟩
theorem co_nil (w : World) : Co w (.slice none 0 0) [] := ⟨none, 0, rfl, Nat.le_refl _, by unfold maxLen; omega, fun _ => ⟨rfl, rfl⟩, fun h => absurd rfl h⟩

theorem fits_no {l : List Inst} (h : ∀ x ∈ l, I64 x.2.1) (hl : l.length ≤ 60) : FitsF l [] := ⟨h, by omega, by simp, by simp⟩
theorem fits_halt {ps : List KV} (h : ps.length ≤ 60) (hs : ∀ x ∈ ps, x.1.size ≤ 100 ∧ x.2.size ≤ 100) : FitsF [(0, 0, e0)] ps :=
  ⟨by intro x hx; simp at hx; subst hx; exact i64_small (by simp) (by simp), by simp, by omega, fun x hx => ⟨small_len (hs x hx).1, small_len (hs x hx).2⟩⟩
end Go.Proofs.YtfimoobgbodbmaaGreatDoor
