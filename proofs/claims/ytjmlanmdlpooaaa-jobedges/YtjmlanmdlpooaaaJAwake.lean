/- awake of chapter 12's statements: it is true. -/
import Derived.Test.YtjmlanmdlpooaaaJHome
import Derived.Handy
namespace Go.Proofs.Ytjmlanmdlpooaaa
open Go.RowKit
set_option linter.unusedVariables false

def smallJ : JobV := ⟨[[]], 1, [zInst], [], [zInst], 1, 1, 1, []⟩
def smallC : CfgV := ⟨smallJ, 1, 1, 1⟩
def mediumC : CfgV := ⟨{ smallJ with parts := 4 }, 3, 1, 1⟩
def zeroJ : JobV := ⟨[], 0, [], [], [], 0, 0, 0, []⟩
theorem mayC_small : mayC smallC = true := by decide +kernel
theorem mayC_medium : mayC mediumC = true := by decide +kernel
theorem mayJ_zero : mayJ zeroJ = false := by decide +kernel
theorem size_one (w : World) (o : Obj) : (w.alloc o).heap.size = w.heap.size + 1 := by simp
theorem co_nil (w : World) : Co w (.slice none 0 0) [] := ⟨none, 0, rfl, Nat.le_refl _, by unfold maxLen; omega, fun _ => ⟨rfl, rfl⟩, fun h => absurd rfl h⟩
theorem is_nil (w : World) : Is w (.slice none 0 0) [] := ⟨none, 0, rfl, Nat.le_refl _, by unfold maxLen; omega, fun _ => ⟨rfl, rfl⟩, fun h => absurd rfl h⟩
theorem zeroJ_is (w : World) : JobIs w none none none none none 0 0 0 0 0 zeroJ := ⟨Lis.nil w, co_nil w, co_nil w, co_nil w, is_nil w⟩
theorem co_one (w : World) : Co (w.alloc (.cells #[.int .i64 0, .int .i64 0, .string ⟨#[]⟩] 50)) (.slice (some ⟨w.heap.size, 0, none⟩) 1 1) [zInst] := by
  refine ⟨some ⟨w.heap.size, 0, none⟩, 1, rfl, Nat.le_refl _, by unfold maxLen; omega, (fun h => by cases h), fun _ => ⟨w.heap.size, 0, rfl, by simp, fun j hj => ?_⟩⟩
  obtain rfl : j = 0 := by simp at hj; omega
  exact ⟨by simp [zInst], by simp [zInst], by simp [zInst]⟩
theorem lis_one (w : World) : Lis (w.alloc (.cells #[.slice none 0 0] 38)) (.slice (some ⟨w.heap.size, 0, none⟩) 1 1) [[]] :=
  lis_made [.slice none 0 0] [[]] w (by simp) rfl fun j l hj => by
    match j, hj with
    | 0, hj => simp at hj; subst hj; exact ⟨_, rfl, Reads.nil w⟩
    | j + 1, hj => simp at hj
/-- What small answers. -/
def SmallNew (w : World) (e : Ending) (w' : World) : Prop :=
  ∃ p q, e = .returned (.agg #[.slice (some ⟨q, 0, none⟩) 1 1, .int .i64 1, .slice (some ⟨p, 0, none⟩) 1 1, .slice none 0 0, .slice (some ⟨p, 0, none⟩) 1 1, .int .i64 1, .int .i64 1, .int .i64 1, .slice none 0 0, .int .i64 1, .int .i64 1, .int .i64 1]) ∧ JobIs w' (some ⟨q, 0, none⟩) (some ⟨p, 0, none⟩) none (some ⟨p, 0, none⟩) none 1 1 0 1 0 smallJ ∧ Below w.heap.size w w'
set_option maxHeartbeats 4000000 in
theorem small_calls (w : World) : Calls Try.prog 19 #[] w fun e w' => SmallNew w e w' := by
  have h0 : ∀ o : Obj, JobIs (((w.alloc o).alloc (.cells #[.int .i64 0, .int .i64 0, .string ⟨#[]⟩] 50)).alloc (.cells #[.slice none 0 0] 38)) (some ⟨w.heap.size + 1 + 1, 0, none⟩) (some ⟨w.heap.size + 1, 0, none⟩) none (some ⟨w.heap.size + 1, 0, none⟩) none 1 1 0 1 0 smallJ ∧
      Below w.heap.size w (((w.alloc o).alloc (.cells #[.int .i64 0, .int .i64 0, .string ⟨#[]⟩] 50)).alloc (.cells #[.slice none 0 0] 38)) := by
    intro o
    have h1 := lis_one ((w.alloc o).alloc (.cells #[.int .i64 0, .int .i64 0, .string ⟨#[]⟩] 50))
    have h2 := (co_one (w.alloc o)).below (alloc_one _ (.cells #[.slice none 0 0] 38))
    rw [size_one, size_one] at h1
    rw [size_one] at h2
    refine ⟨⟨h1, h2, co_nil _, h2, is_nil _⟩, ?_⟩
    have b1 := below_then (alloc_one w o) (alloc_one _ (.cells #[.int .i64 0, .int .i64 0, .string ⟨#[]⟩] 50)) (alloc_one w o).size
    exact below_then b1 (alloc_one _ _) b1.size
  have H0 := hid h0
  clear h0
  go_enter Try.func19, Try.ntmps19
  go_wp2
  go_returns
  exact ⟨_, _, rfl, (H0.out _).1, (H0.out _).2⟩

set_option maxHeartbeats 8000000 in
theorem awake_calls (w : World) : Calls Try.prog 7 #[] w fun e w' => e = .returned (.bool true) ∧ Below w.heap.size w w' := by
  go_enter Try.func7, Try.ntmps7
  go_wp2_with fail
  refine (small_calls w).mono ?_
  rintro e w1 ⟨p, q, rfl, hj, hb1⟩
  have HJ := hid ((hj.below (alloc_one _ (.cells #[.slice (some ⟨q, 0, none⟩) 1 1, .int .i64 1, .slice (some ⟨p, 0, none⟩) 1 1, .slice none 0 0, .slice (some ⟨p, 0, none⟩) 1 1, .int .i64 1, .int .i64 1, .int .i64 1, .slice none 0 0, .int .i64 1, .int .i64 1, .int .i64 1] 28))).below (alloc_one _ (.cells #[.slice (some ⟨q, 0, none⟩) 1 1, .int .i64 4, .slice (some ⟨p, 0, none⟩) 1 1, .slice none 0 0, .slice (some ⟨p, 0, none⟩) 1 1, .int .i64 1, .int .i64 1, .int .i64 1, .slice none 0 0, .int .i64 3, .int .i64 1, .int .i64 1] 28)))
  have HB := hid (below_then hb1 (below_then (alloc_one _ (.cells #[.slice (some ⟨q, 0, none⟩) 1 1, .int .i64 1, .slice (some ⟨p, 0, none⟩) 1 1, .slice none 0 0, .slice (some ⟨p, 0, none⟩) 1 1, .int .i64 1, .int .i64 1, .int .i64 1, .slice none 0 0, .int .i64 1, .int .i64 1, .int .i64 1] 28)) (alloc_one _ (.cells #[.slice (some ⟨q, 0, none⟩) 1 1, .int .i64 4, .slice (some ⟨p, 0, none⟩) 1 1, .slice none 0 0, .slice (some ⟨p, 0, none⟩) 1 1, .int .i64 1, .int .i64 1, .int .i64 1, .slice none 0 0, .int .i64 3, .int .i64 1, .int .i64 1] 28)) (alloc_one _ _).size) hb1.size)
  have HC := hid ((At.new w1 #[.slice (some ⟨q, 0, none⟩) 1 1, .int .i64 1, .slice (some ⟨p, 0, none⟩) 1 1, .slice none 0 0, .slice (some ⟨p, 0, none⟩) 1 1, .int .i64 1, .int .i64 1, .int .i64 1, .slice none 0 0, .int .i64 1, .int .i64 1, .int .i64 1] 28).below (alloc_one _ (.cells #[.slice (some ⟨q, 0, none⟩) 1 1, .int .i64 4, .slice (some ⟨p, 0, none⟩) 1 1, .slice none 0 0, .slice (some ⟨p, 0, none⟩) 1 1, .int .i64 1, .int .i64 1, .int .i64 1, .slice none 0 0, .int .i64 3, .int .i64 1, .int .i64 1] 28)) (by simp))
  have HD := hid (At.new (w1.alloc (.cells #[.slice (some ⟨q, 0, none⟩) 1 1, .int .i64 1, .slice (some ⟨p, 0, none⟩) 1 1, .slice none 0 0, .slice (some ⟨p, 0, none⟩) 1 1, .int .i64 1, .int .i64 1, .int .i64 1, .slice none 0 0, .int .i64 1, .int .i64 1, .int .i64 1] 28)) #[.slice (some ⟨q, 0, none⟩) 1 1, .int .i64 4, .slice (some ⟨p, 0, none⟩) 1 1, .slice none 0 0, .slice (some ⟨p, 0, none⟩) 1 1, .int .i64 1, .int .i64 1, .int .i64 1, .slice none 0 0, .int .i64 3, .int .i64 1, .int .i64 1] 28)
  clear hj hb1
  go_wp2_with fail
  refine (mayConfig_any smallC (some ⟨q, 0, none⟩) (some ⟨p, 0, none⟩) none (some ⟨p, 0, none⟩) none 1 1 0 1 0 _ HJ.out).mono ?_
  rintro e v0 ⟨rfl, hb0⟩
  replace HC := hid (HC.out.below hb0 (by simp; omega))
  replace HD := hid (HD.out.below hb0 (by simp))
  have HZ := hid (show w1.heap.size + 1 < v0.heap.size by have := hb0.size; simp at this; omega)
  rw [size_one] at HD
  replace HJ := hid (HJ.out.below hb0)
  replace HB := hid (below_then HB.out hb0 HB.out.size)
  clear hb0
  have c0 := HC.out 0 _ rfl
  have d0 := HD.out 0 _ rfl
  have c1 := HC.out 1 _ rfl
  have d1 := HD.out 1 _ rfl
  have c2 := HC.out 2 _ rfl
  have d2 := HD.out 2 _ rfl
  have c3 := HC.out 3 _ rfl
  have d3 := HD.out 3 _ rfl
  have c4 := HC.out 4 _ rfl
  have d4 := HD.out 4 _ rfl
  have c5 := HC.out 5 _ rfl
  have d5 := HD.out 5 _ rfl
  have c6 := HC.out 6 _ rfl
  have d6 := HD.out 6 _ rfl
  have c7 := HC.out 7 _ rfl
  have d7 := HD.out 7 _ rfl
  have c8 := HC.out 8 _ rfl
  have d8 := HD.out 8 _ rfl
  have c9 := HC.out 9 _ rfl
  have d9 := HD.out 9 _ rfl
  have c10 := HC.out 10 _ rfl
  have d10 := HD.out 10 _ rfl
  have c11 := HC.out 11 _ rfl
  have d11 := HD.out 11 _ rfl
  rw [mayC_small]
  go_wp2_with fail
  have HJ2 := hid (show JobIs _ (some ⟨q, 0, none⟩) (some ⟨p, 0, none⟩) none (some ⟨p, 0, none⟩) none 1 1 0 1 0 mediumC.job from ⟨HJ.out.sp, HJ.out.mp, HJ.out.cb, HJ.out.rd, HJ.out.mks⟩)
  refine (home_any mediumC (some ⟨q, 0, none⟩) (some ⟨p, 0, none⟩) none (some ⟨p, 0, none⟩) none 1 1 0 1 0 3 _ HJ2.out mayC_medium).mono ?_
  clear HJ2
  rintro e v1 ⟨rfl, hb1⟩
  replace HC := hid (HC.out.below hb1 (by have := HZ.out; omega))
  replace HD := hid (HD.out.below hb1 HZ.out)
  replace HZ := hid (Nat.lt_of_lt_of_le HZ.out hb1.size)
  replace HJ := hid (HJ.out.below hb1)
  replace HB := hid (below_then HB.out hb1 HB.out.size)
  clear hb1
  clear c0 d0 c1 d1 c2 d2 c3 d3 c4 d4 c5 d5 c6 d6 c7 d7 c8 d8 c9 d9 c10 d10 c11 d11
  have c0 := HC.out 0 _ rfl
  have d0 := HD.out 0 _ rfl
  have c1 := HC.out 1 _ rfl
  have d1 := HD.out 1 _ rfl
  have c2 := HC.out 2 _ rfl
  have d2 := HD.out 2 _ rfl
  have c3 := HC.out 3 _ rfl
  have d3 := HD.out 3 _ rfl
  have c4 := HC.out 4 _ rfl
  have d4 := HD.out 4 _ rfl
  have c5 := HC.out 5 _ rfl
  have d5 := HD.out 5 _ rfl
  have c6 := HC.out 6 _ rfl
  have d6 := HD.out 6 _ rfl
  have c7 := HC.out 7 _ rfl
  have d7 := HD.out 7 _ rfl
  have c8 := HC.out 8 _ rfl
  have d8 := HD.out 8 _ rfl
  have c9 := HC.out 9 _ rfl
  have d9 := HD.out 9 _ rfl
  have c10 := HC.out 10 _ rfl
  have d10 := HD.out 10 _ rfl
  have c11 := HC.out 11 _ rfl
  have d11 := HD.out 11 _ rfl
  rw [show homeI mediumC.job.parts mediumC.workers 3 = 1 from rfl]
  go_wp2_with fail
  have HJ2 := hid (show JobIs _ (some ⟨q, 0, none⟩) (some ⟨p, 0, none⟩) none (some ⟨p, 0, none⟩) none 1 1 0 1 0 mediumC.job from ⟨HJ.out.sp, HJ.out.mp, HJ.out.cb, HJ.out.rd, HJ.out.mks⟩)
  refine (home_any mediumC (some ⟨q, 0, none⟩) (some ⟨p, 0, none⟩) none (some ⟨p, 0, none⟩) none 1 1 0 1 0 1 _ HJ2.out mayC_medium).mono ?_
  clear HJ2
  rintro e v2 ⟨rfl, hb2⟩
  replace HC := hid (HC.out.below hb2 (by have := HZ.out; omega))
  replace HD := hid (HD.out.below hb2 HZ.out)
  replace HZ := hid (Nat.lt_of_lt_of_le HZ.out hb2.size)
  replace HJ := hid (HJ.out.below hb2)
  replace HB := hid (below_then HB.out hb2 HB.out.size)
  clear hb2
  clear c0 d0 c1 d1 c2 d2 c3 d3 c4 d4 c5 d5 c6 d6 c7 d7 c8 d8 c9 d9 c10 d10 c11 d11
  have c0 := HC.out 0 _ rfl
  have d0 := HD.out 0 _ rfl
  have c1 := HC.out 1 _ rfl
  have d1 := HD.out 1 _ rfl
  have c2 := HC.out 2 _ rfl
  have d2 := HD.out 2 _ rfl
  have c3 := HC.out 3 _ rfl
  have d3 := HD.out 3 _ rfl
  have c4 := HC.out 4 _ rfl
  have d4 := HD.out 4 _ rfl
  have c5 := HC.out 5 _ rfl
  have d5 := HD.out 5 _ rfl
  have c6 := HC.out 6 _ rfl
  have d6 := HD.out 6 _ rfl
  have c7 := HC.out 7 _ rfl
  have d7 := HD.out 7 _ rfl
  have c8 := HC.out 8 _ rfl
  have d8 := HD.out 8 _ rfl
  have c9 := HC.out 9 _ rfl
  have d9 := HD.out 9 _ rfl
  have c10 := HC.out 10 _ rfl
  have d10 := HD.out 10 _ rfl
  have c11 := HC.out 11 _ rfl
  have d11 := HD.out 11 _ rfl
  rw [show homeI mediumC.job.parts mediumC.workers 1 = 2 from rfl]
  go_wp2_with fail
  refine (home_any smallC (some ⟨q, 0, none⟩) (some ⟨p, 0, none⟩) none (some ⟨p, 0, none⟩) none 1 1 0 1 0 1 _ HJ.out mayC_small).mono ?_
  rintro e v3 ⟨rfl, hb3⟩
  replace HC := hid (HC.out.below hb3 (by have := HZ.out; omega))
  replace HD := hid (HD.out.below hb3 HZ.out)
  replace HZ := hid (Nat.lt_of_lt_of_le HZ.out hb3.size)
  replace HJ := hid (HJ.out.below hb3)
  replace HB := hid (below_then HB.out hb3 HB.out.size)
  clear hb3
  clear c0 d0 c1 d1 c2 d2 c3 d3 c4 d4 c5 d5 c6 d6 c7 d7 c8 d8 c9 d9 c10 d10 c11 d11
  have c0 := HC.out 0 _ rfl
  have d0 := HD.out 0 _ rfl
  have c1 := HC.out 1 _ rfl
  have d1 := HD.out 1 _ rfl
  have c2 := HC.out 2 _ rfl
  have d2 := HD.out 2 _ rfl
  have c3 := HC.out 3 _ rfl
  have d3 := HD.out 3 _ rfl
  have c4 := HC.out 4 _ rfl
  have d4 := HD.out 4 _ rfl
  have c5 := HC.out 5 _ rfl
  have d5 := HD.out 5 _ rfl
  have c6 := HC.out 6 _ rfl
  have d6 := HD.out 6 _ rfl
  have c7 := HC.out 7 _ rfl
  have d7 := HD.out 7 _ rfl
  have c8 := HC.out 8 _ rfl
  have d8 := HD.out 8 _ rfl
  have c9 := HC.out 9 _ rfl
  have d9 := HD.out 9 _ rfl
  have c10 := HC.out 10 _ rfl
  have d10 := HD.out 10 _ rfl
  have c11 := HC.out 11 _ rfl
  have d11 := HD.out 11 _ rfl
  rw [show homeI smallC.job.parts smallC.workers 1 = 0 from rfl]
  go_wp2_with fail
  refine (jobMay_any zeroJ none none none none none 0 0 0 0 0 _ (zeroJ_is _)).mono ?_
  rintro e v4 ⟨rfl, hb4⟩
  replace HC := hid (HC.out.below hb4 (by have := HZ.out; omega))
  replace HD := hid (HD.out.below hb4 HZ.out)
  replace HZ := hid (Nat.lt_of_lt_of_le HZ.out hb4.size)
  replace HJ := hid (HJ.out.below hb4)
  replace HB := hid (below_then HB.out hb4 HB.out.size)
  clear hb4
  clear c0 d0 c1 d1 c2 d2 c3 d3 c4 d4 c5 d5 c6 d6 c7 d7 c8 d8 c9 d9 c10 d10 c11 d11
  have c0 := HC.out 0 _ rfl
  have d0 := HD.out 0 _ rfl
  have c1 := HC.out 1 _ rfl
  have d1 := HD.out 1 _ rfl
  have c2 := HC.out 2 _ rfl
  have d2 := HD.out 2 _ rfl
  have c3 := HC.out 3 _ rfl
  have d3 := HD.out 3 _ rfl
  have c4 := HC.out 4 _ rfl
  have d4 := HD.out 4 _ rfl
  have c5 := HC.out 5 _ rfl
  have d5 := HD.out 5 _ rfl
  have c6 := HC.out 6 _ rfl
  have d6 := HD.out 6 _ rfl
  have c7 := HC.out 7 _ rfl
  have d7 := HD.out 7 _ rfl
  have c8 := HC.out 8 _ rfl
  have d8 := HD.out 8 _ rfl
  have c9 := HC.out 9 _ rfl
  have d9 := HD.out 9 _ rfl
  have c10 := HC.out 10 _ rfl
  have d10 := HD.out 10 _ rfl
  have c11 := HC.out 11 _ rfl
  have d11 := HD.out 11 _ rfl
  rw [mayJ_zero]
  go_wp2_with fail
  have HJ2 := hid (show JobIs _ (some ⟨q, 0, none⟩) (some ⟨p, 0, none⟩) none (some ⟨p, 0, none⟩) none 1 1 0 1 0 mediumC.job from ⟨HJ.out.sp, HJ.out.mp, HJ.out.cb, HJ.out.rd, HJ.out.mks⟩)
  refine (turn_any mediumC (some ⟨q, 0, none⟩) (some ⟨p, 0, none⟩) none (some ⟨p, 0, none⟩) none 1 1 0 1 0 5 _ HJ2.out mayC_medium).mono ?_
  clear HJ2
  rintro e v5 ⟨rfl, hb5⟩
  replace HC := hid (HC.out.below hb5 (by have := HZ.out; omega))
  replace HD := hid (HD.out.below hb5 HZ.out)
  replace HZ := hid (Nat.lt_of_lt_of_le HZ.out hb5.size)
  replace HJ := hid (HJ.out.below hb5)
  replace HB := hid (below_then HB.out hb5 HB.out.size)
  clear hb5
  clear c0 d0 c1 d1 c2 d2 c3 d3 c4 d4 c5 d5 c6 d6 c7 d7 c8 d8 c9 d9 c10 d10 c11 d11
  have c0 := HC.out 0 _ rfl
  have d0 := HD.out 0 _ rfl
  have c1 := HC.out 1 _ rfl
  have d1 := HD.out 1 _ rfl
  have c2 := HC.out 2 _ rfl
  have d2 := HD.out 2 _ rfl
  have c3 := HC.out 3 _ rfl
  have d3 := HD.out 3 _ rfl
  have c4 := HC.out 4 _ rfl
  have d4 := HD.out 4 _ rfl
  have c5 := HC.out 5 _ rfl
  have d5 := HD.out 5 _ rfl
  have c6 := HC.out 6 _ rfl
  have d6 := HD.out 6 _ rfl
  have c7 := HC.out 7 _ rfl
  have d7 := HD.out 7 _ rfl
  have c8 := HC.out 8 _ rfl
  have d8 := HD.out 8 _ rfl
  have c9 := HC.out 9 _ rfl
  have d9 := HD.out 9 _ rfl
  have c10 := HC.out 10 _ rfl
  have d10 := HD.out 10 _ rfl
  have c11 := HC.out 11 _ rfl
  have d11 := HD.out 11 _ rfl
  rw [show 1 + low 5 mediumC.workers = 3 from by decide]
  go_wp2
  go_ret
  exact ⟨rfl, HB.out⟩
end Go.Proofs.Ytjmlanmdlpooaaa
