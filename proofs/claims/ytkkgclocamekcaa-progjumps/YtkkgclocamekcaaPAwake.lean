/- awake: what every program answers that is one. -/
import Derived.Test.YtkkgclocamekcaaPTargets
import Derived.Test.YtkkgclocamekcaaPLend
namespace Go.Proofs.Ytkkgclocamekcaa
open Go.RowKit Go.Lib
set_option linter.unusedVariables false

/-- A slice that was just written down. -/
theorem Co.made (l : List Inst) (w : World) (hl : l.length ≤ 100) : Co (w.alloc (.cells (icl l).toArray 33)) (.slice (some ⟨w.heap.size, 0, none⟩) l.length l.length) l := by
  have h : (w.alloc (.cells (icl l).toArray 33)).ownsRow w.heap.size 33 3 (.slice (some ⟨w.heap.size, 0, none⟩) l.length l.length) l.length (icl l) :=
    ⟨icl_length l, .inr ⟨w.heap.size, l.length, (icl l).toArray, rfl, Nat.le_refl _, new_block _ _, Nat.le_refl _, by unfold maxLen; omega, by rw [List.size_toArray, icl_length], by rw [List.toList_toArray]; exact List.take_of_length_le (by rw [icl_length]; omega)⟩⟩
  exact Co.own h
theorem Is.made (l : List Int) (w : World) (hl : l.length ≤ 100) : Is (w.alloc (.cells (ict l).toArray 3)) (.slice (some ⟨w.heap.size, 0, none⟩) l.length l.length) l := by
  have h : (w.alloc (.cells (ict l).toArray 3)).ownsRow w.heap.size 3 1 (.slice (some ⟨w.heap.size, 0, none⟩) l.length l.length) l.length (ict l) :=
    ⟨by rw [ict_length]; omega, .inr ⟨w.heap.size, l.length, (ict l).toArray, rfl, Nat.le_refl _, new_block _ _, Nat.le_refl _, by unfold maxLen; omega, by rw [List.size_toArray, ict_length]; omega, by rw [List.toList_toArray]; exact List.take_of_length_le (by rw [ict_length]; omega)⟩⟩
  exact Is.owned h
theorem Co.nil (w : World) : Co w (.slice none 0 0) [] := ⟨none, 0, rfl, Nat.le_refl _, by unfold maxLen; omega, fun _ => ⟨rfl, rfl⟩, fun h => absurd rfl h⟩

theorem empty_bare : (⟨#[]⟩ : ByteArray).toList.isEmpty = true := by rw [ByteArray.toList_eq]; rfl
theorem bad_a : bad [(6, 0, ⟨#[]⟩), (19, 3, ⟨#[]⟩)] = 1 := by
  exact bad_at (k := 1) (by simp) (by omega) (fun i hi => by obtain rfl : i = 0 := by omega
                                                             simp [good]) (by simp [good])
theorem bad_b : bad [(19, 1, ⟨#[]⟩)] = -1 := by
  exact bad_none (by simp) (fun i hi => by obtain rfl : i = 0 := by simpa using hi
                                           simp [good])
theorem bad_c : bad [] = -1 := bad_none (by simp) (fun i hi => by simp at hi)
theorem bad_d : bad [(24, 0, ⟨#[]⟩)] = 0 := by
  exact bad_at (k := 0) (by simp) (by omega) (fun i hi => by omega) (by simp [good])
theorem tar_b : targets [(19, 1, ⟨#[]⟩)] = [1] := by
  rw [← seen_all (by rw [bad_b]; omega)]
  rfl

set_option maxHeartbeats 1000000 in
theorem awake_calls (w : World) : Calls Try.prog 7 #[] w fun e w' => e = .returned (.bool true) ∧ Below w.heap.size w w' := by
  go_enter Try.func7, Try.ntmps7
  go_wp2_with fail
  refine (bad_any _ [(6, 0, ⟨#[]⟩), (19, 3, ⟨#[]⟩)] _ (Co.made _ w (by simp))).mono ?_
  rintro e w1 ⟨rfl, hb1⟩
  have k1 : Below w.heap.size w w1 := below_next ((Below.refl _ w).alloc (Nat.le_refl _) _) hb1 (by simp)
  clear hb1
  rw [bad_a]
  go_wp2_with fail
  refine (bad_any _ [(19, 1, ⟨#[]⟩)] _ (Co.made _ w1 (by simp))).mono ?_
  rintro e w2 ⟨rfl, hb2⟩
  have k2 : Below w.heap.size w w2 := below_next (k1.alloc k1.size _) hb2 (by have := k1.size; simp; omega)
  clear hb2 k1
  rw [bad_b]
  go_wp2_with fail
  refine (may_any _ [] _ (Co.nil w2)).mono ?_
  rintro e w3 ⟨rfl, hb3⟩
  have k3 : Below w.heap.size w w3 := below_next k2 hb3 k2.size
  clear hb3 k2
  rw [bad_c, show decide ((-1 : Int) < 0) = true from rfl]
  go_wp2_with fail
  refine (may_any _ [(24, 0, ⟨#[]⟩)] _ (Co.made _ w3 (by simp))).mono ?_
  rintro e w4 ⟨rfl, hb4⟩
  have k4 : Below w.heap.size w w4 := below_next (k3.alloc k3.size _) hb4 (by have := k3.size; simp; omega)
  clear hb4 k3
  rw [bad_d, show decide ((0 : Int) < 0) = false from rfl]
  go_wp2_with fail
  refine (targets_any _ [(19, 1, ⟨#[]⟩)] _ (Co.made _ w4 (by simp))).mono ?_
  rintro e w5 ⟨v5, rfl, ho5, hb5⟩
  have k5 : Below w.heap.size w w5 := below_next (k4.alloc k4.size _) hb5 (by have := k4.size; simp; omega)
  rw [tar_b] at ho5
  have HI := hid (Is.owned ho5)
  clear hb5 k4 ho5
  go_wp2_with fail
  refine (sameInts_any _ _ [1] [1] _ (HI.out.below ((Below.refl _ w5).alloc (Nat.le_refl _) _)) (Is.made [1] w5 (by simp))).mono ?_
  rintro e w6 ⟨rfl, n, rfl⟩
  rw [show decide (([1] : List Int) = [1]) = true from rfl]
  have k6 : Below w.heap.size w ((w5.alloc (Obj.cells #[Value.int .i64 1] 3)).drewN n) := below_next (k5.alloc k5.size _) (drew_below _ n) (by have := k5.size; simp; omega)
  go_wp2
  go_ret
  exact ⟨rfl, k6⟩
end Go.Proofs.Ytkkgclocamekcaa
