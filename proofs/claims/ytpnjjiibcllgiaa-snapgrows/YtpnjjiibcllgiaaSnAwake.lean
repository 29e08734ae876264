/- What awake does. -/
import Derived.Test.YtpnjjiibcllgiaaSnGrows
namespace Go.Proofs.Ytpnjjiibcllgiaa
open Go.RowKit
set_option linter.unusedVariables false
theorem below_alloc (w : World) (o : Obj) : Below w.heap.size w (w.alloc o) := (Below.refl _ _).alloc (Nat.le_refl _) _
theorem is_made (w : World) (l : List Int) (h : l.length ≤ 1000) : Is (w.alloc (.cells (ict l).toArray 3)) (.slice (some ⟨w.heap.size, 0, none⟩) l.length l.length) l :=
  Is.owned' (base := w.heap.size) (n := l.length) ⟨by simp [ict], .inr ⟨w.heap.size, l.length, (ict l).toArray, rfl, Nat.le_refl _, World.alloc_heap_new _ _, Nat.le_refl _, by unfold maxLen; omega, by simp [ict], by rw [List.toList_toArray]; exact List.take_of_length_le (by simp [ict])⟩⟩
theorem is_nil (w : World) : Is w (.slice none 0 0) [] := ⟨none, 0, rfl, Nat.le_refl _, by unfold maxLen; omega, fun _ => ⟨rfl, rfl⟩, fun e => absurd rfl e⟩
theorem made24 (w : World) : Is (w.alloc (.cells #[.int .i64 2, .int .i64 4] 3)) (.slice (some ⟨w.heap.size, 0, none⟩) 2 2) [2, 4] := is_made w [2, 4] (by decide)
theorem made1 (w : World) : Is (w.alloc (.cells #[.int .i64 1] 3)) (.slice (some ⟨w.heap.size, 0, none⟩) 1 1) [1] := is_made w [1] (by decide)
theorem made31 (w : World) : Is (w.alloc (.cells #[.int .i64 3, .int .i64 1] 3)) (.slice (some ⟨w.heap.size, 0, none⟩) 2 2) [3, 1] := is_made w [3, 1] (by decide)
set_option maxHeartbeats 2000000 in
theorem awake_any (W : World) : Calls Try.prog 6 #[] W fun e w' => e = .returned (.bool true) ∧ Below W.heap.size W w' := by
  go_enter Try.func6, Try.ntmps6
  have hb1 := below_alloc W (.cells #[.int .i64 2, .int .i64 4] 3)
  have I1 := hid (made24 W)
  have H1 := hid hb1
  clear hb1
  go_wp2_with fail
  refine (due_any _ [2, 4] 3 _ I1.out).mono ?_
  rintro e w1 ⟨rfl, t1, hw1⟩
  rw [show dueL [2, 4] 3 = false from rfl]
  have H2 := hid (show Below W.heap.size W w1 from by rw [hw1]; exact H1.out.trans ((below_drewNW _ t1).mono H1.out.size))
  clear I1 H1 hw1
  have I2 := hid (made24 w1)
  have hb2 := below_alloc w1 (.cells #[.int .i64 2, .int .i64 4] 3)
  have H3 := hid (H2.out.trans (hb2.mono H2.out.size))
  clear hb2 H2
  go_wp2_with fail
  refine (due_any _ [2, 4] 4 _ I2.out).mono ?_
  rintro e w2 ⟨rfl, t2, hw2⟩
  rw [show dueL [2, 4] 4 = true from rfl]
  have H4 := hid (show Below W.heap.size W w2 from by rw [hw2]; exact H3.out.trans ((below_drewNW _ t2).mono H3.out.size))
  clear I2 H3 hw2
  have I3 := hid (made24 w2)
  have hb3 := below_alloc w2 (.cells #[.int .i64 2, .int .i64 4] 3)
  have H5 := hid (H4.out.trans (hb3.mono H4.out.size))
  clear hb3 H4
  go_wp2_with fail
  refine (reached_any _ [2, 4] 3 _ I3.out).mono ?_
  rintro e w3 ⟨rfl, t3, hw3⟩
  rw [show reachedL [2, 4] 3 = 1 from rfl]
  have H6 := hid (show Below W.heap.size W w3 from by rw [hw3]; exact H5.out.trans ((below_drewNW _ t3).mono H5.out.size))
  clear I3 H5 hw3
  have hb4 := below_alloc w3 (.cells #[.int .i64 1] 3)
  have hb5 := below_alloc (w3.alloc (.cells #[.int .i64 1] 3)) (.cells #[.int .i64 3, .int .i64 1] 3)
  have I4 := hid ((made1 w3).below hb5)
  have I5 := hid (show Is ((w3.alloc (.cells #[.int .i64 1] 3)).alloc (.cells #[.int .i64 3, .int .i64 1] 3)) (.slice (some ⟨w3.heap.size + 1, 0, none⟩) 2 2) [3, 1] from by have := made31 (w3.alloc (.cells #[.int .i64 1] 3)); rwa [World.size_alloc] at this)
  have h7 := H6.out.trans (hb4.mono H6.out.size)
  have H7 := hid (h7.trans (hb5.mono h7.size))
  clear h7 hb4 hb5 H6
  go_wp2_with fail
  refine (grows_any _ _ [1] [3, 1] _ I4.out I5.out (by decide)).mono ?_
  rintro e w4 ⟨rfl, hb⟩
  rw [show growsL [1] [3, 1] = true from rfl]
  have H8 := hid (H7.out.trans (hb.mono H7.out.size))
  clear hb I4 I5 H7
  have I6 := hid (made1 w4)
  have hb6 := below_alloc w4 (.cells #[.int .i64 1] 3)
  have H9 := hid (H8.out.trans (hb6.mono H8.out.size))
  clear hb6 H8
  go_wp2_with fail
  refine (grows_any _ _ [1] [] _ I6.out (is_nil _) (by decide)).mono ?_
  rintro e w5 ⟨rfl, hb⟩
  rw [show growsL [1] [] = false from rfl]
  have H10 := hid (H9.out.trans (hb.mono H9.out.size))
  clear hb I6 H9
  go_wp2
  go_ret
  exact ⟨rfl, H10.out⟩
end Go.Proofs.Ytpnjjiibcllgiaa
