/- What awake does: it answers true, and turns nothing that was there. -/
import Derived.Test.YtpaglpcponkabaaInts
namespace Go.Proofs.Ytpaglpcponkabaa
open Go.RowKit
set_option linter.unusedVariables false

def zero8 : List Int := [0, 0, 0, 0, 0, 0, 0, 0]
theorem Cts.zero : Cts zero8 := fun j => by
  rcases Nat.lt_or_ge j 8 with h | h
  · have : j = 0 ∨ j = 1 ∨ j = 2 ∨ j = 3 ∨ j = 4 ∨ j = 5 ∨ j = 6 ∨ j = 7 := by omega
    rcases this with rfl | rfl | rfl | rfl | rfl | rfl | rfl | rfl <;> decide
  · simp [List.getD, List.getElem?_eq_none (show zero8.length ≤ j from h)]
theorem Tl.new (w : World) (t : TypeId) : Tl (w.alloc (.cells #[.int .i64 0, .int .i64 0, .int .i64 0, .int .i64 0, .int .i64 0, .int .i64 0, .int .i64 0, .int .i64 0] t)) w.heap.size zero8 := by
  refine ⟨rfl, by simp, fun j hj => ?_⟩
  have : j = 0 ∨ j = 1 ∨ j = 2 ∨ j = 3 ∨ j = 4 ∨ j = 5 ∨ j = 6 ∨ j = 7 := by omega
  rcases this with rfl | rfl | rfl | rfl | rfl | rfl | rfl | rfl <;> exact ⟨by simp [zero8], by simp⟩
theorem But.keep {b : Nat} {x y z : World} (h : Below x.heap.size x y) (hb : x.heap.size ≤ b) (k : But b y z) : Below x.heap.size x z := h.trans (k.below hb h.size)

set_option maxHeartbeats 1000000 in
theorem awake_any (w : World) : Calls Try.prog 7 #[] w fun e w' => e = .returned (.bool true) ∧ Below w.heap.size w w' := by
  have e1 : vl (addC zero8 2 3) 2 = 3 := by decide
  have e2 : vl (raiseC (addC zero8 2 3) 2 9) 2 = 9 := by decide
  have e3 : vl (raiseC (raiseC (addC zero8 2 3) 2 9) 2 4) 2 = 9 := by decide
  have H1 := hid e1
  have H2 := hid e2
  have H3 := hid e3
  clear e1 e2 e3
  go_enter Try.func7, Try.ntmps7
  go_wp2_with fail
  refine (new_any w).mono ?_
  rintro e w1 ⟨rfl, hw1⟩
  have ht := Tl.new w 48
  have hb : Below w.heap.size w w1 := by rw [hw1]; exact (Below.refl _ _).alloc (Nat.le_refl _) _
  rw [← hw1] at ht
  clear hw1
  generalize hbk : w.heap.size = b at *
  have HB := hid hbk
  clear hbk
  go_wp2_with fail
  refine (add_any b 2 3 zero8 w1 ht Cts.zero).mono ?_
  rintro e w2 ⟨rfl, ht2, hu2⟩
  rw [H1.out]
  have hb2 := hb.trans (hu2.below (B := b) (Nat.le_refl _) (Nat.le_of_lt ht.2.1))
  clear ht hu2 hb
  generalize addC zero8 2 3 = c2 at *
  go_wp2_with fail
  refine (raise_any b 2 9 _ w2 ht2).mono ?_
  rintro e w3 ⟨rfl, ht3, hu3⟩
  rw [H2.out]
  have hb3 := hb2.trans (hu3.below (B := b) (Nat.le_refl _) (Nat.le_of_lt ht2.2.1))
  clear ht2 hu3 hb2
  generalize raiseC c2 2 9 = c3 at *
  go_wp2_with fail
  refine (raise_any b 2 4 _ w3 ht3).mono ?_
  rintro e w4 ⟨rfl, ht4, hu4⟩
  rw [H3.out]
  have hb4 := hb3.trans (hu4.below (B := b) (Nat.le_refl _) (Nat.le_of_lt ht3.2.1))
  clear ht3 hu4 hb3
  generalize raiseC c3 2 4 = c4 at *
  go_wp2_with fail
  refine (get_any b 2 _ w4 ht4).mono ?_
  rintro e w5 ⟨rfl, rfl⟩
  rw [H3.out]
  go_wp2_with fail
  refine (all_any b _ w4 ht4).mono ?_
  rintro e w6 ⟨rfl, ho6, hb6⟩
  have hb7 := hb4.trans (hb6.mono (Nat.le_of_lt ht4.2.1))
  clear ho6 hb6 ht4 hb4
  go_wp2
  go_ret
  exact ⟨rfl, by rw [HB.out]; exact hb7⟩
end Go.Proofs.Ytpaglpcponkabaa
