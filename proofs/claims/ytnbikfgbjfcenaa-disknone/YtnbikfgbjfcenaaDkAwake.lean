/- What awake does, and a disk that the call made. -/
import Derived.Test.YtnbikfgbjfcenaaDk
namespace Go.Proofs.Ytnbikfgbjfcenaa
open Go.RowKit
set_option linter.unusedVariables false

/-- A disk that was made behind B; of what was there nothing has turned. -/
structure On (B b : Nat) (v : Value) (l : List Int) (n : Nat) (W w : World) : Prop where
  dk : Dk 42 B b v l n w
  lo : B ≤ b
  bel : Below B W w

theorem On.ow {B b : Nat} {v v' : Value} {l l' : List Int} {n n' : Nat} {W w w' : World} (h : On B b v l n W w) (k : Dk 42 B b v' l' n' w') (hs : Sav (Ow b v) w w') : On B b v' l' n' W w' :=
  ⟨k, h.lo, h.bel.trans (hs.below (fun i hi => by
    rcases hi with rfl | hi
    · exact h.lo
    · exact (h.dk.own.lt i hi).1) h.dk.low)⟩
theorem On.just {B b : Nat} {v v' : Value} {l l' : List Int} {n n' : Nat} {W w w' : World} (h : On B b v l n W w) (k : Dk 42 B b v' l' n' w') (hs : Sav (Just b) w w') : On B b v' l' n' W w' :=
  h.ow k (hs.mono (fun i _ hi => .inl hi))
theorem On.below {B b : Nat} {v : Value} {l : List Int} {n : Nat} {W w w' : World} (h : On B b v l n W w) (hb : Below w.heap.size w w') : On B b v l n W w' :=
  ⟨h.dk.below hb, h.lo, h.bel.trans (hb.mono h.dk.low)⟩
theorem On.new (W w : World) (hb : Below W.heap.size W w) (hw : w = W.alloc (.cells #[.slice none 0 0, .int .i64 0] 42)) : On W.heap.size W.heap.size (.slice none 0 0) [] 0 W w :=
  ⟨by rw [hw]; exact Dk.new W _ _ (Nat.le_refl _), Nat.le_refl _, hb⟩
theorem below_alloc (w : World) (o : Obj) : Below w.heap.size w (w.alloc o) := (Below.refl _ _).alloc (Nat.le_refl _) _
theorem bs_made (w : World) (l : List Int) (h : l.length ≤ 1000) : Bs (w.alloc (.cells (cel l).toArray 5)) (.slice (some ⟨w.heap.size, 0, none⟩) l.length l.length) l :=
  Bs.own (base := w.heap.size) ⟨by simp [cel], .inr ⟨w.heap.size, l.length, (cel l).toArray, rfl, Nat.le_refl _, new_block _ _, Nat.le_refl _, by unfold maxLen; omega, by simp [cel], by rw [List.toList_toArray]; exact List.take_of_length_le (by simp [cel])⟩⟩

set_option maxHeartbeats 1000000 in
theorem awake_any (W : World) : Calls Try.prog 7 #[] W fun e w' => e = .returned (.bool true) ∧ Below W.heap.size W w' := by
  have hst := hid (show stay 3 [1, 2, 3, 4, 5] 1 = 4 by decide)
  go_enter Try.func7, Try.ntmps7
  go_wp2_with fail
  refine (new_any W).mono ?_
  rintro e w1 ⟨rfl, hw1⟩
  have H := hid (On.new W w1 (by rw [hw1]; exact below_alloc _ _) hw1)
  clear hw1
  go_wp2_with fail
  have H1 := hid (H.out.below (below_alloc w1 (.cells #[.int .u8 1, .int .u8 2, .int .u8 3] 5)))
  have A1 := bs_made w1 [1, 2, 3] (by decide)
  refine (append_any _ _ _ _ _ [] [1, 2, 3] _ H1.out.dk A1 (by decide)).mono ?_
  rintro e w2 ⟨rfl, v2, hd2, hs2, -⟩
  have H2 := hid (H1.out.ow hd2 hs2)
  clear hd2 hs2 A1 H1 H
  go_wp2_with fail
  refine (sync_any _ _ _ _ _ _ H2.out.dk).mono ?_
  rintro e w3 ⟨rfl, hd3, hs3⟩
  have H3 := hid (H2.out.just hd3 hs3)
  clear hd3 hs3 H2
  go_wp2_with fail
  have H4 := hid (H3.out.below (below_alloc w3 (.cells #[.int .u8 4, .int .u8 5] 5)))
  have A4 := bs_made w3 [4, 5] (by decide)
  refine (append_any _ _ _ _ _ _ [4, 5] _ H4.out.dk A4 (by decide)).mono ?_
  rintro e w4 ⟨rfl, v4, hd4, hs4, -⟩
  have H5 := hid (H4.out.ow hd4 hs4)
  clear hd4 hs4 A4 H4 H3
  go_wp2_with fail
  refine (crash_any _ _ _ _ _ 1 _ H5.out.dk).mono ?_
  rintro e w5 ⟨rfl, v5, hd5, hs5, -⟩
  have H6 := hid (show On W.heap.size W.heap.size v5 [1, 2, 3, 4] 4 W w5 from H5.out.just hd5 hs5)
  clear hd5 hs5 H5
  go_wp2_with fail
  refine (bytes_any _ _ _ _ _ _ H6.out.dk).mono ?_
  rintro e w6 ⟨ao, c, rfl, ho6, hb6⟩
  have H7 := hid (H6.out.below hb6)
  have O7 := hid (Bs.owned ho6)
  clear ho6 hb6 H6
  go_wp2_with fail
  have H8 := hid (H7.out.below (below_alloc w6 (.cells #[.int .u8 1, .int .u8 2, .int .u8 3, .int .u8 4] 5)))
  have O8 := hid (O7.out.below (below_alloc w6 (.cells #[.int .u8 1, .int .u8 2, .int .u8 3, .int .u8 4] 5)))
  have A8 := bs_made w6 [1, 2, 3, 4] (by decide)
  refine (same_any _ _ [1, 2, 3, 4] [1, 2, 3, 4] _ O8.out A8).mono ?_
  rintro e w9 ⟨rfl, n9, rfl⟩
  have H9 := hid (H8.out.below (below_drewN1 _ n9))
  rw [decide_eq_true rfl]
  clear H7 O7 O8 A8
  go_wp2_with fail
  refine (unsynced_any _ _ _ _ _ _ H9.out.dk).mono ?_
  rintro e w10 ⟨rfl, t, rfl⟩
  have H10 := hid (H8.out.below (below_drewN1 _ (n9 + t)))
  clear H9 H8
  go_wp2_with fail
  refine (synced_any _ _ _ _ _ _ H10.out.dk).mono ?_
  rintro e w11 ⟨rfl, rfl⟩
  go_wp2
  go_ret
  exact ⟨rfl, H10.out.bel⟩
end Go.Proofs.Ytnbikfgbjfcenaa
