/- What awake does; a window that the call made. -/
import Derived.Test.YtaobiohdhdklaaaWnAck
import Derived.Test.YtaobiohdhdklaaaWnOpen
namespace Go.Proofs.Ytaobiohdhdklaaa
open Go.RowKit
set_option linter.unusedVariables false

/-- A window in block b, made behind B; of what was there nothing has turned. -/
structure OnW (T B b : Nat) (x : WinV) (W w : World) : Prop where
  wn : Wn T b x w
  ok : WinOk x
  lo : B ≤ b
  bel : Below B W w
theorem OnW.size {T B b : Nat} {x : WinV} {W w : World} (h : OnW T B b x W w) : B ≤ w.heap.size := Nat.le_trans h.lo (Nat.le_of_lt h.wn.lt)
theorem OnW.new (T : Nat) (count size : Int) (w : World) (hm : mayW count size = true) : OnW T w.heap.size w.heap.size (newW count size) w (newWorld T count size w) :=
  ⟨Wn.new T count size w, newW_ok hm, Nat.le_refl _, below_new T count size w⟩
theorem OnW.below {T B b : Nat} {x : WinV} {W w w' : World} (h : OnW T B b x W w) (hb : Below w.heap.size w w') : OnW T B b x W w' :=
  ⟨h.wn.below hb, h.ok, h.lo, h.bel.trans (hb.mono h.size)⟩
theorem OnW.just {T B b : Nat} {x x' : WinV} {W w w' : World} (h : OnW T B b x W w) (k : Wn T b x' w') (ko : WinOk x') (hs : Sav (Just b) w w') : OnW T B b x' W w' :=
  ⟨k, ko, h.lo, h.bel.trans (hs.below (fun i hi => by rw [show i = b from hi]; exact h.lo) h.size)⟩
/-- A list that the call owns stays as a window is turned. -/
theorem owns_turn {T b base n : Nat} {x : WinV} {w w' : World} {v : Value} {xs : List Value} (ho : w.ownsRow base 3 1 v n xs) (h : Wn T b x w) (hT : T ≠ 3) (hs : Sav (Just b) w w') : w'.ownsRow base 3 1 v n xs :=
  owns_sav ho hs (fun k hk e => owns_ne ho h hT (by rw [hk]; exact congrArg some e.symm))
theorem below_alloc (w : World) (o : Obj) : Below w.heap.size w (w.alloc o) := (Below.refl _ _).alloc (Nat.le_refl _) _
theorem is_made (w : World) (l : List Int) (h : l.length ≤ 1000) : Is (w.alloc (.cells (ict l).toArray 3)) (.slice (some ⟨w.heap.size, 0, none⟩) l.length l.length) l :=
  Is.owned (base := w.heap.size) (n := l.length) ⟨by simp [ict], .inr ⟨w.heap.size, l.length, (ict l).toArray, rfl, Nat.le_refl _, new_block _ _, Nat.le_refl _, by unfold maxLen; omega, by simp [ict], by rw [List.toList_toArray]; exact List.take_of_length_le (by simp [ict])⟩⟩
theorem owns_below {w w' : World} {base e s n : Nat} {v : Value} {xs : List Value} (ho : w.ownsRow base e s v n xs) (hb : Below w.heap.size w w') : w'.ownsRow base e s v n xs :=
  owns_sav ho (Sav.of_below (S := Non) hb) (fun _ _ h => h)
theorem new_yes {count size : Int} {T : Nat} {w w' : World} {e : Ending} (h : NewIs T count size w e w') (hm : mayW count size = true) : e = .returned (.tuple #[.pointer (some ⟨w.heap.size, 0, none⟩), .int .i64 0]) ∧ OnW T w.heap.size w.heap.size (newW count size) w w' := by
  unfold NewIs at h
  rw [if_pos hm] at h
  exact ⟨h.1, by rw [h.2]; exact OnW.new T count size w hm⟩

set_option maxHeartbeats 2000000 in
theorem awake_any (W : World) : Calls Try.prog 7 #[] W fun e w' => e = .returned (.bool true) ∧ Below W.heap.size W w' := by
  go_enter Try.func7, Try.ntmps7
  go_wp2_with fail
  refine (new_any 5 2 W).mono ?_
  intro e w1 hnew
  obtain ⟨rfl, h1⟩ := new_yes hnew (by decide)
  have H1 := hid h1
  clear hnew h1
  go_wp2_with fail
  refine (open_any _ _ w1 H1.out.wn H1.out.ok).mono ?_
  rintro e w2 ⟨ao, c, rfl, ho, hb⟩
  have H2 := hid (H1.out.below hb)
  have O2 := hid ho
  have ho2n : openN (newW 5 2) = 2 := by decide
  rw [ho2n]
  clear hb ho H1
  go_wp2_with fail
  refine (ack_any _ _ 1 3 w2 H2.out.wn H2.out.ok).mono ?_
  rintro e w3 ⟨rfl, hw3, hs3⟩
  rw [show ackB (newW 5 2) 1 3 = true from rfl]
  have hk3 := ackW_ok H2.out.ok 1 3
  rw [show ackW (newW 5 2) 1 3 = ⟨5, 2, 1, 3⟩ from rfl] at hw3 hk3
  have H3 := hid (H2.out.just hw3 hk3 hs3)
  have O3 := hid (owns_turn O2.out H2.out.wn (by decide) hs3)
  clear hw3 hs3 hk3 H2 O2
  go_wp2_with fail
  refine (ack_any _ _ 1 2 w3 H3.out.wn H3.out.ok).mono ?_
  rintro e w4 ⟨rfl, hw4, hs4⟩
  rw [show ackB ⟨5, 2, 1, 3⟩ 1 2 = false from rfl]
  have hk4 := ackW_ok H3.out.ok 1 2
  rw [show ackW ⟨5, 2, 1, 3⟩ 1 2 = ⟨5, 2, 1, 3⟩ from rfl] at hw4 hk4
  have H4 := hid (H3.out.just hw4 hk4 hs4)
  have O4 := hid (owns_turn O3.out H3.out.wn (by decide) hs4)
  clear hw4 hs4 hk4 H3 O3
  go_wp2_with fail
  refine (ack_any _ _ 2 0 w4 H4.out.wn H4.out.ok).mono ?_
  rintro e w5 ⟨rfl, hw5, hs5⟩
  rw [show ackB ⟨5, 2, 1, 3⟩ 2 0 = true from rfl]
  have hk5 := ackW_ok H4.out.ok 2 0
  rw [show ackW ⟨5, 2, 1, 3⟩ 2 0 = ⟨5, 2, 2, 0⟩ from rfl] at hw5 hk5
  have H5 := hid (H4.out.just hw5 hk5 hs5)
  have O5 := hid (owns_turn O4.out H4.out.wn (by decide) hs5)
  clear hw5 hs5 hk5 H4 O4
  go_wp2_with fail
  have hb6 := below_alloc w5 (.cells #[.int .i64 0, .int .i64 1] 3)
  have H6 := hid (H5.out.below hb6)
  have A6 := hid (is_made w5 [0, 1] (by decide))
  have I6 := hid (show Is _ (.slice ao 2 c) [0, 1] from Is.owned (owns_below O5.out hb6))
  clear hb6 O5
  refine (sameInts_any _ _ [0, 1] [0, 1] _ I6.out A6.out).mono ?_
  rintro e w7 ⟨rfl, n7, rfl⟩
  have H7 := hid (H6.out.below (below_drewNW _ n7))
  rw [decide_eq_true rfl]
  clear H6 I6 A6
  go_wp2_with fail
  refine (open_any _ _ _ H7.out.wn H7.out.ok).mono ?_
  rintro e w8 ⟨ao8, c8, rfl, ho8, hb8⟩
  have H8 := hid (H7.out.below hb8)
  have O8 := hid ho8
  have ho8n : openN ⟨5, 2, 2, 0⟩ = 2 := rfl
  rw [ho8n]
  clear hb8 ho8 H7
  go_wp2_with fail
  have hb9 := below_alloc w8 (.cells #[.int .i64 0, .int .i64 1] 3)
  have H9 := hid (H8.out.below hb9)
  have A9 := hid (is_made w8 [0, 1] (by decide))
  have I9 := hid (show Is _ (.slice ao8 2 c8) [0, 1] from Is.owned (owns_below O8.out hb9))
  clear hb9 O8
  refine (sameInts_any _ _ [0, 1] [0, 1] _ I9.out A9.out).mono ?_
  rintro e w10 ⟨rfl, n10, rfl⟩
  have H10 := hid (H9.out.below (below_drewNW _ n10))
  rw [decide_eq_true rfl]
  clear H9 I9 A9
  go_wp2_with fail
  refine (epoch_any _ _ _ H10.out.wn).mono ?_
  rintro e w11 ⟨rfl, rfl⟩
  go_wp2
  go_ret
  exact ⟨rfl, H10.out.bel⟩
end Go.Proofs.Ytaobiohdhdklaaa
