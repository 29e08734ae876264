/- A window in a block of its own: New, Next, Epoch, Done, of the program and of the document's own; calls of a nil one. -/
import Derived.Test.YtaobiohdhdklaaaAppAt
import Derived.Test.YtaobiohdhdklaaaWnMath
import Derived.Test.YtaobiohdhdklaaaIntsP
import Derived.RegionTactic
import Derived.BigRegion
import Derived.Deep.RegionHeld3
import Derived.Handy
namespace Go.Proofs.Ytaobiohdhdklaaa
open Go.RowKit
set_option linter.unusedVariables false

/-- Block b is a window, of the program (its type is T) or of the document's own. -/
def Wn (T b : Nat) (x : WinV) (w : World) : Prop := w.heap[b]? = some (.cells #[.int .i64 x.count, .int .i64 x.size, .int .i64 x.epoch, .int .i64 x.next] T (0, 0))
theorem Wn.lt {T b : Nat} {x : WinV} {w : World} (h : Wn T b x w) : b < w.heap.size := lt_of_block h
theorem Wn.sav {T b : Nat} {x : WinV} {w w' : World} {S : Nat → Prop} (h : Wn T b x w) (hs : Sav S w w') (hn : ¬ S b) : Wn T b x w' := hs.at h hn
theorem Wn.below {T b : Nat} {x : WinV} {w w' : World} (h : Wn T b x w) (hb : Below w.heap.size w w') : Wn T b x w' :=
  h.sav (Sav.of_below (S := Non) hb) (fun h => h)
theorem Wn.c0 {T b : Nat} {x : WinV} {w : World} (h : Wn T b x w) : w.cell? ⟨b, 0, none⟩ = some (.int .i64 x.count) := cell_of_cells h
theorem Wn.c1 {T b : Nat} {x : WinV} {w : World} (h : Wn T b x w) : w.cell? ⟨b, 1, none⟩ = some (.int .i64 x.size) := cell_of_cells h
theorem Wn.c2 {T b : Nat} {x : WinV} {w : World} (h : Wn T b x w) : w.cell? ⟨b, 2, none⟩ = some (.int .i64 x.epoch) := cell_of_cells h
theorem Wn.c3 {T b : Nat} {x : WinV} {w : World} (h : Wn T b x w) : w.cell? ⟨b, 3, none⟩ = some (.int .i64 x.next) := cell_of_cells h
theorem Wn.free {T b : Nat} {x : WinV} {w : World} (h : Wn T b x w) (j : Nat) : w.frozen? ⟨b, j, none⟩ = false := free_of_cells h
/-- The block of a new one. -/
def newWorld (T : Nat) (count size : Int) (w : World) : World := w.alloc (.cells #[.int .i64 count, .int .i64 size, .int .i64 0, .int .i64 0] T)
theorem Wn.new (T : Nat) (count size : Int) (w : World) : Wn T w.heap.size (newW count size) (newWorld T count size w) := new_block _ _
theorem below_new (T : Nat) (count size : Int) (w : World) : Below w.heap.size w (newWorld T count size w) := (Below.refl _ _).alloc (Nat.le_refl _) _
theorem size_new (T : Nat) (count size : Int) (w : World) : (newWorld T count size w).heap.size = w.heap.size + 1 := by simp [newWorld]
theorem below_drewNW (w : World) (t : Nat) : Below w.heap.size w (w.drewN t) := ⟨rfl, rfl, rfl, Nat.le_refl _, fun _ _ => rfl⟩

/-- What New answers in both programs. -/
def NewIs (T : Nat) (count size : Int) (w : World) (e : Ending) (w' : World) : Prop :=
  if mayW count size = true then e = .returned (.tuple #[.pointer (some ⟨w.heap.size, 0, none⟩), .int .i64 0]) ∧ w' = newWorld T count size w
  else e = .returned (.tuple #[.pointer none, .int .i64 2]) ∧ w' = w
set_option maxHeartbeats 1000000 in
theorem new_any (count size : Int) (w : World) : Calls Try.prog 8 #[.int .i64 count, .int .i64 size] w fun e w' => NewIs 47 count size w e w' := by
  cases hm : mayW count size with
  | true =>
    have HM := hid hm
    unfold mayW at hm
    simp only [Bool.and_eq_true, decide_eq_true_eq] at hm
    obtain ⟨h1, h2, h3, h4⟩ := hm
    have d1 : decide (count < 0) = false := by simp; omega
    have d2 : decide (40 < count) = false := by simp; omega
    have d3 : decide (size < 1) = false := by simp; omega
    have d4 : decide (4 < size) = false := by simp; omega
    go_enter Try.func8, Try.ntmps8
    go_wp2
    go_ret2
    unfold NewIs
    rw [if_pos HM.out]
    exact ⟨rfl, rfl⟩
  | false =>
    have HM := hid hm
    have hno := mayW_no hm
    clear hm
    by_cases h1 : count < 0
    · have d1 : decide (count < 0) = true := by simp; omega
      clear hno
      go_enter Try.func8, Try.ntmps8
      go_wp2
      go_ret2
      unfold NewIs
      rw [if_neg (by rw [HM.out]; decide)]
      exact ⟨rfl, rfl⟩
    · have d1 : decide (count < 0) = false := by simp; omega
      by_cases h2 : 40 < count
      · have d2 : decide (40 < count) = true := by simp; omega
        clear hno
        go_enter Try.func8, Try.ntmps8
        go_wp2
        go_ret2
        unfold NewIs
        rw [if_neg (by rw [HM.out]; decide)]
        exact ⟨rfl, rfl⟩
      · have d2 : decide (40 < count) = false := by simp; omega
        by_cases h3 : size < 1
        · have d3 : decide (size < 1) = true := by simp; omega
          clear hno
          go_enter Try.func8, Try.ntmps8
          go_wp2
          go_ret2
          unfold NewIs
          rw [if_neg (by rw [HM.out]; decide)]
          exact ⟨rfl, rfl⟩
        · have d3 : decide (size < 1) = false := by simp; omega
          have d4 : decide (4 < size) = true := by simp; omega
          clear hno
          go_enter Try.func8, Try.ntmps8
          go_wp2
          go_ret2
          unfold NewIs
          rw [if_neg (by rw [HM.out]; decide)]
          exact ⟨rfl, rfl⟩
set_option maxHeartbeats 1000000 in
theorem refNew_any (count size : Int) (w : World) : Calls Try.prog 9 #[.int .i64 count, .int .i64 size] w fun e w' => NewIs 40 count size w e w' := by
  cases hm : mayW count size with
  | true =>
    have HM := hid hm
    unfold mayW at hm
    simp only [Bool.and_eq_true, decide_eq_true_eq] at hm
    obtain ⟨h1, h2, h3, h4⟩ := hm
    have d1 : decide (count < 0) = false := by simp; omega
    have d2 : decide (40 < count) = false := by simp; omega
    have d3 : decide (size < 1) = false := by simp; omega
    have d4 : decide (4 < size) = false := by simp; omega
    go_enter Try.func9, Try.ntmps9
    go_wp2
    go_ret2
    unfold NewIs
    rw [if_pos HM.out]
    exact ⟨rfl, rfl⟩
  | false =>
    have HM := hid hm
    have hno := mayW_no hm
    clear hm
    by_cases h1 : count < 0
    · have d1 : decide (count < 0) = true := by simp; omega
      clear hno
      go_enter Try.func9, Try.ntmps9
      go_wp2
      go_ret2
      unfold NewIs
      rw [if_neg (by rw [HM.out]; decide)]
      exact ⟨rfl, rfl⟩
    · have d1 : decide (count < 0) = false := by simp; omega
      by_cases h2 : 40 < count
      · have d2 : decide (40 < count) = true := by simp; omega
        clear hno
        go_enter Try.func9, Try.ntmps9
        go_wp2
        go_ret2
        unfold NewIs
        rw [if_neg (by rw [HM.out]; decide)]
        exact ⟨rfl, rfl⟩
      · have d2 : decide (40 < count) = false := by simp; omega
        by_cases h3 : size < 1
        · have d3 : decide (size < 1) = true := by simp; omega
          clear hno
          go_enter Try.func9, Try.ntmps9
          go_wp2
          go_ret2
          unfold NewIs
          rw [if_neg (by rw [HM.out]; decide)]
          exact ⟨rfl, rfl⟩
        · have d3 : decide (size < 1) = false := by simp; omega
          have d4 : decide (4 < size) = true := by simp; omega
          clear hno
          go_enter Try.func9, Try.ntmps9
          go_wp2
          go_ret2
          unfold NewIs
          rw [if_neg (by rw [HM.out]; decide)]
          exact ⟨rfl, rfl⟩
theorem num_any (n : Int) (w : World) : Calls Try.prog 10 #[.int .i64 n] w fun e w' => e = .returned (.int .i64 n) ∧ w' = w := by
  go_enter Try.func10, Try.ntmps10
  go_wp2
  go_ret
  exact ⟨rfl, rfl⟩

set_option maxHeartbeats 1000000 in
theorem next_any (b : Nat) (x : WinV) (w : World) (h : Wn 47 b x w) :
    Calls Try.prog 16 #[.pointer (some ⟨b, 0, none⟩)] w fun e w' => e = .returned (.int .i64 x.next) ∧ w' = w := by
  have c3 := h.c3
  clear h
  go_enter Try.func16, Try.ntmps16
  go_wp2
  go_ret
  exact ⟨rfl, rfl⟩
set_option maxHeartbeats 1000000 in
theorem epoch_any (b : Nat) (x : WinV) (w : World) (h : Wn 47 b x w) :
    Calls Try.prog 17 #[.pointer (some ⟨b, 0, none⟩)] w fun e w' => e = .returned (.int .i64 x.epoch) ∧ w' = w := by
  have c2 := h.c2
  clear h
  go_enter Try.func17, Try.ntmps17
  go_wp2
  go_ret
  exact ⟨rfl, rfl⟩
set_option maxHeartbeats 1000000 in
theorem done_any (b : Nat) (x : WinV) (w : World) (h : Wn 47 b x w) (hx : WinOk x) :
    Calls Try.prog 18 #[.pointer (some ⟨b, 0, none⟩)] w fun e w' => e = .returned (.bool (doneW x)) ∧ ∃ t, w' = w.drewN t := by
  have c0 := h.c0
  have c3 := h.c3
  have hd : (x.next == x.count) = doneW x := by
    have := hx.n1
    unfold doneW
    rw [Bool.eq_iff_iff, beq_iff_eq, decide_eq_true_eq]
    omega
  have HD := hid hd
  clear h hx hd
  generalize x.next = n at *
  generalize x.count = c at *
  go_enter Try.func18, Try.ntmps18
  go_wp2_with fail
  go_quiet (fail)
  go_wp2
  go_ret
  exact ⟨by rw [← HD.out]; rfl, _, rfl⟩
set_option maxHeartbeats 1000000 in
theorem refDone_any (b : Nat) (x : WinV) (w : World) (h : Wn 40 b x w) :
    Calls Try.prog 19 #[.pointer (some ⟨b, 0, none⟩)] w fun e w' => e = .returned (.bool (doneW x)) ∧ ∃ t, w' = w.drewN t := by
  have c0 := h.c0
  have c3 := h.c3
  have HD := hid (show decide (x.count ≤ x.next) = doneW x from rfl)
  clear h
  generalize x.next = n at *
  generalize x.count = c at *
  go_enter Try.func19, Try.ntmps19
  go_wp2_with fail
  go_quiet (fail)
  go_wp2
  go_ret
  exact ⟨by rw [← HD.out]; rfl, _, rfl⟩

theorem open_nil (w : World) : Calls Try.prog 13 #[.pointer none] w fun e w' => e = .returned (.slice none 0 0) ∧ w' = w := by
  go_enter Try.func13, Try.ntmps13
  go_wp2
  go_ret
  exact ⟨rfl, rfl⟩
theorem ack_nil (e n : Int) (w : World) : Calls Try.prog 11 #[.pointer none, .int .i64 e, .int .i64 n] w fun e w' => e = .returned (.bool false) ∧ w' = w := by
  go_enter Try.func11, Try.ntmps11
  go_wp2
  go_ret
  exact ⟨rfl, rfl⟩
theorem next_nil (w : World) : Calls Try.prog 16 #[.pointer none] w fun e w' => e = .returned (.int .i64 0) ∧ w' = w := by
  go_enter Try.func16, Try.ntmps16
  go_wp2
  go_ret
  exact ⟨rfl, rfl⟩
theorem epoch_nil (w : World) : Calls Try.prog 17 #[.pointer none] w fun e w' => e = .returned (.int .i64 0) ∧ w' = w := by
  go_enter Try.func17, Try.ntmps17
  go_wp2
  go_ret
  exact ⟨rfl, rfl⟩
theorem done_nil (w : World) : Calls Try.prog 18 #[.pointer none] w fun e w' => e = .returned (.bool false) ∧ ∃ t, w' = w.drewN t := by
  go_enter Try.func18, Try.ntmps18
  go_wp2_with fail
  go_quiet (fail)
  go_wp2
  go_ret
  exact ⟨rfl, _, rfl⟩
end Go.Proofs.Ytaobiohdhdklaaa
