/- What the program's own code.Num and code.Text do: they lay eight bytes, and a text behind its length, behind a copy of what they are handed; nothing that was there is turned. -/
import Derived.Test.YtpkobobandcclaaProg
import Derived.Test.YtpkobobandcclaaMath
import Derived.WalkSpells
import Derived.WalkLawsBesides
import Derived.Room.AppendFits
namespace Go.Proofs.Ytpkobobandcclaa
open Go.RowKit
set_option linter.unusedVariables false
theorem Try.info5 : (Try.prog.info? 5).map (fun i => (i.zero, i.size, i.bytes)) = some (some (.int .u8 0), 1, 1) := by kernel_rfl

set_option maxHeartbeats 400000 in
theorem low_any (x n : Int) (w : World) (h1 : 1 ≤ n) (h2 : n ≤ 4611686018427387904) :
    Calls Try.prog 22 #[.int .i64 x, .int .i64 n] w fun e w' => e = .returned (.int .i64 (low x n)) ∧ w = w' := by
  go_enter Try.func22, Try.ntmps22
  go_wp2
  go_ret
  exact ⟨by rw [low_eq x n h1 h2]; rfl, rfl⟩

set_option maxHeartbeats 400000 in
theorem laynum_any (g k cap base : Nat) (n : Int) (l : List Int) (w : World) (hown : w.ownsRow base 5 1 (.slice (some ⟨g, 0, none⟩) k cap) k (cel l)) (hc : k + 8 ≤ cap) (hb : base ≤ w.heap.size) (hbg : base ≤ g) (hm : cap ≤ maxLen) :
    Calls Try.prog 60 #[.slice (some ⟨g, 0, none⟩) k cap, .int .i64 n] w fun e w' => e = .returned (.slice (some ⟨g, 0, none⟩) (k+8) cap) ∧ w'.ownsRow base 5 1 (.slice (some ⟨g, 0, none⟩) (k+8) cap) (k+8) (cel (l ++ be8 n)) ∧ Below base w w' := by
  unfold maxLen at hm
  obtain ⟨i0, hi, hz0, hz1, hz2⟩ := info_parts Try.info5
  go_enter Try.func60, Try.ntmps60
  go_wp2
  go_loopw [0, 6] (fun v i wr => ∃ m : Nat, m ≤ 8 ∧ i = .int .i64 (56 - 8 * (m : Int)) ∧ v = .slice (some ⟨g, 0, none⟩) (k+m) cap ∧ wr.ownsRow base 5 1 (.slice (some ⟨g, 0, none⟩) (k+m) cap) (k+m) (cel (l ++ (be8 n).take m)) ∧ Below base w wr)
    (fun _ i _ => (intOf i + 8).toNat)
  case atStart => exact ⟨0, by omega, rfl, rfl, by simpa using hown, Below.refl _ _⟩
  case round =>
    obtain ⟨m, hm8, rfl, rfl, ho, hbel⟩ := hrel
    by_cases hlt : m < 8
    · have hsz := hbel.size
      go_wp2_with (at_builtin; refine wpList_append_fits _ rfl _ _ 25 rfl base 5 i0 1 Try.underlying25 hi hz1 g (k+m) cap _ rfl (ho.alloc _) ⟨wr.heap.size, 0, none⟩ 1 1 [.int .u8 (IntKind.u64.wrap n / 2 ^ (56 - 8 * m) % 256)] rfl rfl (cell_one_new _ _ _) (by intro u hu; simp at hu; subst hu; rfl) (by omega) ?_; intro w1 ho1 hg1)
      have hbel1 : Below base w w1 := (hbel.alloc (by omega) _).grown hg1 (by simp; omega) (by intro q hq; cases hq; exact hbg)
      have ho2 : w1.ownsRow base 5 1 (.slice (some ⟨g, 0, none⟩) (k+(m+1)) cap) (k+(m+1)) (cel (l ++ (be8 n).take (m+1))) := by
        rw [be8_take n m hlt, ← List.append_assoc, cel_append]; exact ho1
      clear ho1 hg1 ho hbel
      go_roundw
      case rel => exact ⟨m+1, by omega, by go_num, rfl, ho2, hbel1⟩
      case measure => simp [intOf]; omega
    · obtain rfl : m = 8 := by omega
      go_wp2
      go_ret
      exact ⟨rfl, by rw [be8_take8] at ho; exact ho, hbel⟩

set_option maxHeartbeats 400000 in
theorem copy_any (v : Value) (r : Nat) (l : List Int) (w : World) (hv : Bs w v l) (hr : l.length + r ≤ 281474976710656) :
    Calls Try.prog 61 #[v, .int .i64 r] w fun e w' => e = .returned (.slice (some ⟨w.heap.size, 0, none⟩) l.length (l.length + r)) ∧ w'.ownsRow w.heap.size 5 1 (.slice (some ⟨w.heap.size, 0, none⟩) l.length (l.length + r)) l.length (cel l) ∧ Below w.heap.size w w' := by
  have hv0 := hv
  obtain ⟨ao, cap, rfl, h1, h2, h3, h4⟩ := hv
  obtain ⟨i0, hi, hz0, hz1, hz2⟩ := info_parts Try.info5
  have HV : Hid (Bs w (.slice ao l.length cap) l) := hv0
  clear hv0 h4
  unfold maxLen at h2
  go_enter Try.func61, Try.ntmps61
  go_wp2_with (first | (at_make; refine wpList_make_own _ rfl _ _ 25 rfl w.heap.size 5 i0 (.int .u8 0) 1 Try.underlying25 hi hz0 hz1 .i64 .i64 _ (l.length + r) rfl rfl (by omega) (by rw [hz2]; omega) (by unfold maxLen; omega) (Nat.le_refl _) ?_; intro w1 ho1 hg1) | (at_builtin; refine wpList_append_fits_any _ rfl _ _ 25 rfl w.heap.size 5 i0 1 Try.underlying25 hi hz1 w.heap.size 0 (l.length + r) _ rfl ho1 ao l.length cap (cel l) rfl (by rw [cel_length]; omega) (fun e => ⟨by rw [(h3 e).1]; rfl, (h3 e).2⟩) (HV.out.news ((Below.refl _ _).grown hg1 (Nat.le_refl _) (by intro q hq; cases hq))) (cel_oneCell l) (by omega) ?_; intro w2 ho2 hg2))
  have hb1 : Below w.heap.size w w1 := (Below.refl _ _).grown hg1 (Nat.le_refl _) (by intro q hq; cases hq)
  have hb2 : Below w.heap.size w w2 := hb1.grown hg2 hb1.size (by intro q hq; cases hq; exact Nat.le_refl _)
  rw [Nat.zero_add] at *
  go_ret
  exact ⟨by simp, by simpa using ho2, hb2⟩

set_option maxHeartbeats 400000 in
theorem num_any (v : Value) (n : Int) (l : List Int) (w : World) (hv : Bs w v l) (hr : l.length + 8 ≤ 281474976710656) :
    Calls Try.prog 42 #[v, .int .i64 n] w fun e w' => e = .returned (.slice (some ⟨w.heap.size, 0, none⟩) (l.length + 8) (l.length + 8)) ∧ w'.ownsRow w.heap.size 5 1 (.slice (some ⟨w.heap.size, 0, none⟩) (l.length + 8) (l.length + 8)) (l.length + 8) (cel (l ++ be8 n)) ∧ Below w.heap.size w w' := by
  go_enter Try.func42, Try.ntmps42
  go_wp2_with fail
  refine (copy_any v 8 l w hv hr).mono ?_
  rintro e w1 ⟨rfl, ho1, hb1⟩
  go_wp2_with fail
  refine (laynum_any w.heap.size l.length (l.length + 8) w.heap.size n l w1 ho1 (Nat.le_refl _) hb1.size (Nat.le_refl _) (by unfold maxLen; omega)).mono ?_
  rintro e w2 ⟨rfl, ho2, hb2⟩
  go_wp2_with fail
  go_ret
  exact ⟨rfl, ho2, hb1.trans hb2⟩

set_option maxHeartbeats 400000 in
theorem text_any (v : Value) (s : ByteArray) (l : List Int) (w : World) (hv : Bs w v l) (hr : l.length + (8 + s.size) ≤ 281474976710656) :
    Calls Try.prog 59 #[v, .string s] w fun e w' => e = .returned (.slice (some ⟨w.heap.size, 0, none⟩) (l.length + 8 + s.size) (l.length + (8 + s.size))) ∧ w'.ownsRow w.heap.size 5 1 (.slice (some ⟨w.heap.size, 0, none⟩) (l.length + 8 + s.size) (l.length + (8 + s.size))) (l.length + 8 + s.size) (cel (l ++ be8 s.size) ++ Lib.strCells s) ∧ Below w.heap.size w w' := by
  obtain ⟨i0, hi, hz0, hz1, hz2⟩ := info_parts Try.info5
  have HV : Hid (Bs w v l) := hv
  clear hv
  go_enter Try.func59, Try.ntmps59
  go_wp2_with fail
  rw [show (8 + (s.size : Int)) = ((8 + s.size : Nat) : Int) from by omega]
  refine (copy_any v (8 + s.size) l w HV.out hr).mono ?_
  rintro e w1 ⟨rfl, ho1, hb1⟩
  go_wp2_with fail
  refine (laynum_any w.heap.size l.length (l.length + (8 + s.size)) w.heap.size s.size l w1 ho1 (by omega) hb1.size (Nat.le_refl _) (by unfold maxLen; omega)).mono ?_
  rintro e w2 ⟨rfl, ho2, hb2⟩
  have hb12 := hb1.trans hb2
  clear ho1 hb1 hb2
  go_wp2_with (at_builtin; refine Lib.wpList_append_fits_string _ rfl _ _ 25 9 rfl w.heap.size 5 i0 Try.underlying25 Try.underlying9 hi hz1 _ (l.length + 8) (l.length + (8 + s.size)) _ rfl ho2 s rfl (by omega) (by omega) ?_; intro w3 ho3 hg3)
  have hb3 : Below w.heap.size w w3 := hb12.grown hg3 hb12.size (by intro q hq; cases hq; exact Nat.le_refl _)
  go_ret
  exact ⟨rfl, ho3, hb3⟩
end Go.Proofs.Ytpkobobandcclaa
