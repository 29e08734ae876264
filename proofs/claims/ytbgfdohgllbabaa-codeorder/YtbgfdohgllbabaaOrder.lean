/- The statement CodeOrder holds at the commit: for any two numbers that are brought to 0 .. 2^62 - 1 the bytes that code.Num lays are in the order of the numbers. -/
import Derived.Test.YtbgfdohgllbabaaAwake
import Derived.Test.YtbgfdohgllbabaaLess
namespace Go.Proofs.Ytbgfdohgllbabaa
open Go.RowKit
set_option linter.unusedVariables false

set_option maxHeartbeats 400000 in
theorem order_any (a0 a1 : Int) (w : World) :
    Calls Try.prog 7 #[.int .i64 a0, .int .i64 a1] w fun e w' => e = .returned (.bool true) ∧ Below w.heap.size w w' := by
  go_enter Try.func7, Try.ntmps7
  go_wp2_with fail
  refine (low_any a0 4611686018427387904 w (by omega) (by omega)).mono ?_
  rintro e w1 ⟨rfl, rfl⟩
  go_wp2_with fail
  refine (low_any a1 4611686018427387904 w (by omega) (by omega)).mono ?_
  rintro e w1 ⟨rfl, rfl⟩
  go_wp2_with fail
  refine (num_any _ (low a0 4611686018427387904) [] w (Bs.nil w) (by decide)).mono ?_
  rintro e w1 ⟨rfl, ho1, hb1⟩
  go_wp2_with fail
  refine (num_any _ (low a1 4611686018427387904) [] w1 (Bs.nil w1) (by decide)).mono ?_
  rintro e w2 ⟨rfl, ho2, hb2⟩
  have h0 := low_bd a0 4611686018427387904 (by omega)
  have h1 := low_bd a1 4611686018427387904 (by omega)
  obtain ⟨a, ha⟩ : ∃ a, low a0 4611686018427387904 = a := ⟨_, rfl⟩
  obtain ⟨b, hb⟩ : ∃ b, low a1 4611686018427387904 = b := ⟨_, rfl⟩
  rw [ha] at h0 ho1
  rw [hb] at h1 ho2
  rw [ha, hb]
  clear ha hb
  have l1 := be8_less a b ⟨h0.1, by omega⟩ ⟨h1.1, by omega⟩
  obtain ⟨l1, l2⟩ := l1
  have s1 : Sem.run Try.prog (convert 22 9 (.slice (some ⟨w.heap.size, 0, none⟩) 8 8)) w2 = .ok (.string (strOfNums (be8 a))) w2 := ((Bs.own ho1).below hb2).string
  have s2 : Sem.run Try.prog (convert 22 9 (.slice (some ⟨w1.heap.size, 0, none⟩) 8 8)) w2 = .ok (.string (strOfNums (be8 b))) w2 := (Bs.own ho2).string
  have hb12 := hb1.trans (hb2.mono hb1.size)
  clear hb1 hb2 ho1 ho2
  generalize strOfNums (be8 a) = X at *
  generalize strOfNums (be8 b) = Y at *
  have e1 : (decide (a < b) == Op.bytesLess X.toList Y.toList) = true := by rw [l1]; simp
  have e2 : ((a == b) == (X.toList == Y.toList)) = true := by rw [l2]; by_cases h : a = b <;> simp [h]
  clear l1 l2
  go_wp2_with (go_at_call 8; refine (awake_any _).mono ?_; rintro e w3 ⟨rfl, hb3⟩)
  go_ret
  exact ⟨rfl, hb12.trans (hb3.mono hb12.size)⟩
end Go.Proofs.Ytbgfdohgllbabaa
