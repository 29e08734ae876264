/- SameCode: instructions compared, one by one. -/
import Derived.Test.YtpggfdnpbipckaaGreatDoorPBad
import Derived.Test.YtpggfdnpbipckaaGreatDoorSeq
import Derived.Laws.StructEq
namespace Go.Proofs.YtpggfdnpbipckaaGreatDoor
open Go.RowKit
set_option linter.unusedVariables false
set_option maxRecDepth 100000

theorem neq_self (x : Inst) (w : World) : (binOp .neq 43 (ins x) (ins x)).run Tryz.prog w = .ok (.bool false) w := by
  have u3 := Tryz.underlying3
  have a3 := Tryz.isAgg3
  have z3 := Tryz.sizeOf3
  have u9 := Tryz.underlying9
  have a9 := Tryz.isAgg9
  have z9 := Tryz.sizeOf9
  have hS : Tryz.prog.underlying 43 = some (.struct (Tryz.prog.fieldsOf 43)) := by kernel_rfl
  have hp : Tryz.prog.stoodInHeld 43 = false := by kernel_rfl
  rw [run_neq_struct, show (10000 : Nat) = 9999 + 1 from rfl, run_equalIn_agg w 9999 43 _ _ hS hp]
  simp only [Program.fieldsOf, Tryz.underlying43]
  go_simp
theorem guard_ins : Tryz.prog.eqGuardType Tryz.prog.depth 43 = false := by kernel_rfl

set_option maxHeartbeats 1000000 in
/-- Two slices that read the same are the same. -/
theorem sameCode_any (a b : Value) (l : List Inst) (w : World) (ha : Co w a l) (hb : Co w b l) :
    Calls Tryz.prog 30 #[a, b] w fun e w' => e = .returned (.bool true) ∧ ∃ n, w' = w.drewN n := by
  obtain ⟨ao, ca, rfl, a1, a2, a3, a4⟩ := ha
  obtain ⟨bo, cb, rfl, b1, b2, b3, b4⟩ := hb
  have HA := hid a4
  have HB := hid b4
  unfold maxLen at a2 b2
  clear a3 b3 a4 b4
  have hm := guard_ins
  go_enter Tryz.func30, Tryz.ntmps30
  go_wp2
  go_loopw [5] (fun i wr => ∃ k : Nat, k ≤ l.length ∧ i = .int .i64 k ∧ ∃ t, wr = w.drewN t) (fun i _ => l.length - (intOf i).toNat)
  case atStart => exact ⟨0, by omega, rfl, 0, rfl⟩
  case round =>
    obtain ⟨k, hk, rfl, t, rfl⟩ := hrel
    by_cases hlt : k < l.length
    · have hd5 : decide ((k : Int) < (l.length : Int)) = true := by simp; omega
      have hl : l ≠ [] := by intro e; rw [e] at hlt; simp at hlt
      obtain ⟨p, po, rfl, hp, hpc⟩ := HA.out hl
      obtain ⟨q, qo, rfl, hq, hqc⟩ := HB.out hl
      obtain ⟨c0, c1, c2⟩ := hpc k hlt
      obtain ⟨d0, d1, d2⟩ := hqc k hlt
      clear hpc hqc hl
      generalize l.getD k zInst = x at c0 c1 c2 d0 d1 d2
      have hn := neq_self x
      go_wp2
      go_quiet (fail)
      go_wp2
      go_roundw
      case rel => exact ⟨k + 1, by omega, by go_num, _, rfl⟩
      case measure => simp [intOf]; omega
    · obtain rfl : k = l.length := by omega
      have hd5 : decide ((l.length : Int) < (l.length : Int)) = false := by simp
      go_wp2
      go_ret
      exact ⟨rfl, _, rfl⟩
end Go.Proofs.YtpggfdnpbipckaaGreatDoor
