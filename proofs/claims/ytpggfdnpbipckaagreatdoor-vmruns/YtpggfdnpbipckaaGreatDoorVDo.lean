/- do of the program's machine, whatever the instruction. -/
import Derived.Test.YtpggfdnpbipckaaGreatDoorVDo2
import Derived.Test.YtpggfdnpbipckaaGreatDoorVDo3
namespace Go.Proofs.YtpggfdnpbipckaaGreatDoor
open Go.RowKit Go.Lib
set_option linter.unusedVariables false
set_option maxRecDepth 100000

variable {E : Fx} {m : St} {i : Int} {d : Nat} {w : World} {vals : List ByteArray}
theorem good_op {x : Inst} {n : Int} (h : good x n = true) : 0 ≤ x.1 ∧ x.1 ≤ 23 := by
  unfold good at h
  split at h
  · omega
  · split at h
    · omega
    · split at h
      · omega
      · split at h
        · omega
        · simp at h
          omega
theorem good_reg {x : Inst} {n : Int} (h : good x n = true) (hx : x.1 = 21 ∨ x.1 = 22) : 0 ≤ x.2.1 ∧ x.2.1 ≤ 7 := by
  unfold good at h
  rw [if_neg (by omega), if_neg (by omega), if_neg (by omega), if_pos hx] at h
  simp at h
  omega
theorem do_any (h : VMac E m i d w) (ok : Ok vals m) (T : Tabs E.w0) (hvv : Txs E.w0 E.vv vals) (hfew : vals.length ≤ 100) (x : Inst) (n : Int) (hg : good x n = true) (h0 : ¬ x.1 = 0) :
    Calls Tryz.prog 35 #[.pointer (some ⟨E.b, 0, none⟩), .agg #[.int .i64 x.1, .int .i64 x.2.1, .string x.2.2]] w (Did E i d (step E.key vals x m)) := by
  have hb := good_op hg
  have hr := fun hx => good_reg hg hx
  obtain ⟨o, A, S⟩ := x
  simp only at hb hr h0 ⊢
  have hc : o = 1 ∨ o = 2 ∨ o = 3 ∨ o = 4 ∨ o = 5 ∨ o = 6 ∨ o = 7 ∨ o = 8 ∨ o = 9 ∨ o = 10 ∨ o = 11 ∨ o = 12 ∨ o = 13 ∨ o = 14 ∨ o = 15 ∨ o = 16 ∨ o = 17 ∨ o = 18 ∨ o = 19 ∨ o = 20 ∨ o = 21 ∨ o = 22 ∨ o = 23 := by omega
  rcases hc with rfl | rfl | rfl | rfl | rfl | rfl | rfl | rfl | rfl | rfl | rfl | rfl | rfl | rfl | rfl | rfl | rfl | rfl | rfl | rfl | rfl | rfl | rfl
  · exact do_int h ok A S
  · exact do_bytes h ok A S
  · exact do_dup h ok A S
  · exact do_drop h ok A S
  · exact do_swap h ok A S
  · exact do_key h ok A S
  · exact do_next h ok A S hvv hfew
  · exact do_add h ok T A S
  · exact do_sub h ok T A S
  · exact do_mul h ok T A S
  · exact do_less h ok T A S
  · exact do_eq h ok T A S
  · exact do_cat h ok T A S
  · exact do_len h ok T A S
  · exact do_at h ok T A S
  · exact do_cut h ok T A S
  · exact do_text h ok T A S
  · exact do_num h ok T A S
  · exact do_jump h ok A S
  · exact do_if h ok A S
  · obtain ⟨k, rfl⟩ : ∃ k : Nat, A = k := ⟨A.toNat, by have := hr (by omega); omega⟩
    exact do_load h ok S k (by have := hr (by omega); omega)
  · obtain ⟨k, rfl⟩ : ∃ k : Nat, A = k := ⟨A.toNat, by have := hr (by omega); omega⟩
    exact do_store h ok S k (by have := hr (by omega); omega)
  · exact do_emit h ok A S
end Go.Proofs.YtpggfdnpbipckaaGreatDoor
