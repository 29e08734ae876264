/- MapperNone: of none each call says so. -/
import Derived.Test.YtfimoobgbodbmaaGreatDoorGMpE
namespace Go.Proofs.YtfimoobgbodbmaaGreatDoor
open Go.RowKit Go.Lib
set_option linter.unusedVariables false
set_option maxRecDepth 100000
theorem reason_nil (w : World) : Calls Tryz.prog 14 #[.pointer none] w fun e w' => e = .returned (.int .i64 0) ∧ w = w' := by
  go_enter Tryz.func14, Tryz.ntmps14
  go_wp2
  go_ret
  exact ⟨rfl, rfl⟩
theorem counts_nil (w : World) : Calls Tryz.prog 12 #[.pointer none] w fun e w' => e = .returned (.slice none 0 0) ∧ w = w' := by
  go_enter Tryz.func12, Tryz.ntmps12
  go_wp2
  go_ret
  exact ⟨rfl, rfl⟩
theorem chunk_nil (p q : Int) (w : World) : Calls Tryz.prog 23 #[.pointer none, .int .i64 p, .int .i64 q] w fun e w' => e = .returned (.slice none 0 0) ∧ w = w' := by
  go_enter Tryz.func23, Tryz.ntmps23
  go_wp2
  go_ret
  exact ⟨rfl, rfl⟩
theorem push_nil (w : World) : Calls Tryz.prog 13 #[.pointer none] w fun e w' => e = .returned (.slice none 0 0) ∧ w = w' := by
  go_enter Tryz.func13, Tryz.ntmps13
  go_wp2
  go_ret
  exact ⟨rfl, rfl⟩
theorem mAck_nil (p e n : Int) (w : World) : Calls Tryz.prog 27 #[.pointer none, .int .i64 p, .int .i64 e, .int .i64 n] w fun r w' => r = .returned (.bool false) ∧ w = w' := by
  go_enter Tryz.func27, Tryz.ntmps27
  go_wp2
  go_ret
  exact ⟨rfl, rfl⟩
theorem mDone_nil (w : World) : Calls Tryz.prog 19 #[.pointer none] w fun e w' => e = .returned (.bool false) ∧ w = w' := by
  go_enter Tryz.func19, Tryz.ntmps19
  go_wp2
  go_ret
  exact ⟨rfl, rfl⟩
set_option maxHeartbeats 4000000 in
theorem mapperNone_main (w : World) (T : Tabs w) (p e n : Int) :
    Calls Tryz.prog 6 #[.agg #[.int .i64 p, .int .i64 e, .int .i64 n]] w fun r w' => r = .returned (.bool true) ∧ Below w.heap.size w w' := by
  have hb := alloc_one w (.cells #[.int .i64 p, .int .i64 e, .int .i64 n] 55)
  have g := new_block w (.cells #[.int .i64 p, .int .i64 e, .int .i64 n] 55)
  have HA := hid (awake19 _ (T.on hb))
  have HB := hid hb
  have hnot : ∀ (x : Bool) (w : World), (Op.unary .not (.bool x)).run Tryz.prog w = .ok (.bool (!x)) w := fun _ _ => rfl
  have g0 : (w.alloc (.cells #[.int .i64 p, .int .i64 e, .int .i64 n] 55)).cell? ⟨w.heap.size, 0, none⟩ = some (.int .i64 p) := cell_of_cells g
  have g1 : (w.alloc (.cells #[.int .i64 p, .int .i64 e, .int .i64 n] 55)).cell? ⟨w.heap.size, 1, none⟩ = some (.int .i64 e) := cell_of_cells g
  have g2 : (w.alloc (.cells #[.int .i64 p, .int .i64 e, .int .i64 n] 55)).cell? ⟨w.heap.size, 2, none⟩ = some (.int .i64 n) := cell_of_cells g
  clear hb g T
  go_enter Tryz.func6, Tryz.ntmps6
  go_wp2_with fail
  refine (reason_nil _).mono ?_
  rintro r w1 ⟨rfl, rfl⟩
  go_wp2_with fail
  refine (counts_nil _).mono ?_
  rintro r w1 ⟨rfl, rfl⟩
  go_wp2_with fail
  refine (chunk_nil _ _ _).mono ?_
  rintro r w1 ⟨rfl, rfl⟩
  go_wp2_with fail
  refine (push_nil _).mono ?_
  rintro r w1 ⟨rfl, rfl⟩
  go_wp2_with fail
  refine (mAck_nil _ _ _ _).mono ?_
  rintro r w1 ⟨rfl, rfl⟩
  go_wp2_with fail
  refine (mDone_nil _).mono ?_
  rintro r w1 ⟨rfl, rfl⟩
  go_wp2_with fail
  refine HA.out.mono ?_
  rintro r w2 ⟨rfl, hb2⟩
  have HB2 := hid (below_then HB.out hb2 HB.out.size)
  clear hb2
  go_wp2
  go_ret
  exact ⟨rfl, HB2.out⟩
theorem mapperNone_walk (w : World) (T : Tabs w) (cs : Array Value) (a) (hs : cs.size = 3) (h : rAct w cs.toList a) :
    Calls Tryz.prog 6 #[.agg cs] w fun e w' => e = .returned (.bool true) ∧ Below w.heap.size w w' := by
  have hc : cs = #[.int .i64 a.1, .int .i64 a.2.1, .int .i64 a.2.2] := by
    apply Array.toList_inj.1
    rw [act_cells (by simpa using hs) h]
  rw [hc]
  exact mapperNone_main w T a.1 a.2.1 a.2.2
end Go.Proofs.YtfimoobgbodbmaaGreatDoor
