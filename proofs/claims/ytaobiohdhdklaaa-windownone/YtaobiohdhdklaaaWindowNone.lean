/- WindowNone: of none each call says so. -/
import Derived.Test.YtaobiohdhdklaaaWnActs
namespace Go.Proofs.Ytaobiohdhdklaaa
open Go.RowKit
set_option linter.unusedVariables false
set_option maxHeartbeats 2000000 in
theorem windowNone_main (w : World) (e n : Int) :
    Calls Try.prog 6 #[.agg #[.int .i64 e, .int .i64 n]] w fun r w' => r = .returned (.bool true) ∧ Below w.heap.size w w' := by
  have hb := below_alloc w (.cells #[.int .i64 e, .int .i64 n] 34)
  have g := new_block w (.cells #[.int .i64 e, .int .i64 n] 34)
  have HB := hid hb
  have g0 : (w.alloc (.cells #[.int .i64 e, .int .i64 n] 34)).cell? ⟨w.heap.size, 0, none⟩ = some (.int .i64 e) := cell_of_cells g
  have g1 : (w.alloc (.cells #[.int .i64 e, .int .i64 n] 34)).cell? ⟨w.heap.size, 1, none⟩ = some (.int .i64 n) := cell_of_cells g
  clear hb g
  go_enter Try.func6, Try.ntmps6
  go_wp2_with fail
  refine (open_nil _).mono ?_
  rintro r w1 ⟨rfl, rfl⟩
  go_wp2_with fail
  refine (ack_nil _ _ _).mono ?_
  rintro r w1 ⟨rfl, rfl⟩
  go_wp2_with fail
  refine (next_nil _).mono ?_
  rintro r w1 ⟨rfl, rfl⟩
  go_wp2_with fail
  refine (epoch_nil _).mono ?_
  rintro r w1 ⟨rfl, rfl⟩
  go_wp2_with fail
  refine (done_nil _).mono ?_
  rintro r w1 ⟨rfl, t, rfl⟩
  go_wp2_with fail
  refine (awake_any _).mono ?_
  rintro r w2 ⟨rfl, hb2⟩
  go_wp2
  go_ret
  exact ⟨rfl, HB.out.trans ((below_drewNW _ t).mono HB.out.size) |>.trans (hb2.mono HB.out.size)⟩
theorem windowNone_walk (w : World) (cs : Array Value) (a) (hs : cs.size = 2) (h : rAct w cs.toList a) :
    Calls Try.prog 6 #[.agg cs] w fun e w' => e = .returned (.bool true) ∧ Below w.heap.size w w' := by
  have hc : cs = #[.int .i64 a.1, .int .i64 a.2] := by
    apply Array.toList_inj.1
    rw [act_cells (by simpa using hs) h]
  rw [hc]
  exact windowNone_main w a.1 a.2
end Go.Proofs.Ytaobiohdhdklaaa
