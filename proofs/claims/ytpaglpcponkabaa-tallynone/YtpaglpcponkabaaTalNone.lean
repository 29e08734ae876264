/- The walk of TallyNone. -/
import Derived.Test.YtpaglpcponkabaaTalAwake
import Derived.Test.YtpaglpcponkabaaAct
namespace Go.Proofs.Ytpaglpcponkabaa
open Go.RowKit
set_option linter.unusedVariables false
set_option maxHeartbeats 1000000 in
theorem tallyNone_act (W : World) (r : Bool) (i n : Int) : Calls Try.prog 6 #[.agg #[.bool r, .int .i64 i, .int .i64 n]] W fun e W' => e = .returned (.bool true) ∧ Below W.heap.size W W' := by
  have hb := (Below.refl W.heap.size W).alloc (Nat.le_refl _) (.cells #[.bool r, .int .i64 i, .int .i64 n] 31)
  go_enter Try.func6, Try.ntmps6
  go_wp2_with fail
  refine (add_nil i n _).mono ?_
  rintro e w1 ⟨rfl, h1⟩
  have c0 : w1.cell? ⟨W.heap.size, 1, none⟩ = some (.int .i64 i) := (h1.cell (p := ⟨W.heap.size, 1, none⟩) (by simp)).trans (by simp)
  have c1 : w1.cell? ⟨W.heap.size, 2, none⟩ = some (.int .i64 n) := (h1.cell (p := ⟨W.heap.size, 2, none⟩) (by simp)).trans (by simp)
  have hs : W.heap.size < w1.heap.size := by have := h1.size; simp at this; omega
  have hb1 := hb.trans (h1.mono (by simp))
  clear h1 hb
  go_wp2_with fail
  refine (raise_nil i n _).mono ?_
  rintro e w2 ⟨rfl, h2⟩
  have c2 : w2.cell? ⟨W.heap.size, 1, none⟩ = some (.int .i64 i) := (h2.cell (p := ⟨W.heap.size, 1, none⟩) hs).trans c0
  have hb2 := hb1.trans (h2.mono (Nat.le_of_lt hs))
  have hs2 := Nat.lt_of_lt_of_le hs h2.size
  clear c0 c1 hb1 hs h2
  go_wp2_with fail
  refine (get_nil i _).mono ?_
  rintro e w3 ⟨rfl, rfl⟩
  go_wp2_with fail
  refine (all_nil _).mono ?_
  rintro e w3 ⟨rfl, rfl⟩
  go_wp2_with fail
  refine (awake_any _).mono ?_
  rintro e w3 ⟨rfl, h3⟩
  have hb3 := hb2.trans (h3.mono (Nat.le_of_lt hs2))
  clear h3 hb2 hs2
  go_wp2
  go_ret
  exact ⟨rfl, hb3⟩
theorem tallyNone_walk (W : World) (cs : Array Value) (x : Bool × Int × Int) (hs : cs.size = 3) (h : rAct W cs.toList x) : Calls Try.prog 6 #[.agg cs] W fun e W' => e = .returned (.bool true) ∧ Below W.heap.size W W' := by
  obtain ⟨h1, -, -⟩ := rAct_cells (by simpa using hs) h
  obtain ⟨cs⟩ := cs
  subst h1
  exact tallyNone_act W _ _ _
end Go.Proofs.Ytpaglpcponkabaa
