/- StageNone: of no stage each call says so. -/
import Derived.Test.YtejkboahjfcdcaaSgAwake
import Derived.Test.YtejkboahjfcdcaaSgActs
namespace Go.Proofs.Ytejkboahjfcdcaa
open Go.RowKit
set_option linter.unusedVariables false

theorem next_nil (s t : Int) (w : World) : Calls Try.prog 22 #[.pointer none, .int .i64 s, .int .i64 t] w fun e w' => e = .returned (.int .i64 0) ∧ w = w' := by
  go_enter Try.func22, Try.ntmps22
  go_wp2
  go_ret
  exact ⟨rfl, rfl⟩
theorem put_nil (s t q : Int) (a : Value) (w : World) : Calls Try.prog 12 #[.pointer none, .int .i64 s, .int .i64 t, .int .i64 q, a] w fun e w' => e = .returned (.int .i64 0) ∧ w = w' := by
  go_enter Try.func12, Try.ntmps12
  go_wp2_with fail
  refine (next_nil s t w).mono ?_
  rintro e w1 ⟨rfl, rfl⟩
  go_wp2
  go_ret
  exact ⟨rfl, rfl⟩
theorem take_nil (s t q : Int) (w : World) : Calls Try.prog 16 #[.pointer none, .int .i64 s, .int .i64 t, .int .i64 q] w fun e w' => e = .returned (.tuple #[.slice none 0 0, .bool false]) ∧ w = w' := by
  go_enter Try.func16, Try.ntmps16
  go_wp2
  go_ret2
  exact ⟨rfl, rfl⟩
theorem drop_nil (s : Int) (w : World) : Calls Try.prog 19 #[.pointer none, .int .i64 s] w fun e w' => e = .returned (.int .i64 0) ∧ Below w.heap.size w w' := by
  go_enter Try.func19, Try.ntmps19
  go_wp2
  go_ret
  exact ⟨rfl, alloc_one _ _⟩
theorem count_nil (w : World) : Calls Try.prog 21 #[.pointer none] w fun e w' => e = .returned (.int .i64 0) ∧ w = w' := by
  go_enter Try.func21, Try.ntmps21
  go_wp2
  go_ret
  exact ⟨rfl, rfl⟩
theorem act_cells {W : World} {cs : List Value} {a : ActV} (hs : cs.length = 5) (h : rAct W cs a) : ∃ ao c, cs = [.int .i64 a.1, .int .i64 a.2.1, .int .i64 a.2.2.1, .int .i64 a.2.2.2.1, .slice ao a.2.2.2.2.length c] ∧ Prs W (.slice ao a.2.2.2.2.length c) a.2.2.2.2 := by
  match cs, hs with
  | [x, y, z, t, v], _ =>
    obtain ⟨⟨h1, _⟩, ⟨h2, _⟩, ⟨h3, _⟩, ⟨h5, _⟩, h6⟩ := h
    have h4 : Prs W v a.2.2.2.2 := Prs.arg h6
    simp at h1 h2 h3 h5
    subst h1 h2 h3 h5
    obtain ⟨ao, c, hv, -⟩ := id h4
    rw [hv] at h4 ⊢
    exact ⟨ao, c, rfl, h4⟩
set_option maxHeartbeats 4000000 in
theorem stageNone_main (w : World) (d s t q : Int) (l : List KV) (ao : Option Addr) (c : Nat) (hl : Prs w (.slice ao l.length c) l) :
    Calls Try.prog 6 #[.agg #[.int .i64 d, .int .i64 s, .int .i64 t, .int .i64 q, .slice ao l.length c]] w fun e w' => e = .returned (.bool true) ∧ Below w.heap.size w w' := by
  have hb0 := alloc_one w (.cells #[.int .i64 d, .int .i64 s, .int .i64 t, .int .i64 q, .slice ao l.length c] 33)
  have HB0 := hid hb0
  have HL := hid (hl.below hb0)
  clear hl hb0
  go_enter Try.func6, Try.ntmps6
  go_wp2_with fail
  refine (greatPairs_any _ _ 20 _ HL.out).mono ?_
  rintro e w1 ⟨⟨g, rfl, -⟩, rfl⟩
  cases g with
  | true =>
    go_wp2_with fail
    refine (awake_calls _).mono ?_
    rintro e w2 ⟨rfl, hb2⟩
    have HB2 := hid (below_then HB0.out hb2 HB0.out.size)
    clear hb2
    go_wp2
    go_ret
    exact ⟨rfl, HB2.out⟩
  | false =>
    go_wp2_with fail
    refine (take_nil s t 0 _).mono ?_
    rintro e w2 ⟨rfl, rfl⟩
    go_wp2_with fail
    refine (put_nil s t q _ _).mono ?_
    rintro e w2 ⟨rfl, rfl⟩
    go_wp2_with fail
    refine (next_nil s t _).mono ?_
    rintro e w2 ⟨rfl, rfl⟩
    go_wp2_with fail
    refine (drop_nil s _).mono ?_
    rintro e w2 ⟨rfl, hb2⟩
    have HB2 := hid (below_then HB0.out hb2 HB0.out.size)
    clear hb2
    go_wp2_with fail
    refine (count_nil _).mono ?_
    rintro e w3 ⟨rfl, rfl⟩
    go_wp2_with fail
    refine (awake_calls _).mono ?_
    rintro e w4 ⟨rfl, hb4⟩
    have HB4 := hid (below_then HB2.out hb4 HB2.out.size)
    clear hb4
    go_wp2
    go_ret
    exact ⟨rfl, HB4.out⟩
theorem stageNone_walk (w : World) (cs : Array Value) (a : ActV) (hs : cs.size = 5) (h : rAct w cs.toList a) :
    Calls Try.prog 6 #[.agg cs] w fun e w' => e = .returned (.bool true) ∧ Below w.heap.size w w' := by
  obtain ⟨ao, c, hc, hp⟩ := act_cells (by simpa using hs) h
  have : cs = #[.int .i64 a.1, .int .i64 a.2.1, .int .i64 a.2.2.1, .int .i64 a.2.2.2.1, .slice ao a.2.2.2.2.length c] := Array.toList_inj.1 hc
  rw [this]
  exact stageNone_main w _ _ _ _ _ ao c hp
end Go.Proofs.Ytejkboahjfcdcaa
