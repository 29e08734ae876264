/- What is owned: rows of whole numbers and of instructions, in later worlds. -/
import Derived.Test.YtkkgclocamekcaaIntsSameP
import Derived.Test.YtkkgclocamekcaaPBad
namespace Go.Proofs.Ytkkgclocamekcaa
open Go.RowKit
set_option linter.unusedVariables false

theorem drew_below (w : World) (n : Nat) : Below w.heap.size w (w.drewN n) := ⟨rfl, rfl, rfl, Nat.le_refl _, fun _ _ => rfl⟩
theorem own_below {w w' : World} {base e s n : Nat} {v : Value} {xs : List Value} (h : w.ownsRow base e s v n xs) (hb : Below w.heap.size w w') : w'.ownsRow base e s v n xs := by
  obtain ⟨h1, h2⟩ := h
  refine ⟨h1, ?_⟩
  rcases h2 with h2 | ⟨g, cap, cur, hv, hg, hh, r⟩
  · exact Or.inl h2
  · exact Or.inr ⟨g, cap, cur, hv, hg, by rw [hb.block g (Array.getElem?_eq_some_iff.1 hh).1]; exact hh, r⟩

/-- Whatever is owned reads as it must. -/
theorem Is.nil (w : World) : Is w (.slice none 0 0) [] := ⟨none, 0, rfl, Nat.le_refl _, by unfold maxLen; omega, fun _ => ⟨rfl, rfl⟩, fun h => absurd rfl h⟩
theorem Is.owned {w : World} {base n : Nat} {v : Value} {l : List Int} (h : w.ownsRow base 3 1 v n (ict l)) : Is w v l := by
  rcases h.2 with ⟨rfl, rfl⟩ | ⟨g, cap, cur, rfl, _⟩
  · have hl := h.1
    rw [ict_length] at hl
    obtain rfl := List.eq_nil_of_length_eq_zero (show l.length = 0 by omega)
    exact Is.nil w
  · exact Is.own h

set_option maxHeartbeats 400000 in
theorem overInts_nil (w : World) :
    Calls Try.prog 16 #[.slice none 0 0] w fun e w' => e = .returned (.tuple #[]) ∧ Below w.heap.size w w' := by
  obtain ⟨i0, hi, hz0, hz1, hz2⟩ := info_parts Try.info3
  go_enter Try.func16, Try.ntmps16
  go_wp2
  go_loop [2] (fun i => i = .int .i64 0) (fun _ => 0)
  case atStart => rfl
  case round =>
    subst hrel
    go_wp2_with (at_builtin; refine wpList_append_own _ rfl _ _ 26 rfl w.heap.size 3 i0 (.int .i64 0) 1 8 Try.underlying26 hi hz0 hz1 hz2 rfl (by decide) _ 0 [] rfl ((World.ownsRow_nil _ _ _ _).alloc _) ⟨w.heap.size, 0, none⟩ 1 1 [.int .i64 (-999)] rfl rfl (cell_one_new _ _ _) (by intro u hu; simp at hu; subst hu; rfl) (by unfold maxLen; omega) (by omega) (by simp) ?_; intro v1 w1 ho1 hg1 _)
    go_end0
    exact ⟨rfl, ((Below.refl _ w).alloc (Nat.le_refl _) _).grown hg1 (by simp) (by intro q hq; cases hq)⟩

/-- What is owned is written over: nothing below it turns. -/
theorem overInts_own (n base : Nat) (v : Value) (xs : List Value) (w : World) (ho : w.ownsRow base 3 1 v n xs) (hb : base ≤ w.heap.size) (hn : (n + 1) * 8 ≤ 140737488355328) :
    Calls Try.prog 16 #[v] w fun e w' => e = .returned (.tuple #[]) ∧ Below base w w' := by
  rcases ho.2 with ⟨rfl, rfl⟩ | ⟨g, cap, cur, rfl, hbase, hg, r⟩
  · refine (overInts_nil w).mono ?_
    rintro e w' ⟨rfl, h⟩
    exact ⟨rfl, h.mono hb⟩
  · refine (overInts_any g n cap base xs w ho hb hn).mono ?_
    rintro e w' ⟨rfl, h⟩
    exact ⟨rfl, (Below.refl _ w).grown h hb (by intro q hq; cases hq; exact hbase)⟩
end Go.Proofs.Ytkkgclocamekcaa
