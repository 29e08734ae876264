/- JobHomes: its array of five, and whose turn it is. -/
import Derived.Test.YtjmlanmdlpooaaaJArg
namespace Go.Proofs.Ytjmlanmdlpooaaa
open Go.RowKit
set_option linter.unusedVariables false

/-- Five cells, by a function. -/
def cells5 (f : Nat → Bool) : Array Value := ((List.range 5).map fun j => Value.bool (f j)).toArray
theorem cells5_at (f : Nat → Bool) {j : Nat} (h : j < 5) : (cells5 f)[j]? = some (.bool (f j)) := by simp [cells5, h]
theorem cells5_set (f : Nat → Bool) {k : Nat} : (cells5 f).setIfInBounds k (.bool true) = cells5 (fun j => if j = k then true else f j) := by
  apply Array.ext_getElem?
  intro i
  rw [Array.getElem?_setIfInBounds]
  by_cases hi : i < 5
  · rw [cells5_at _ hi, cells5_at _ hi]
    by_cases e : k = i
    · subst e; simp [cells5, hi]
    · simp [e, Ne.symm e]
  · have : ∀ f : Nat → Bool, (cells5 f)[i]? = none := fun f => by simp [cells5]; omega
    rw [this, this]
    by_cases e : k = i
    · subst e; simp [cells5]; omega
    · simp [e]
theorem cells5_zero : cells5 (fun _ => false) = #[.bool false, .bool false, .bool false, .bool false, .bool false] := rfl
/-- Who had a turn among the first i. -/
def hadF (N W i j : Nat) : Bool := (List.range i).any fun q => decide (1 + (N + q) % W = j)
theorem hadF_zero (N W : Nat) : hadF N W 0 = fun _ => false := by
  funext j
  rfl
theorem hadF_succ (N W i : Nat) : (fun j => if j = 1 + (N + i) % W then true else hadF N W i j) = hadF N W (i + 1) := by
  funext j
  unfold hadF
  rw [List.range_succ, List.any_append]
  by_cases e : j = 1 + (N + i) % W
  · rw [if_pos e]
    simp [e]
  · rw [if_neg e]
    have : decide (1 + (N + i) % W = j) = false := decide_eq_false (fun h => e h.symm)
    simp [this]
theorem hadF_no {N W i : Nat} (h1 : 1 ≤ W) (h4 : W ≤ 4) (hi : i < W) : hadF N W i (1 + (N + i) % W) = false := by
  unfold hadF
  rw [List.any_eq_false]
  intro q hq
  have hqi := List.mem_range.1 hq
  simp only [decide_eq_true_eq]
  intro e
  rcases (show W = 1 ∨ W = 2 ∨ W = 3 ∨ W = 4 by omega) with rfl | rfl | rfl | rfl <;> omega
theorem low_small {x : Int} {W : Nat} (h0 : 0 ≤ x) (h1 : x < 9223372036854775808) : low x W = x % W := by
  unfold low
  rw [uwrap_eq, Int.emod_eq_of_lt h0 (by omega)]
/-- Whose turn it is, as a number from 1 on. -/
theorem turn_nat {N i W : Nat} (hN : N < 1099511627776) (hi : i ≤ 4) (h1 : 1 ≤ W) : (1 + low ((N : Int) + (i : Int)) (W : Int)) = ((1 + (N + i) % W : Nat) : Int) := by
  rw [low_small (by omega) (by omega)]
  simp
/-- Which of the five had a turn lies at H, in a world in which nothing older than w0's end has turned. -/
structure Hd (w0 : World) (H : Nat) (f : Nat → Bool) (wr : World) : Prop where
  hH : w0.heap.size ≤ H
  blk : wr.heap[H]? = some (.cells (cells5 f) 33 (0, 0))
  bel : Below w0.heap.size w0 wr
theorem Hd.on {w0 wr w' : World} {H : Nat} {f : Nat → Bool} (h : Hd w0 H f wr) (hb : Below wr.heap.size wr w') : Hd w0 H f w' :=
  ⟨h.hH, (hb.block _ (lt_of_block h.blk)).trans h.blk, below_then h.bel hb h.bel.size⟩
theorem Hd.cell {w0 wr : World} {H j : Nat} {f : Nat → Bool} (h : Hd w0 H f wr) (hj : j < 5) : wr.cell? ⟨H, j, none⟩ = some (.bool (f j)) := by
  rw [cell_of_cells h.blk, cells5_at _ hj]
theorem Hd.put {w0 wr : World} {H k : Nat} {f : Nat → Bool} (h : Hd w0 H f wr) : Hd w0 H (fun j => if j = k then true else f j) (wr.setCell ⟨H, k, none⟩ (.bool true)) := by
  obtain ⟨h1, h2, h3⟩ := h
  refine ⟨h1, ?_, h3.setCell h1 _⟩
  rw [heap_setCell_same wr H k _ _ _ h2, cells5_set]
theorem Hd.new {w0 w : World} (h : Below w0.heap.size w0 w) : Hd w0 w.heap.size (fun _ => false) (w.alloc (.cells #[.bool false, .bool false, .bool false, .bool false, .bool false] 33)) :=
  ⟨h.size, new_block _ _, below_then h (alloc_one _ _) h.size⟩
theorem home_turn {p k : Int} {x : Nat} (h1 : 1 ≤ k) (h4 : k ≤ 4) (hp : (x : Int) < p) (hp4 : p ≤ 4) : homeI p k x = 1 + low x k ∧ 1 ≤ 1 + low x k ∧ 1 + low x k ≤ k := by
  have hb := low_bd (x : Int) k h1
  obtain ⟨W, rfl⟩ : ∃ W : Nat, k = W := ⟨k.toNat, by omega⟩
  refine ⟨?_, by omega, by omega⟩
  unfold homeI
  rw [if_pos ⟨by omega, hp⟩, low_small (by omega) (by omega)]
end Go.Proofs.Ytjmlanmdlpooaaa
