/- PartWhole: its two arrays of twenty, and what each step of its loops does to them. -/
import Derived.Test.YtinfpjmnadaklaaQAwake
import Derived.Laws.Rows
namespace Go.Proofs.Ytinfpjmnadaklaa
open Go.RowKit
set_option linter.unusedVariables false

/-- Twenty cells, by a function. -/
def cells20 (f : Nat → Value) : Array Value := ((List.range 20).map f).toArray
theorem cells20_at (f : Nat → Value) {j : Nat} (h : j < 20) : (cells20 f)[j]? = some (f j) := by simp [cells20, h]
theorem cells20_set (f : Nat → Value) {k : Nat} (v : Value) : (cells20 f).setIfInBounds k v = cells20 (fun j => if j = k then v else f j) := by
  apply Array.ext_getElem?
  intro i
  rw [Array.getElem?_setIfInBounds]
  by_cases hi : i < 20
  · rw [cells20_at _ hi, cells20_at _ hi]
    by_cases e : k = i
    · subst e; simp [cells20, hi]
    · simp [e, Ne.symm e]
  · have : ∀ f : Nat → Value, (cells20 f)[i]? = none := fun f => by simp [cells20]; omega
    rw [this, this]
    by_cases e : k = i
    · subst e; simp [cells20]; omega
    · simp [e]
/-- Numbers, and slices. -/
def nums20 (f : Nat → Nat) : Array Value := cells20 fun j => .int .i64 (f j : Nat)
def runs20 (f : Nat → Value) : Array Value := cells20 f
theorem nums_zero : nums20 (fun _ => 0) = #[.int .i64 0, .int .i64 0, .int .i64 0, .int .i64 0, .int .i64 0, .int .i64 0, .int .i64 0, .int .i64 0, .int .i64 0, .int .i64 0, .int .i64 0, .int .i64 0, .int .i64 0, .int .i64 0, .int .i64 0, .int .i64 0, .int .i64 0, .int .i64 0, .int .i64 0, .int .i64 0] := rfl
theorem runs_zero : runs20 (fun _ => .slice none 0 0) = #[.slice none 0 0, .slice none 0 0, .slice none 0 0, .slice none 0 0, .slice none 0 0, .slice none 0 0, .slice none 0 0, .slice none 0 0, .slice none 0 0, .slice none 0 0, .slice none 0 0, .slice none 0 0, .slice none 0 0, .slice none 0 0, .slice none 0 0, .slice none 0 0, .slice none 0 0, .slice none 0 0, .slice none 0 0, .slice none 0 0] := rfl
theorem old_block {w : World} {b : Nat} {o o' : Obj} (h : w.heap[b]? = some o) : (w.alloc o').heap[b]? = some o := (Below.heap_alloc _ _ _ (lt_of_block h)).trans h
theorem grownBy_set (w : World) (b j : Nat) (v : Value) : w.grownBy (w.setCell ⟨b, j, none⟩ v) (some b) :=
  ⟨rfl, rfl, rfl, by simp [World.setCell], fun k _ hn => Below.heap_setCell _ _ _ _ (fun e => hn (by simp only at e; rw [e]))⟩

/-- The state: how many of each part were met; the first p parts' pairs. -/
structure Wh (w : World) (l : List KV) (q : Int) (A R p : Nat) (n : Nat → Nat) (f : Nat → Value) (wr : World) : Prop where
  hA : A = w.heap.size
  hR : R = w.heap.size + 1
  nums : wr.heap[A]? = some (.cells (nums20 n) 34 (0, 0))
  runs : wr.heap[R]? = some (.cells (runs20 f) 35 (0, 0))
  own : ∀ j, j < p → wr.ownsRow (w.heap.size + 2) 37 2 (f j) (onlyL l q j).length (fl encP (onlyL l q j))
  bel : Below w.heap.size w wr

theorem Wh.start (w : World) (l : List KV) (q : Int) : Wh w l q w.heap.size (w.heap.size + 1) 0 (fun _ => 0) (fun _ => .slice none 0 0) ((w.alloc (.cells (nums20 fun _ => 0) 34)).alloc (.cells (runs20 fun _ => .slice none 0 0) 35)) := by
  refine ⟨rfl, rfl, old_block (new_block _ _), ?_, fun j h => by omega, ((Below.refl _ w).alloc (Nat.le_refl _) _).alloc (by simp) _⟩
  have h := new_block (w.alloc (.cells (nums20 fun _ => 0) 34)) (.cells (runs20 fun _ => .slice none 0 0) 35)
  rw [World.size_alloc] at h
  exact h
theorem Wh.on {w wr w' : World} {l : List KV} {q : Int} {A R p : Nat} {n : Nat → Nat} {f : Nat → Value} (h : Wh w l q A R p n f wr) (hb : Below wr.heap.size wr w') : Wh w l q A R p n f w' := by
  obtain ⟨h1, h2, h3, h4, h5, h6⟩ := h
  exact ⟨h1, h2, (hb.block _ (lt_of_block h3)).trans h3, (hb.block _ (lt_of_block h4)).trans h4, fun j hj => owns_below (h5 j hj) hb, below_then h6 hb h6.size⟩
theorem Wh.size {w wr : World} {l : List KV} {q : Int} {A R p : Nat} {n : Nat → Nat} {f : Nat → Value} (h : Wh w l q A R p n f wr) : w.heap.size + 2 ≤ wr.heap.size := by
  have := lt_of_block h.runs
  rw [h.hR] at this
  omega
theorem Wh.cellA {w wr : World} {l : List KV} {q : Int} {A R p j : Nat} {n : Nat → Nat} {f : Nat → Value} (h : Wh w l q A R p n f wr) (hj : j < 20) : wr.cell? ⟨A, j, none⟩ = some (.int .i64 (n j : Nat)) := by
  rw [cell_of_cells h.nums, nums20, cells20_at _ hj]
theorem Wh.cellR {w wr : World} {l : List KV} {q : Int} {A R p j : Nat} {n : Nat → Nat} {f : Nat → Value} (h : Wh w l q A R p n f wr) (hj : j < 20) : wr.cell? ⟨R, j, none⟩ = some (f j) := by
  rw [cell_of_cells h.runs, runs20, cells20_at _ hj]
/-- Another part's pairs are put down. -/
def putF (f : Nat → Value) (p : Nat) (u : Value) (j : Nat) : Value := if j = p then u else f j
theorem putF_same (f : Nat → Value) (p : Nat) (u : Value) : putF f p u p = u := if_pos rfl
theorem Wh.put {w wr : World} {l : List KV} {q : Int} {A R p : Nat} {n : Nat → Nat} {f : Nat → Value} (h : Wh w l q A R p n f wr) {base : Nat} {u : Value} (hb : w.heap.size + 2 ≤ base) (ho : wr.ownsRow base 37 2 u (onlyL l q p).length (fl encP (onlyL l q p))) :
    Wh w l q A R (p + 1) n (putF f p u) (wr.setCell ⟨R, p, none⟩ u) := by
  obtain ⟨h1, h2, h3, h4, h5, h6⟩ := h
  have hg := grownBy_set wr R p u
  refine ⟨h1, h2, ?_, ?_, fun j hj => ?_, ?_⟩
  · rw [hg.block A (lt_of_block h3) (by intro e; cases e; omega)]
    exact h3
  · rw [heap_setCell_same wr R p _ _ u h4, runs20, cells20_set]
    rfl
  · by_cases e : j = p
    · subst e
      rw [putF_same]
      exact owns_grown_ne (owns_mono ho hb) hg (fun g hgg e => by have := owns_base ho hgg; cases e; omega)
    · rw [show putF f p u j = f j from if_neg e]
      have hj2 := h5 j (by omega)
      exact owns_grown_ne hj2 hg (fun g hgg e => by have := owns_base hj2 hgg; cases e; omega)
  · exact h6.grown hg h6.size (fun g hgg => by cases hgg; omega)
/-- One more of part p is met. -/
def one (n : Nat → Nat) (p j : Nat) : Nat := if j = p then n p + 1 else n j
theorem Wh.more {w wr : World} {l : List KV} {q : Int} {A R p k : Nat} {n : Nat → Nat} {f : Nat → Value} (h : Wh w l q A R p n f wr) :
    Wh w l q A R p (one n k) f (wr.setCell ⟨A, k, none⟩ (.int .i64 ((n k : Int) + 1))) := by
  obtain ⟨h1, h2, h3, h4, h5, h6⟩ := h
  have hg := grownBy_set wr A k (.int .i64 ((n k : Int) + 1))
  refine ⟨h1, h2, ?_, ?_, fun j hj => ?_, ?_⟩
  · rw [heap_setCell_same wr A k _ _ _ h3, nums20, cells20_set]
    unfold nums20
    congr 3
    funext j
    unfold one
    by_cases e : j = k <;> simp [e]
  · rw [hg.block R (lt_of_block h4) (by intro e; cases e; omega)]
    exact h4
  · have hj2 := h5 j hj
    exact owns_grown_ne hj2 hg (fun g hgg e => by have := owns_base hj2 hgg; cases e; omega)
  · exact h6.grown hg h6.size (fun g hgg => by cases hgg; omega)
/-- How many of each part are among the first k. -/
def met (l : List KV) (q : Int) (k j : Nat) : Nat := (onlyL (l.take k) q j).length
theorem met_zero (l : List KV) (q : Int) : met l q 0 = fun _ => 0 := by
  funext j
  simp [met, onlyL]
theorem met_succ {l : List KV} {q : Int} {k p : Nat} {x : KV} (hx : l[k]? = some x) (hp : ofK x.1 q = p) : met l q (k + 1) = one (met l q k) p := by
  funext j
  unfold met one
  rw [onlyL_take q j hx, List.length_append]
  by_cases e : j = p
  · subst e
    rw [if_pos hp, if_pos rfl]
    rfl
  · rw [if_neg (by omega), if_neg e]
    rfl
theorem met_lt {l : List KV} {q : Int} {k p : Nat} {x : KV} (hx : l[k]? = some x) (hp : ofK x.1 q = p) : (onlyL l q p)[met l q k p]? = some x := onlyL_at q p hx hp
theorem lowQ_calls (x n : Int) (h1 : 1 ≤ n) (h2 : n ≤ 4611686018427387904) (w : World) :
    Calls Try.prog 18 #[.int .i64 x, .int .i64 n] w fun e w' => e = .returned (.int .i64 (low x n)) ∧ w = w' := by
  go_enter Try.func18, Try.ntmps18
  go_wp2
  go_ret
  exact ⟨by rw [low_eq x n h1 h2]; rfl, rfl⟩
end Go.Proofs.Ytinfpjmnadaklaa
