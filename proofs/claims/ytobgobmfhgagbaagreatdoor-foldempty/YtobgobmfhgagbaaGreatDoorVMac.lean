/- The program's own machine (chapter 6) in memory: its block, the key's cell, its stack's row, its pairs' row. -/
import Derived.Test.YtobgobmfhgagbaaGreatDoorMVal
import Derived.Test.YtobgobmfhgagbaaGreatDoorLzyGetV
import Derived.Test.YtobgobmfhgagbaaGreatDoorVVal
namespace Go.Proofs.YtobgobmfhgagbaaGreatDoor
open Go.RowKit Go.Lib
set_option linter.unusedVariables false
set_option maxRecDepth 100000

/-- What stays as it is in a run: the world ahead of it, where the machine, its key's cell and the key itself lie, the key, the program's slice, the values'. -/
structure Fx where
  w0 : World
  b : Nat
  kb : Nat
  kv : Nat
  key : ByteArray
  vp : Value
  vv : Value
/-- The machine's own cells. -/
structure VCells (E : Fx) (vs vt : Value) (m : St) (i : Int) (d : Nat) (cs : Array Value) : Prop where
  size : cs.size = 32
  p : cs[0]? = some E.vp
  k : cs[1]? = some (.pointer (some ⟨E.kb, 0, none⟩))
  v : cs[2]? = some E.vv
  t : cs[3]? = some (.int .i64 m.taken)
  s : cs[4]? = some vs
  r : ∀ k, k < 8 → ∀ j u, (encV (m.regs.getD k (.num 0)))[j]? = some u → cs[5 + k * 3 + j]? = some u
  n : cs[29]? = some (.int .i64 i)
  o : cs[30]? = some vt
  d : cs[31]? = some (.int .i64 d)
/-- The key's cell: not asked yet, or made. -/
def KeyOk (E : Fx) (w : World) : Prop :=
  (w.heap[E.kb]? = some (clObj 0 0 0 (.func (.func 60) #[] #[.pointer (some ⟨E.kv, 0, none⟩)]) ByteArray.empty) ∧ w.heap[E.kv]? = some (.cells #[.string E.key] 9 (0, 0))) ∨
  w.heap[E.kb]? = some (clObj 1 0 1 .nilFunc E.key)
/-- The machine m lies at its block of the world w: only blocks that are new since w0 have turned. -/
structure VM (E : Fx) (vs vt : Value) (m : St) (i : Int) (d : Nat) (w : World) : Prop where
  bel : Below E.w0.heap.size E.w0 w
  base : E.w0.heap.size ≤ E.b
  kbase : E.w0.heap.size ≤ E.kb
  blk : ∃ cs, w.heap[E.b]? = some (.cells cs 84 (0, 0)) ∧ VCells E vs vt m i d cs
  ky : KeyOk E w
  st : w.ownsRow E.w0.heap.size 81 3 vs m.stack.length (fl encV m.stack.reverse)
  tl : w.ownsRow E.w0.heap.size 34 2 vt m.told.length (fl encP m.told)

theorem block_ne {w : World} {a b : Nat} {x y : Array Value} {t u : TypeId} {f g : Nat × Nat} (ha : w.heap[a]? = some (.cells x t f)) (hb : w.heap[b]? = some (.cells y u g)) (h : t ≠ u) : a ≠ b := by
  intro e
  subst e
  rw [ha] at hb
  cases hb
  exact h rfl
section
variable {E : Fx} {vs vt : Value} {m : St} {i : Int} {d : Nat} {w : World}
theorem KeyOk.on (h : KeyOk E w) {w' : World} (hb : Below w.heap.size w w') : KeyOk E w' := by
  rcases h with ⟨h1, h2⟩ | h1
  · exact .inl ⟨(hb.block _ (Array.getElem?_eq_some_iff.1 h1).1).trans h1, (hb.block _ (Array.getElem?_eq_some_iff.1 h2).1).trans h2⟩
  · exact .inr ((hb.block _ (Array.getElem?_eq_some_iff.1 h1).1).trans h1)
theorem KeyOk.grown (h : KeyOk E w) {w' : World} {r : Option Nat} (hg : w.grownBy w' r) (hr : ∀ q cs t f, r = some q → w.heap[q]? = some (.cells cs t f) → t ≠ 124 ∧ t ≠ 9) : KeyOk E w' := by
  have ne : ∀ (k : Nat) (cs : Array Value) (t : TypeId) (f : Nat × Nat), w.heap[k]? = some (.cells cs t f) → (t = 124 ∨ t = 9) → some k ≠ r := by
    intro k cs t f hk ht e
    have := hr k cs t f e.symm hk
    rcases ht with rfl | rfl
    · exact this.1 rfl
    · exact this.2 rfl
  rcases h with ⟨h1, h2⟩ | h1
  · exact .inl ⟨(hg.block _ (Array.getElem?_eq_some_iff.1 h1).1 (ne _ _ _ _ h1 (.inl rfl))).trans h1, (hg.block _ (Array.getElem?_eq_some_iff.1 h2).1 (ne _ _ _ _ h2 (.inr rfl))).trans h2⟩
  · exact .inr ((hg.block _ (Array.getElem?_eq_some_iff.1 h1).1 (ne _ _ _ _ h1 (.inl rfl))).trans h1)
theorem KeyOk.set (h : KeyOk E w) {b : Nat} {cs : Array Value} (hb : w.heap[b]? = some (.cells cs 84 (0, 0))) (j : Nat) (u : Value) : KeyOk E (w.setCell ⟨b, j, none⟩ u) := by
  rcases h with ⟨h1, h2⟩ | h1
  · exact .inl ⟨(Below.heap_setCell _ _ _ _ (block_ne h1 hb (by decide))).trans h1, (Below.heap_setCell _ _ _ _ (block_ne h2 hb (by decide))).trans h2⟩
  · exact .inr ((Below.heap_setCell _ _ _ _ (block_ne h1 hb (by decide))).trans h1)

theorem VM.on (h : VM E vs vt m i d w) {w' : World} (hb : Below w.heap.size w w') : VM E vs vt m i d w' := by
  obtain ⟨cs, hc, hC⟩ := h.blk
  exact ⟨below_then h.bel hb h.bel.size, h.base, h.kbase, ⟨cs, (hb.block _ (Array.getElem?_eq_some_iff.1 hc).1).trans hc, hC⟩, h.ky.on hb, owns_below h.st hb, owns_below h.tl hb⟩
theorem VM.lt (h : VM E vs vt m i d w) : E.b < w.heap.size := by
  obtain ⟨cs, hc, _⟩ := h.blk
  exact (Array.getElem?_eq_some_iff.1 hc).1
theorem VM.cP (h : VM E vs vt m i d w) : w.cell? ⟨E.b, 0, none⟩ = some E.vp := by obtain ⟨cs, hc, hC⟩ := h.blk; rw [cell_of_cells hc]; exact hC.p
theorem VM.cK (h : VM E vs vt m i d w) : w.cell? ⟨E.b, 1, none⟩ = some (.pointer (some ⟨E.kb, 0, none⟩)) := by obtain ⟨cs, hc, hC⟩ := h.blk; rw [cell_of_cells hc]; exact hC.k
theorem VM.cV (h : VM E vs vt m i d w) : w.cell? ⟨E.b, 2, none⟩ = some E.vv := by obtain ⟨cs, hc, hC⟩ := h.blk; rw [cell_of_cells hc]; exact hC.v
theorem VM.cT (h : VM E vs vt m i d w) : w.cell? ⟨E.b, 3, none⟩ = some (.int .i64 m.taken) := by obtain ⟨cs, hc, hC⟩ := h.blk; rw [cell_of_cells hc]; exact hC.t
theorem VM.cS (h : VM E vs vt m i d w) : w.cell? ⟨E.b, 4, none⟩ = some vs := by obtain ⟨cs, hc, hC⟩ := h.blk; rw [cell_of_cells hc]; exact hC.s
theorem VM.cR (h : VM E vs vt m i d w) {k : Nat} (hk : k < 8) {j : Nat} {u : Value} (hu : (encV (m.regs.getD k (.num 0)))[j]? = some u) : w.cell? ⟨E.b, 5 + k * 3 + j, none⟩ = some u := by obtain ⟨cs, hc, hC⟩ := h.blk; rw [cell_of_cells hc]; exact hC.r k hk j u hu
theorem VM.cN (h : VM E vs vt m i d w) : w.cell? ⟨E.b, 29, none⟩ = some (.int .i64 i) := by obtain ⟨cs, hc, hC⟩ := h.blk; rw [cell_of_cells hc]; exact hC.n
theorem VM.cO (h : VM E vs vt m i d w) : w.cell? ⟨E.b, 30, none⟩ = some vt := by obtain ⟨cs, hc, hC⟩ := h.blk; rw [cell_of_cells hc]; exact hC.o
theorem VM.cD (h : VM E vs vt m i d w) : w.cell? ⟨E.b, 31, none⟩ = some (.int .i64 d) := by obtain ⟨cs, hc, hC⟩ := h.blk; rw [cell_of_cells hc]; exact hC.d
theorem VM.free (h : VM E vs vt m i d w) (j : Nat) : w.frozen? ⟨E.b, j, none⟩ = false := by obtain ⟨cs, hc, _⟩ := h.blk; exact free_of_cells hc

/-- One of the machine's cells is written. -/
theorem VM.set (h : VM E vs vt m i d w) (j : Nat) (u : Value) {m' : St} {vs' vt' : Value} {i' : Int} {d' : Nat}
    (hs : w.ownsRow E.w0.heap.size 81 3 vs' m'.stack.length (fl encV m'.stack.reverse)) (ht : w.ownsRow E.w0.heap.size 34 2 vt' m'.told.length (fl encP m'.told))
    (hC : ∀ cs, VCells E vs vt m i d cs → VCells E vs' vt' m' i' d' (cs.setIfInBounds j u)) : VM E vs' vt' m' i' d' (w.setCell ⟨E.b, j, none⟩ u) := by
  obtain ⟨cs, hc, hCs⟩ := h.blk
  exact ⟨below_set h.bel h.base j u, h.base, h.kbase, ⟨_, set_block hc j u, hC cs hCs⟩, h.ky.set hc j u, owns_set hs hc (by decide) j u, owns_set ht hc (by decide) j u⟩
theorem VCells.off {cs : Array Value} (hC : VCells E vs vt m i d cs) {j : Nat} {u : Value} (hj : j < 5 ∨ 28 < j) : ∀ k, k < 8 → ∀ q x, (encV (m.regs.getD k (.num 0)))[q]? = some x → (cs.setIfInBounds j u)[5 + k * 3 + q]? = some x := by
  intro k hk q x hx
  have hq : q < 3 := by have := (List.getElem?_eq_some_iff.1 hx).1; rw [encV_len] at this; exact this
  rw [Array.getElem?_setIfInBounds_ne (by omega)]
  exact hC.r k hk q x hx
theorem VM.taken (h : VM E vs vt m i d w) (n : Nat) : VM E vs vt { m with taken := n } i d (w.setCell ⟨E.b, 3, none⟩ (.int .i64 n)) :=
  h.set 3 _ h.st h.tl fun cs hC => ⟨by simpa using hC.size, by rw [Array.getElem?_setIfInBounds_ne (by omega)]; exact hC.p, by rw [Array.getElem?_setIfInBounds_ne (by omega)]; exact hC.k, by rw [Array.getElem?_setIfInBounds_ne (by omega)]; exact hC.v, by rw [set_self (by rw [hC.size]; omega)], by rw [Array.getElem?_setIfInBounds_ne (by omega)]; exact hC.s, hC.off (by omega), by rw [Array.getElem?_setIfInBounds_ne (by omega)]; exact hC.n, by rw [Array.getElem?_setIfInBounds_ne (by omega)]; exact hC.o, by rw [Array.getElem?_setIfInBounds_ne (by omega)]; exact hC.d⟩
theorem VCells.setS {cs : Array Value} (hC : VCells E vs vt m i d cs) (vs' : Value) (l : List Val) : VCells E vs' vt { m with stack := l } i d (cs.setIfInBounds 4 vs') :=
  ⟨by simpa using hC.size, by rw [Array.getElem?_setIfInBounds_ne (by omega)]; exact hC.p, by rw [Array.getElem?_setIfInBounds_ne (by omega)]; exact hC.k, by rw [Array.getElem?_setIfInBounds_ne (by omega)]; exact hC.v, by rw [Array.getElem?_setIfInBounds_ne (by omega)]; exact hC.t, by rw [set_self (by rw [hC.size]; omega)], hC.off (by omega), by rw [Array.getElem?_setIfInBounds_ne (by omega)]; exact hC.n, by rw [Array.getElem?_setIfInBounds_ne (by omega)]; exact hC.o, by rw [Array.getElem?_setIfInBounds_ne (by omega)]; exact hC.d⟩
theorem VM.stack (h : VM E vs vt m i d w) {vs' : Value} {l : List Val} (ho : w.ownsRow E.w0.heap.size 81 3 vs' l.length (fl encV l.reverse)) : VM E vs' vt { m with stack := l } i d (w.setCell ⟨E.b, 4, none⟩ vs') :=
  h.set 4 _ ho h.tl fun cs hC => hC.setS vs' l
theorem VM.next (h : VM E vs vt m i d w) (i' : Int) : VM E vs vt m i' d (w.setCell ⟨E.b, 29, none⟩ (.int .i64 i')) :=
  h.set 29 _ h.st h.tl fun cs hC => ⟨by simpa using hC.size, by rw [Array.getElem?_setIfInBounds_ne (by omega)]; exact hC.p, by rw [Array.getElem?_setIfInBounds_ne (by omega)]; exact hC.k, by rw [Array.getElem?_setIfInBounds_ne (by omega)]; exact hC.v, by rw [Array.getElem?_setIfInBounds_ne (by omega)]; exact hC.t, by rw [Array.getElem?_setIfInBounds_ne (by omega)]; exact hC.s, hC.off (by omega), by rw [set_self (by rw [hC.size]; omega)], by rw [Array.getElem?_setIfInBounds_ne (by omega)]; exact hC.o, by rw [Array.getElem?_setIfInBounds_ne (by omega)]; exact hC.d⟩
theorem VCells.setO {cs : Array Value} (hC : VCells E vs vt m i d cs) (vt' : Value) (l : List Pr) : VCells E vs vt' { m with told := l } i d (cs.setIfInBounds 30 vt') :=
  ⟨by simpa using hC.size, by rw [Array.getElem?_setIfInBounds_ne (by omega)]; exact hC.p, by rw [Array.getElem?_setIfInBounds_ne (by omega)]; exact hC.k, by rw [Array.getElem?_setIfInBounds_ne (by omega)]; exact hC.v, by rw [Array.getElem?_setIfInBounds_ne (by omega)]; exact hC.t, by rw [Array.getElem?_setIfInBounds_ne (by omega)]; exact hC.s, hC.off (by omega), by rw [Array.getElem?_setIfInBounds_ne (by omega)]; exact hC.n, by rw [set_self (by rw [hC.size]; omega)], by rw [Array.getElem?_setIfInBounds_ne (by omega)]; exact hC.d⟩
theorem VM.tells (h : VM E vs vt m i d w) {vt' : Value} {l : List Pr} (ho : w.ownsRow E.w0.heap.size 34 2 vt' l.length (fl encP l)) : VM E vs vt' { m with told := l } i d (w.setCell ⟨E.b, 30, none⟩ vt') :=
  h.set 30 _ h.st ho fun cs hC => hC.setO vt' l
theorem VM.done (h : VM E vs vt m i d w) (d' : Nat) : VM E vs vt m i d' (w.setCell ⟨E.b, 31, none⟩ (.int .i64 d')) :=
  h.set 31 _ h.st h.tl fun cs hC => ⟨by simpa using hC.size, by rw [Array.getElem?_setIfInBounds_ne (by omega)]; exact hC.p, by rw [Array.getElem?_setIfInBounds_ne (by omega)]; exact hC.k, by rw [Array.getElem?_setIfInBounds_ne (by omega)]; exact hC.v, by rw [Array.getElem?_setIfInBounds_ne (by omega)]; exact hC.t, by rw [Array.getElem?_setIfInBounds_ne (by omega)]; exact hC.s, hC.off (by omega), by rw [Array.getElem?_setIfInBounds_ne (by omega)]; exact hC.n, by rw [Array.getElem?_setIfInBounds_ne (by omega)]; exact hC.o, by rw [set_self (by rw [hC.size]; omega)]⟩
/-- A register is written: its three cells, one behind the other. -/
theorem VM.reg (h : VM E vs vt m i d w) (h8 : m.regs.length = 8) {k : Nat} (hk : k < 8) {a : Val} {x y z : Value} (ha : encV a = [x, y, z]) :
    VM E vs vt { m with regs := m.regs.set k a } i d (((w.setCell ⟨E.b, 5 + k * 3, none⟩ x).setCell ⟨E.b, 5 + k * 3 + 1, none⟩ y).setCell ⟨E.b, 5 + k * 3 + 2, none⟩ z) := by
  obtain ⟨cs, hc, hC⟩ := h.blk
  have hc1 := set_block hc (5 + k * 3) x
  have hc2 := set_block hc1 (5 + k * 3 + 1) y
  have hc3 := set_block hc2 (5 + k * 3 + 2) z
  refine ⟨below_set (below_set (below_set h.bel h.base _ _) h.base _ _) h.base _ _, h.base, h.kbase, ⟨_, hc3, ?_⟩, ((h.ky.set hc _ _).set hc1 _ _).set hc2 _ _, owns_set (owns_set (owns_set h.st hc (by decide) _ _) hc1 (by decide) _ _) hc2 (by decide) _ _, owns_set (owns_set (owns_set h.tl hc (by decide) _ _) hc1 (by decide) _ _) hc2 (by decide) _ _⟩
  have off : ∀ j, (j < 5 + k * 3 ∨ 5 + k * 3 + 2 < j) → (((cs.setIfInBounds (5 + k * 3) x).setIfInBounds (5 + k * 3 + 1) y).setIfInBounds (5 + k * 3 + 2) z)[j]? = cs[j]? := by
    intro j hj
    rw [Array.getElem?_setIfInBounds_ne (by omega), Array.getElem?_setIfInBounds_ne (by omega), Array.getElem?_setIfInBounds_ne (by omega)]
  have hz := hC.size
  refine ⟨by simpa using hz, by rw [off _ (by omega)]; exact hC.p, by rw [off _ (by omega)]; exact hC.k, by rw [off _ (by omega)]; exact hC.v, by rw [off _ (by omega)]; exact hC.t, by rw [off _ (by omega)]; exact hC.s, fun j hj q u hu => ?_, by rw [off _ (by omega)]; exact hC.n, by rw [off _ (by omega)]; exact hC.o, by rw [off _ (by omega)]; exact hC.d⟩
  by_cases e : j = k
  · subst e
    have e2 : (m.regs.set j a).getD j (.num 0) = a := by simp [List.getD, h8, hk]
    simp only [e2, ha] at hu
    have hi : q = 0 ∨ q = 1 ∨ q = 2 := by have := (List.getElem?_eq_some_iff.1 hu).1; simp at this; omega
    rcases hi with rfl | rfl | rfl
    · simp at hu
      rw [Array.getElem?_setIfInBounds_ne (by omega), Array.getElem?_setIfInBounds_ne (by omega), Nat.add_zero, set_self (by omega), hu]
    · simp at hu
      rw [Array.getElem?_setIfInBounds_ne (by omega), set_self (by simp; omega), hu]
    · simp at hu
      rw [set_self (by simp; omega), hu]
  · have hi : q < 3 := by have := (List.getElem?_eq_some_iff.1 hu).1; rw [encV_len] at this; exact this
    have e2 : (m.regs.set k a).getD j (.num 0) = m.regs.getD j (.num 0) := by simp [List.getD, Ne.symm e]
    simp only [e2] at hu
    rw [off _ (by omega)]
    exact hC.r j hj q u hu
theorem own_kind {v : Value} {base e s n : Nat} {xs : List Value} (h : w.ownsRow base e s v n xs) {q : Nat} {cs : Array Value} {t : TypeId} {f : Nat × Nat} (hq : v.ownBlock = some q) (hc : w.heap[q]? = some (.cells cs t f)) : t = e := by
  rcases h.2 with ⟨rfl, _⟩ | ⟨g, cap, cur, rfl, _, hg, _⟩
  · cases hq
  · cases hq
    rw [hc] at hg
    cases hg
    rfl
/-- The stack's row has grown. -/
theorem VM.pushed (h : VM E vs vt m i d w) {w' : World} {vs' : Value} {l : List Val} (ho : w'.ownsRow E.w0.heap.size 81 3 vs' l.length (fl encV l.reverse)) (hg : w.grownBy w' vs.ownBlock) : VM E vs' vt { m with stack := l } i d (w'.setCell ⟨E.b, 4, none⟩ vs') := by
  obtain ⟨cs, hc, hC⟩ := h.blk
  have hb : w'.heap[E.b]? = some (.cells cs 84 (0, 0)) := (hg.block _ (Array.getElem?_eq_some_iff.1 hc).1 (fun e => owns_off h.st hc (by decide) e.symm)).trans hc
  have hk : KeyOk E w' := h.ky.grown hg (by intro q cs t f hq hc; rw [own_kind h.st hq hc]; exact ⟨by decide, by decide⟩)
  have hbel : Below E.w0.heap.size E.w0 w' := h.bel.grown hg h.bel.size (fun q hq => owns_base h.st hq)
  exact ⟨below_set hbel h.base 4 vs', h.base, h.kbase, ⟨_, set_block hb 4 vs', hC.setS vs' l⟩, hk.set hb 4 vs', owns_set ho hb (by decide) 4 vs', owns_set (owns_grown h.tl h.st (by decide) hg) hb (by decide) 4 vs'⟩
/-- The pairs' row has grown. -/
theorem VM.emitted (h : VM E vs vt m i d w) {w' : World} {vt' : Value} {l : List Pr} (ho : w'.ownsRow E.w0.heap.size 34 2 vt' l.length (fl encP l)) (hg : w.grownBy w' vt.ownBlock) : VM E vs vt' { m with told := l } i d (w'.setCell ⟨E.b, 30, none⟩ vt') := by
  obtain ⟨cs, hc, hC⟩ := h.blk
  have hb : w'.heap[E.b]? = some (.cells cs 84 (0, 0)) := (hg.block _ (Array.getElem?_eq_some_iff.1 hc).1 (fun e => owns_off h.tl hc (by decide) e.symm)).trans hc
  have hk : KeyOk E w' := h.ky.grown hg (by intro q cs t f hq hc; rw [own_kind h.tl hq hc]; exact ⟨by decide, by decide⟩)
  have hbel : Below E.w0.heap.size E.w0 w' := h.bel.grown hg h.bel.size (fun q hq => owns_base h.tl hq)
  exact ⟨below_set hbel h.base 30 vt', h.base, h.kbase, ⟨_, set_block hb 30 vt', hC.setO vt' l⟩, hk.set hb 30 vt', owns_set (owns_grown h.st h.tl (by decide) hg) hb (by decide) 30 vt', owns_set ho hb (by decide) 30 vt'⟩
theorem VM.heldS (h : VM E vs vt m i d w) {w' : World} (hg : w.grownBy w' vs.ownBlock) : w'.heap[E.b]? = w.heap[E.b]? := by
  obtain ⟨cs, hc, hC⟩ := h.blk
  exact hg.block _ (Array.getElem?_eq_some_iff.1 hc).1 (fun e => owns_off h.st hc (by decide) e.symm)
theorem VM.heldO (h : VM E vs vt m i d w) {w' : World} (hg : w.grownBy w' vt.ownBlock) : w'.heap[E.b]? = w.heap[E.b]? := by
  obtain ⟨cs, hc, hC⟩ := h.blk
  exact hg.block _ (Array.getElem?_eq_some_iff.1 hc).1 (fun e => owns_off h.tl hc (by decide) e.symm)
theorem VM.freeAt (h : VM E vs vt m i d w) {w' : World} (he : w'.heap[E.b]? = w.heap[E.b]?) (j : Nat) : w'.frozen? ⟨E.b, j, none⟩ = false := by
  obtain ⟨cs, hc, hC⟩ := h.blk
  exact free_of_cells (he.trans hc)
theorem own_slice {v : Value} {base e s n : Nat} {xs : List Value} (h : w.ownsRow base e s v n xs) : ∃ ao c, v = .slice ao n c := by
  rcases h.2 with ⟨h1, rfl⟩ | ⟨g, cap, cur, h1, _⟩
  · exact ⟨_, _, h1⟩
  · exact ⟨_, _, h1⟩
/-- The machine, wherever its rows lie. -/
def VMac (E : Fx) (m : St) (i : Int) (d : Nat) (w : World) : Prop := ∃ vs vt, VM E vs vt m i d w
theorem VMac.on (h : VMac E m i d w) {w' : World} (hb : Below w.heap.size w w') : VMac E m i d w' := by
  obtain ⟨vs, vt, h⟩ := h
  exact ⟨vs, vt, h.on hb⟩
/-- A row cut to its first elements. -/
theorem owns_cut {ao : Option Addr} {n cap k base e s : Nat} {xs ys : List Value} (h : w.ownsRow base e s (.slice ao n cap) n (xs ++ ys)) (hk : k ≤ n) (hx : xs.length = k * s) : w.ownsRow base e s (.slice ao k cap) k xs := by
  refine ⟨hx, ?_⟩
  rcases h.2 with ⟨h1, h0⟩ | ⟨g, cap', cur, h1, hb, hg, hn, hm, hs, ht⟩
  · cases h1
    obtain rfl : k = 0 := by omega
    exact .inl ⟨rfl, rfl⟩
  · cases h1
    refine .inr ⟨g, cap, cur, rfl, hb, hg, by omega, hm, hs, ?_⟩
    have e1 : (cur.toList.take (n * s)).take (k * s) = xs := by rw [ht, List.take_append_of_le_length (by omega), List.take_of_length_le (by omega)]
    rw [List.take_take, Nat.min_eq_left (Nat.mul_le_mul_right s hk)] at e1
    exact e1
/-- What an instruction leaves: why it ended, or the machine and the next place. -/
def Did (E : Fx) (i : Int) (d : Nat) : Out → Ending → World → Prop
  | .stop r, e, w' => e = .returned (.int .i64 r) ∧ ∃ m i, VMac E m i d w'
  | .next m, e, w' => e = .returned (.int .i64 0) ∧ VMac E m i d w'
  | .goto t m, e, w' => e = .returned (.int .i64 0) ∧ VMac E m t d w'
end
end Go.Proofs.YtobgobmfhgagbaaGreatDoor
