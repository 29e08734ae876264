/- Laid together: VMac VPush VTake VTurns. -/
import Derived.Test.YtfimoobgbodbmaaGreatDoorMVal
import Derived.Test.YtfimoobgbodbmaaGreatDoorGLzy
import Derived.Test.YtfimoobgbodbmaaGreatDoorGVv
/-! The program's own machine (chapter 6) in memory: its block, the key's cell, its stack's row, its pairs' row. -/
namespace Go.Proofs.YtfimoobgbodbmaaGreatDoor
open Go.RowKit Go.Lib
set_option linter.unusedVariables false
set_option maxRecDepth 100000

/-- What stays as it is in a run: the world ahead of it, where the machine, its key's cell and the key itself lie, the key, the program's slice, the values'. -/
structure Fx where
  w0 : World
  b : Nat
  kb : Nat
  kv : Nat
  key : ByteArray
  vp : Value
  vv : Value
/-- The machine's own cells. -/
structure VCells (E : Fx) (vs vt : Value) (m : St) (i : Int) (d : Nat) (cs : Array Value) : Prop where
  size : cs.size = 32
  p : cs[0]? = some E.vp
  k : cs[1]? = some (.pointer (some ⟨E.kb, 0, none⟩))
  v : cs[2]? = some E.vv
  t : cs[3]? = some (.int .i64 m.taken)
  s : cs[4]? = some vs
  r : ∀ k, k < 8 → ∀ j u, (encV (m.regs.getD k (.num 0)))[j]? = some u → cs[5 + k * 3 + j]? = some u
  n : cs[29]? = some (.int .i64 i)
  o : cs[30]? = some vt
  d : cs[31]? = some (.int .i64 d)
/-- The key's cell: not asked yet, or made. -/
def KeyOk (E : Fx) (w : World) : Prop :=
  (w.heap[E.kb]? = some (clObj 0 0 0 (.func (.func 136) #[] #[.pointer (some ⟨E.kv, 0, none⟩)]) ByteArray.empty) ∧ w.heap[E.kv]? = some (.cells #[.string E.key] 9 (0, 0))) ∨
  w.heap[E.kb]? = some (clObj 1 0 1 .nilFunc E.key)
/-- The machine m lies at its block of the world w: only blocks that are new since w0 have turned. -/
structure VM (E : Fx) (vs vt : Value) (m : St) (i : Int) (d : Nat) (w : World) : Prop where
  bel : Below E.w0.heap.size E.w0 w
  base : E.w0.heap.size ≤ E.b
  kbase : E.w0.heap.size ≤ E.kb
  blk : ∃ cs, w.heap[E.b]? = some (.cells cs 177 (0, 0)) ∧ VCells E vs vt m i d cs
  ky : KeyOk E w
  st : w.ownsRow E.w0.heap.size 151 3 vs m.stack.length (fl encV m.stack.reverse)
  tl : w.ownsRow E.w0.heap.size 105 2 vt m.told.length (fl encP m.told)

theorem block_ne {w : World} {a b : Nat} {x y : Array Value} {t u : TypeId} {f g : Nat × Nat} (ha : w.heap[a]? = some (.cells x t f)) (hb : w.heap[b]? = some (.cells y u g)) (h : t ≠ u) : a ≠ b := by
  intro e
  subst e
  rw [ha] at hb
  cases hb
  exact h rfl
section
variable {E : Fx} {vs vt : Value} {m : St} {i : Int} {d : Nat} {w : World}
theorem KeyOk.on (h : KeyOk E w) {w' : World} (hb : Below w.heap.size w w') : KeyOk E w' := by
  rcases h with ⟨h1, h2⟩ | h1
  · exact .inl ⟨(hb.block _ (Array.getElem?_eq_some_iff.1 h1).1).trans h1, (hb.block _ (Array.getElem?_eq_some_iff.1 h2).1).trans h2⟩
  · exact .inr ((hb.block _ (Array.getElem?_eq_some_iff.1 h1).1).trans h1)
theorem KeyOk.grown (h : KeyOk E w) {w' : World} {r : Option Nat} (hg : w.grownBy w' r) (hr : ∀ q cs t f, r = some q → w.heap[q]? = some (.cells cs t f) → t ≠ 213 ∧ t ≠ 9) : KeyOk E w' := by
  have ne : ∀ (k : Nat) (cs : Array Value) (t : TypeId) (f : Nat × Nat), w.heap[k]? = some (.cells cs t f) → (t = 213 ∨ t = 9) → some k ≠ r := by
    intro k cs t f hk ht e
    have := hr k cs t f e.symm hk
    rcases ht with rfl | rfl
    · exact this.1 rfl
    · exact this.2 rfl
  rcases h with ⟨h1, h2⟩ | h1
  · exact .inl ⟨(hg.block _ (Array.getElem?_eq_some_iff.1 h1).1 (ne _ _ _ _ h1 (.inl rfl))).trans h1, (hg.block _ (Array.getElem?_eq_some_iff.1 h2).1 (ne _ _ _ _ h2 (.inr rfl))).trans h2⟩
  · exact .inr ((hg.block _ (Array.getElem?_eq_some_iff.1 h1).1 (ne _ _ _ _ h1 (.inl rfl))).trans h1)
theorem KeyOk.set (h : KeyOk E w) {b : Nat} {cs : Array Value} (hb : w.heap[b]? = some (.cells cs 177 (0, 0))) (j : Nat) (u : Value) : KeyOk E (w.setCell ⟨b, j, none⟩ u) := by
  rcases h with ⟨h1, h2⟩ | h1
  · exact .inl ⟨(Below.heap_setCell _ _ _ _ (block_ne h1 hb (by decide))).trans h1, (Below.heap_setCell _ _ _ _ (block_ne h2 hb (by decide))).trans h2⟩
  · exact .inr ((Below.heap_setCell _ _ _ _ (block_ne h1 hb (by decide))).trans h1)

theorem VM.on (h : VM E vs vt m i d w) {w' : World} (hb : Below w.heap.size w w') : VM E vs vt m i d w' := by
  obtain ⟨cs, hc, hC⟩ := h.blk
  exact ⟨below_then h.bel hb h.bel.size, h.base, h.kbase, ⟨cs, (hb.block _ (Array.getElem?_eq_some_iff.1 hc).1).trans hc, hC⟩, h.ky.on hb, owns_below h.st hb, owns_below h.tl hb⟩
theorem VM.lt (h : VM E vs vt m i d w) : E.b < w.heap.size := by
  obtain ⟨cs, hc, _⟩ := h.blk
  exact (Array.getElem?_eq_some_iff.1 hc).1
theorem VM.cP (h : VM E vs vt m i d w) : w.cell? ⟨E.b, 0, none⟩ = some E.vp := by obtain ⟨cs, hc, hC⟩ := h.blk; rw [cell_of_cells hc]; exact hC.p
theorem VM.cK (h : VM E vs vt m i d w) : w.cell? ⟨E.b, 1, none⟩ = some (.pointer (some ⟨E.kb, 0, none⟩)) := by obtain ⟨cs, hc, hC⟩ := h.blk; rw [cell_of_cells hc]; exact hC.k
theorem VM.cV (h : VM E vs vt m i d w) : w.cell? ⟨E.b, 2, none⟩ = some E.vv := by obtain ⟨cs, hc, hC⟩ := h.blk; rw [cell_of_cells hc]; exact hC.v
theorem VM.cT (h : VM E vs vt m i d w) : w.cell? ⟨E.b, 3, none⟩ = some (.int .i64 m.taken) := by obtain ⟨cs, hc, hC⟩ := h.blk; rw [cell_of_cells hc]; exact hC.t
theorem VM.cS (h : VM E vs vt m i d w) : w.cell? ⟨E.b, 4, none⟩ = some vs := by obtain ⟨cs, hc, hC⟩ := h.blk; rw [cell_of_cells hc]; exact hC.s
theorem VM.cR (h : VM E vs vt m i d w) {k : Nat} (hk : k < 8) {j : Nat} {u : Value} (hu : (encV (m.regs.getD k (.num 0)))[j]? = some u) : w.cell? ⟨E.b, 5 + k * 3 + j, none⟩ = some u := by obtain ⟨cs, hc, hC⟩ := h.blk; rw [cell_of_cells hc]; exact hC.r k hk j u hu
theorem VM.cN (h : VM E vs vt m i d w) : w.cell? ⟨E.b, 29, none⟩ = some (.int .i64 i) := by obtain ⟨cs, hc, hC⟩ := h.blk; rw [cell_of_cells hc]; exact hC.n
theorem VM.cO (h : VM E vs vt m i d w) : w.cell? ⟨E.b, 30, none⟩ = some vt := by obtain ⟨cs, hc, hC⟩ := h.blk; rw [cell_of_cells hc]; exact hC.o
theorem VM.cD (h : VM E vs vt m i d w) : w.cell? ⟨E.b, 31, none⟩ = some (.int .i64 d) := by obtain ⟨cs, hc, hC⟩ := h.blk; rw [cell_of_cells hc]; exact hC.d
theorem VM.free (h : VM E vs vt m i d w) (j : Nat) : w.frozen? ⟨E.b, j, none⟩ = false := by obtain ⟨cs, hc, _⟩ := h.blk; exact free_of_cells hc

/-- One of the machine's cells is written. -/
theorem VM.set (h : VM E vs vt m i d w) (j : Nat) (u : Value) {m' : St} {vs' vt' : Value} {i' : Int} {d' : Nat}
    (hs : w.ownsRow E.w0.heap.size 151 3 vs' m'.stack.length (fl encV m'.stack.reverse)) (ht : w.ownsRow E.w0.heap.size 105 2 vt' m'.told.length (fl encP m'.told))
    (hC : ∀ cs, VCells E vs vt m i d cs → VCells E vs' vt' m' i' d' (cs.setIfInBounds j u)) : VM E vs' vt' m' i' d' (w.setCell ⟨E.b, j, none⟩ u) := by
  obtain ⟨cs, hc, hCs⟩ := h.blk
  exact ⟨below_set h.bel h.base j u, h.base, h.kbase, ⟨_, set_block hc j u, hC cs hCs⟩, h.ky.set hc j u, owns_set hs hc (by decide) j u, owns_set ht hc (by decide) j u⟩
theorem VCells.off {cs : Array Value} (hC : VCells E vs vt m i d cs) {j : Nat} {u : Value} (hj : j < 5 ∨ 28 < j) : ∀ k, k < 8 → ∀ q x, (encV (m.regs.getD k (.num 0)))[q]? = some x → (cs.setIfInBounds j u)[5 + k * 3 + q]? = some x := by
  intro k hk q x hx
  have hq : q < 3 := by have := (List.getElem?_eq_some_iff.1 hx).1; rw [encV_len] at this; exact this
  rw [Array.getElem?_setIfInBounds_ne (by omega)]
  exact hC.r k hk q x hx
theorem VM.taken (h : VM E vs vt m i d w) (n : Nat) : VM E vs vt { m with taken := n } i d (w.setCell ⟨E.b, 3, none⟩ (.int .i64 n)) :=
  h.set 3 _ h.st h.tl fun cs hC => ⟨by simpa using hC.size, by rw [Array.getElem?_setIfInBounds_ne (by omega)]; exact hC.p, by rw [Array.getElem?_setIfInBounds_ne (by omega)]; exact hC.k, by rw [Array.getElem?_setIfInBounds_ne (by omega)]; exact hC.v, by rw [set_self (by rw [hC.size]; omega)], by rw [Array.getElem?_setIfInBounds_ne (by omega)]; exact hC.s, hC.off (by omega), by rw [Array.getElem?_setIfInBounds_ne (by omega)]; exact hC.n, by rw [Array.getElem?_setIfInBounds_ne (by omega)]; exact hC.o, by rw [Array.getElem?_setIfInBounds_ne (by omega)]; exact hC.d⟩
theorem VCells.setS {cs : Array Value} (hC : VCells E vs vt m i d cs) (vs' : Value) (l : List Val) : VCells E vs' vt { m with stack := l } i d (cs.setIfInBounds 4 vs') :=
  ⟨by simpa using hC.size, by rw [Array.getElem?_setIfInBounds_ne (by omega)]; exact hC.p, by rw [Array.getElem?_setIfInBounds_ne (by omega)]; exact hC.k, by rw [Array.getElem?_setIfInBounds_ne (by omega)]; exact hC.v, by rw [Array.getElem?_setIfInBounds_ne (by omega)]; exact hC.t, by rw [set_self (by rw [hC.size]; omega)], hC.off (by omega), by rw [Array.getElem?_setIfInBounds_ne (by omega)]; exact hC.n, by rw [Array.getElem?_setIfInBounds_ne (by omega)]; exact hC.o, by rw [Array.getElem?_setIfInBounds_ne (by omega)]; exact hC.d⟩
theorem VM.stack (h : VM E vs vt m i d w) {vs' : Value} {l : List Val} (ho : w.ownsRow E.w0.heap.size 151 3 vs' l.length (fl encV l.reverse)) : VM E vs' vt { m with stack := l } i d (w.setCell ⟨E.b, 4, none⟩ vs') :=
  h.set 4 _ ho h.tl fun cs hC => hC.setS vs' l
theorem VM.next (h : VM E vs vt m i d w) (i' : Int) : VM E vs vt m i' d (w.setCell ⟨E.b, 29, none⟩ (.int .i64 i')) :=
  h.set 29 _ h.st h.tl fun cs hC => ⟨by simpa using hC.size, by rw [Array.getElem?_setIfInBounds_ne (by omega)]; exact hC.p, by rw [Array.getElem?_setIfInBounds_ne (by omega)]; exact hC.k, by rw [Array.getElem?_setIfInBounds_ne (by omega)]; exact hC.v, by rw [Array.getElem?_setIfInBounds_ne (by omega)]; exact hC.t, by rw [Array.getElem?_setIfInBounds_ne (by omega)]; exact hC.s, hC.off (by omega), by rw [set_self (by rw [hC.size]; omega)], by rw [Array.getElem?_setIfInBounds_ne (by omega)]; exact hC.o, by rw [Array.getElem?_setIfInBounds_ne (by omega)]; exact hC.d⟩
theorem VCells.setO {cs : Array Value} (hC : VCells E vs vt m i d cs) (vt' : Value) (l : List Pr) : VCells E vs vt' { m with told := l } i d (cs.setIfInBounds 30 vt') :=
  ⟨by simpa using hC.size, by rw [Array.getElem?_setIfInBounds_ne (by omega)]; exact hC.p, by rw [Array.getElem?_setIfInBounds_ne (by omega)]; exact hC.k, by rw [Array.getElem?_setIfInBounds_ne (by omega)]; exact hC.v, by rw [Array.getElem?_setIfInBounds_ne (by omega)]; exact hC.t, by rw [Array.getElem?_setIfInBounds_ne (by omega)]; exact hC.s, hC.off (by omega), by rw [Array.getElem?_setIfInBounds_ne (by omega)]; exact hC.n, by rw [set_self (by rw [hC.size]; omega)], by rw [Array.getElem?_setIfInBounds_ne (by omega)]; exact hC.d⟩
theorem VM.tells (h : VM E vs vt m i d w) {vt' : Value} {l : List Pr} (ho : w.ownsRow E.w0.heap.size 105 2 vt' l.length (fl encP l)) : VM E vs vt' { m with told := l } i d (w.setCell ⟨E.b, 30, none⟩ vt') :=
  h.set 30 _ h.st ho fun cs hC => hC.setO vt' l
theorem VM.done (h : VM E vs vt m i d w) (d' : Nat) : VM E vs vt m i d' (w.setCell ⟨E.b, 31, none⟩ (.int .i64 d')) :=
  h.set 31 _ h.st h.tl fun cs hC => ⟨by simpa using hC.size, by rw [Array.getElem?_setIfInBounds_ne (by omega)]; exact hC.p, by rw [Array.getElem?_setIfInBounds_ne (by omega)]; exact hC.k, by rw [Array.getElem?_setIfInBounds_ne (by omega)]; exact hC.v, by rw [Array.getElem?_setIfInBounds_ne (by omega)]; exact hC.t, by rw [Array.getElem?_setIfInBounds_ne (by omega)]; exact hC.s, hC.off (by omega), by rw [Array.getElem?_setIfInBounds_ne (by omega)]; exact hC.n, by rw [Array.getElem?_setIfInBounds_ne (by omega)]; exact hC.o, by rw [set_self (by rw [hC.size]; omega)]⟩
/-- A register is written: its three cells, one behind the other. -/
theorem VM.reg (h : VM E vs vt m i d w) (h8 : m.regs.length = 8) {k : Nat} (hk : k < 8) {a : Val} {x y z : Value} (ha : encV a = [x, y, z]) :
    VM E vs vt { m with regs := m.regs.set k a } i d (((w.setCell ⟨E.b, 5 + k * 3, none⟩ x).setCell ⟨E.b, 5 + k * 3 + 1, none⟩ y).setCell ⟨E.b, 5 + k * 3 + 2, none⟩ z) := by
  obtain ⟨cs, hc, hC⟩ := h.blk
  have hc1 := set_block hc (5 + k * 3) x
  have hc2 := set_block hc1 (5 + k * 3 + 1) y
  have hc3 := set_block hc2 (5 + k * 3 + 2) z
  refine ⟨below_set (below_set (below_set h.bel h.base _ _) h.base _ _) h.base _ _, h.base, h.kbase, ⟨_, hc3, ?_⟩, ((h.ky.set hc _ _).set hc1 _ _).set hc2 _ _, owns_set (owns_set (owns_set h.st hc (by decide) _ _) hc1 (by decide) _ _) hc2 (by decide) _ _, owns_set (owns_set (owns_set h.tl hc (by decide) _ _) hc1 (by decide) _ _) hc2 (by decide) _ _⟩
  have off : ∀ j, (j < 5 + k * 3 ∨ 5 + k * 3 + 2 < j) → (((cs.setIfInBounds (5 + k * 3) x).setIfInBounds (5 + k * 3 + 1) y).setIfInBounds (5 + k * 3 + 2) z)[j]? = cs[j]? := by
    intro j hj
    rw [Array.getElem?_setIfInBounds_ne (by omega), Array.getElem?_setIfInBounds_ne (by omega), Array.getElem?_setIfInBounds_ne (by omega)]
  have hz := hC.size
  refine ⟨by simpa using hz, by rw [off _ (by omega)]; exact hC.p, by rw [off _ (by omega)]; exact hC.k, by rw [off _ (by omega)]; exact hC.v, by rw [off _ (by omega)]; exact hC.t, by rw [off _ (by omega)]; exact hC.s, fun j hj q u hu => ?_, by rw [off _ (by omega)]; exact hC.n, by rw [off _ (by omega)]; exact hC.o, by rw [off _ (by omega)]; exact hC.d⟩
  by_cases e : j = k
  · subst e
    have e2 : (m.regs.set j a).getD j (.num 0) = a := by simp [List.getD, h8, hk]
    simp only [e2, ha] at hu
    have hi : q = 0 ∨ q = 1 ∨ q = 2 := by have := (List.getElem?_eq_some_iff.1 hu).1; simp at this; omega
    rcases hi with rfl | rfl | rfl
    · simp at hu
      rw [Array.getElem?_setIfInBounds_ne (by omega), Array.getElem?_setIfInBounds_ne (by omega), Nat.add_zero, set_self (by omega), hu]
    · simp at hu
      rw [Array.getElem?_setIfInBounds_ne (by omega), set_self (by simp; omega), hu]
    · simp at hu
      rw [set_self (by simp; omega), hu]
  · have hi : q < 3 := by have := (List.getElem?_eq_some_iff.1 hu).1; rw [encV_len] at this; exact this
    have e2 : (m.regs.set k a).getD j (.num 0) = m.regs.getD j (.num 0) := by simp [List.getD, Ne.symm e]
    simp only [e2] at hu
    rw [off _ (by omega)]
    exact hC.r j hj q u hu
theorem own_kind {v : Value} {base e s n : Nat} {xs : List Value} (h : w.ownsRow base e s v n xs) {q : Nat} {cs : Array Value} {t : TypeId} {f : Nat × Nat} (hq : v.ownBlock = some q) (hc : w.heap[q]? = some (.cells cs t f)) : t = e := by
  rcases h.2 with ⟨rfl, _⟩ | ⟨g, cap, cur, rfl, _, hg, _⟩
  · cases hq
  · cases hq
    rw [hc] at hg
    cases hg
    rfl
/-- The stack's row has grown. -/
theorem VM.pushed (h : VM E vs vt m i d w) {w' : World} {vs' : Value} {l : List Val} (ho : w'.ownsRow E.w0.heap.size 151 3 vs' l.length (fl encV l.reverse)) (hg : w.grownBy w' vs.ownBlock) : VM E vs' vt { m with stack := l } i d (w'.setCell ⟨E.b, 4, none⟩ vs') := by
  obtain ⟨cs, hc, hC⟩ := h.blk
  have hb : w'.heap[E.b]? = some (.cells cs 177 (0, 0)) := (hg.block _ (Array.getElem?_eq_some_iff.1 hc).1 (fun e => owns_off h.st hc (by decide) e.symm)).trans hc
  have hk : KeyOk E w' := h.ky.grown hg (by intro q cs t f hq hc; rw [own_kind h.st hq hc]; exact ⟨by decide, by decide⟩)
  have hbel : Below E.w0.heap.size E.w0 w' := h.bel.grown hg h.bel.size (fun q hq => owns_base h.st hq)
  exact ⟨below_set hbel h.base 4 vs', h.base, h.kbase, ⟨_, set_block hb 4 vs', hC.setS vs' l⟩, hk.set hb 4 vs', owns_set ho hb (by decide) 4 vs', owns_set (owns_grown h.tl h.st (by decide) hg) hb (by decide) 4 vs'⟩
/-- The pairs' row has grown. -/
theorem VM.emitted (h : VM E vs vt m i d w) {w' : World} {vt' : Value} {l : List Pr} (ho : w'.ownsRow E.w0.heap.size 105 2 vt' l.length (fl encP l)) (hg : w.grownBy w' vt.ownBlock) : VM E vs vt' { m with told := l } i d (w'.setCell ⟨E.b, 30, none⟩ vt') := by
  obtain ⟨cs, hc, hC⟩ := h.blk
  have hb : w'.heap[E.b]? = some (.cells cs 177 (0, 0)) := (hg.block _ (Array.getElem?_eq_some_iff.1 hc).1 (fun e => owns_off h.tl hc (by decide) e.symm)).trans hc
  have hk : KeyOk E w' := h.ky.grown hg (by intro q cs t f hq hc; rw [own_kind h.tl hq hc]; exact ⟨by decide, by decide⟩)
  have hbel : Below E.w0.heap.size E.w0 w' := h.bel.grown hg h.bel.size (fun q hq => owns_base h.tl hq)
  exact ⟨below_set hbel h.base 30 vt', h.base, h.kbase, ⟨_, set_block hb 30 vt', hC.setO vt' l⟩, hk.set hb 30 vt', owns_set (owns_grown h.st h.tl (by decide) hg) hb (by decide) 30 vt', owns_set ho hb (by decide) 30 vt'⟩
theorem VM.heldS (h : VM E vs vt m i d w) {w' : World} (hg : w.grownBy w' vs.ownBlock) : w'.heap[E.b]? = w.heap[E.b]? := by
  obtain ⟨cs, hc, hC⟩ := h.blk
  exact hg.block _ (Array.getElem?_eq_some_iff.1 hc).1 (fun e => owns_off h.st hc (by decide) e.symm)
theorem VM.heldO (h : VM E vs vt m i d w) {w' : World} (hg : w.grownBy w' vt.ownBlock) : w'.heap[E.b]? = w.heap[E.b]? := by
  obtain ⟨cs, hc, hC⟩ := h.blk
  exact hg.block _ (Array.getElem?_eq_some_iff.1 hc).1 (fun e => owns_off h.tl hc (by decide) e.symm)
theorem VM.freeAt (h : VM E vs vt m i d w) {w' : World} (he : w'.heap[E.b]? = w.heap[E.b]?) (j : Nat) : w'.frozen? ⟨E.b, j, none⟩ = false := by
  obtain ⟨cs, hc, hC⟩ := h.blk
  exact free_of_cells (he.trans hc)
theorem own_slice {v : Value} {base e s n : Nat} {xs : List Value} (h : w.ownsRow base e s v n xs) : ∃ ao c, v = .slice ao n c := by
  rcases h.2 with ⟨h1, rfl⟩ | ⟨g, cap, cur, h1, _⟩
  · exact ⟨_, _, h1⟩
  · exact ⟨_, _, h1⟩
/-- The machine, wherever its rows lie. -/
def VMac (E : Fx) (m : St) (i : Int) (d : Nat) (w : World) : Prop := ∃ vs vt, VM E vs vt m i d w
theorem VMac.on (h : VMac E m i d w) {w' : World} (hb : Below w.heap.size w w') : VMac E m i d w' := by
  obtain ⟨vs, vt, h⟩ := h
  exact ⟨vs, vt, h.on hb⟩
/-- A row cut to its first elements. -/
theorem owns_cut {ao : Option Addr} {n cap k base e s : Nat} {xs ys : List Value} (h : w.ownsRow base e s (.slice ao n cap) n (xs ++ ys)) (hk : k ≤ n) (hx : xs.length = k * s) : w.ownsRow base e s (.slice ao k cap) k xs := by
  refine ⟨hx, ?_⟩
  rcases h.2 with ⟨h1, h0⟩ | ⟨g, cap', cur, h1, hb, hg, hn, hm, hs, ht⟩
  · cases h1
    obtain rfl : k = 0 := by omega
    exact .inl ⟨rfl, rfl⟩
  · cases h1
    refine .inr ⟨g, cap, cur, rfl, hb, hg, by omega, hm, hs, ?_⟩
    have e1 : (cur.toList.take (n * s)).take (k * s) = xs := by rw [ht, List.take_append_of_le_length (by omega), List.take_of_length_le (by omega)]
    rw [List.take_take, Nat.min_eq_left (Nat.mul_le_mul_right s hk)] at e1
    exact e1
/-- What an instruction leaves: why it ended, or the machine and the next place. -/
def Did (E : Fx) (i : Int) (d : Nat) : Out → Ending → World → Prop
  | .stop r, e, w' => e = .returned (.int .i64 r) ∧ ∃ m i, VMac E m i d w'
  | .next m, e, w' => e = .returned (.int .i64 0) ∧ VMac E m i d w'
  | .goto t m, e, w' => e = .returned (.int .i64 0) ∧ VMac E m t d w'
end
end Go.Proofs.YtfimoobgbodbmaaGreatDoor
/-! push of the program's machine. -/
namespace Go.Proofs.YtfimoobgbodbmaaGreatDoor
open Go.RowKit Go.Lib
set_option linter.unusedVariables false
set_option maxRecDepth 100000

variable {E : Fx} {vs vt : Value} {m : St} {i : Int} {d : Nat} {w : World}
theorem push_big {s out : List Val} {x : Val} (hx : x ∈ out) (hb : x.big = true) : push m s out = .stop 4 := by
  unfold push
  rw [if_pos (List.any_eq_true.2 ⟨x, hx, hb⟩)]
theorem none_big {out : List Val} (h : ∀ x ∈ out, x.big = false) : ¬ out.any Val.big = true := by
  intro e
  obtain ⟨x, hx, hb⟩ := List.any_eq_true.1 e
  rw [h x hx] at hb
  cases hb
theorem take_more {out : List Val} {k : Nat} (hk : k < out.length) (h : ∀ x ∈ out.take k, x.big = false) (h1 : out[k].big = false) : ∀ x ∈ out.take (k + 1), x.big = false := by
  intro x hx
  rw [List.take_succ_eq_append_getElem hk, List.mem_append] at hx
  rcases hx with hx | hx
  · exact h x hx
  · rw [List.mem_singleton.1 hx]
    exact h1
set_option maxHeartbeats 2000000 in
theorem push_any (h : VMac E m i d w) (hs : m.stack.length ≤ 16) {v : Value} {out : List Val} (hv : Vls w v out) (ho : out.length ≤ 100) (hn : out ≠ []) :
    Calls Tryz.prog 164 #[.pointer (some ⟨E.b, 0, none⟩), v] w (Did E i d (push m m.stack out)) := by
  obtain ⟨vs, vt, h⟩ := h
  obtain ⟨i0, hi, hz0, hz1, hz2⟩ := info_parts Tryz.infoV
  have HV := hid hv
  obtain ⟨g, off, cap, rfl, h2, hlt, hc⟩ := hv.lie hn
  have H := hid h
  have HC := hid hc
  obtain ⟨vs0, vs2, rfl⟩ := own_slice h.st
  clear h hc hv
  go_enter Tryz.func164, Tryz.ntmps164
  go_wp2
  go_loopw [9] (fun j wr => ∃ k : Nat, k ≤ out.length ∧ j = .int .i64 k ∧ Below w.heap.size w wr ∧ ∀ x ∈ out.take k, x.big = false) (fun j _ => out.length - (Go.RowKit.intOf j).toNat)
  case atStart => exact ⟨0, by omega, rfl, Below.refl _ _, by simp⟩
  case round =>
    obtain ⟨k, hk, rfl, hbel, hb⟩ := hrel
    have HB := hid hb
    have HW := hid hbel
    clear hb hbel
    by_cases hkl : k < out.length
    · have hd4 : decide ((k : Int) < (out.length : Int)) = true := by simp; omega
      have hx : ∀ q u, (encV out[k])[q]? = some u → wr.cell? ⟨g, off + k * 3 + q, none⟩ = some u := fun q u hu => (HW.out.cell (p := ⟨g, off + k * 3 + q, none⟩) hlt).trans (HC.out k _ (List.getElem?_eq_getElem hkl) q u hu)
      have HM := hid (take_more hkl HB.out)
      have HX := hid (fun hb => push_big (m := m) (s := m.stack) (List.getElem_mem hkl) hb)
      generalize out[k] = x at hx HM HX
      cases x with
      | num a =>
        have c0 := hx 0 _ rfl
        have c1 := hx 1 _ rfl
        have c2 := hx 2 _ rfl
        simp only [Nat.add_zero] at c0
        clear hx
        have HK := hid (below_then HW.out (alloc1 wr (.cells #[.bool false, .int .i64 a, .string ⟨#[]⟩] 151)) HW.out.size)
        go_wp2
        go_roundw
        case rel => exact ⟨k + 1, by omega, by go_num, HK.out, HM.out rfl⟩
        case measure => simp [Go.RowKit.intOf]; omega
      | text s =>
        have c0 := hx 0 _ rfl
        have c1 := hx 1 _ rfl
        have c2 := hx 2 _ rfl
        simp only [Nat.add_zero] at c0
        clear hx
        have HK := hid (below_then HW.out (alloc1 wr (.cells #[.bool true, .int .i64 0, .string s] 151)) HW.out.size)
        by_cases hbig : 64 < s.size
        · have hd5 : decide ((64 : Int) < (s.size : Int)) = true := by simp; omega
          go_wp2
          go_ret
          rw [HX.out (by simp [Val.big]; omega)]
          exact ⟨rfl, _, _, _, _, H.out.on HK.out⟩
        · have hd5 : decide ((64 : Int) < (s.size : Int)) = false := by simp; omega
          go_wp2
          go_roundw
          case rel => exact ⟨k + 1, by omega, by go_num, HK.out, HM.out (by simp [Val.big]; omega)⟩
          case measure => simp [Go.RowKit.intOf]; omega
    · have hd4 : decide ((k : Int) < (out.length : Int)) = false := by simp; omega
      obtain rfl : k = out.length := by omega
      rw [List.take_of_length_le (Nat.le_refl _)] at HB
      have HN := hid (none_big HB.out)
      have H3 := hid (H.out.on HW.out)
      have c4 := H3.out.cS
      have f4 := H3.out.free 4
      by_cases hfull : 16 < m.stack.length + out.length
      · have hd6 : decide ((16 : Int) < (m.stack.length : Int) + (out.length : Int)) = true := by simp; omega
        go_wp2
        go_ret
        have e : push m m.stack out = .stop 1 := by unfold push; rw [if_neg HN.out, if_pos hfull]
        rw [e]
        exact ⟨rfl, _, _, _, _, H3.out⟩
      · have hd6 : decide ((16 : Int) < (m.stack.length : Int) + (out.length : Int)) = false := by simp; omega
        have HP := hid (show push m m.stack out = .next { m with stack := out.reverse ++ m.stack } by unfold push; rw [if_neg HN.out, if_neg hfull])
        go_wp2_with (at_builtin; refine wpList_append_own_any _ rfl _ _ 149 rfl E.w0.heap.size 151 i0 _ 3 32 Tryz.underlying149 hi hz0 hz1 hz2 rfl (by decide) _ m.stack.length (fl encV m.stack.reverse) rfl H3.out.st (some ⟨g, off, none⟩) out.length cap (fl encV out) rfl (fl_length encV_len _) (by intro e; cases e) (Reads.news encV_len (by decide) HV.out HW.out) (fl_one encV_one _) (by unfold maxLen; omega) (by omega) (H3.out.bel.size) ?_; intro v1 w1 ho1 hg1; (have HO := hid ho1); (have HG := hid hg1); (obtain ⟨ao1, cc1, rfl⟩ := own_slice ho1); (have d4 : w1.cell? ⟨E.b, 4, none⟩ = some (.slice vs0 m.stack.length vs2) := (World.cell?_of_block (w := wr) (H3.out.heldS hg1)).trans c4); (have e4 := H3.out.freeAt (H3.out.heldS hg1) 4); clear ho1 hg1 c4 f4)
        go_ret
        rw [HP.out]
        refine ⟨rfl, _, _, H3.out.pushed (l := out.reverse ++ m.stack) ?_ HG.out⟩
        have e1 : (out.reverse ++ m.stack).length = m.stack.length + out.length := by simp; omega
        have e2 : fl encV (out.reverse ++ m.stack).reverse = fl encV m.stack.reverse ++ fl encV out := by rw [List.reverse_append, List.reverse_reverse, fl_append]
        rw [e1, e2]
        exact HO.out
end Go.Proofs.YtfimoobgbodbmaaGreatDoor
/-! take of the program's machine: what is needed is taken off the stack. -/
namespace Go.Proofs.YtfimoobgbodbmaaGreatDoor
open Go.RowKit Go.Lib
set_option linter.unusedVariables false
set_option maxRecDepth 100000

/-- A value's three cells. -/
def tri : Val → Bool × Int × ByteArray
  | .num n => (false, n, ⟨#[]⟩)
  | .text s => (true, 0, s)
theorem encV_tri (a : Val) : encV a = [.bool (tri a).1, .int .i64 (tri a).2.1, .string (tri a).2.2] := by cases a <;> rfl
theorem vV_tri (a : Val) : vV a = .agg #[.bool (tri a).1, .int .i64 (tri a).2.1, .string (tri a).2.2] := by cases a <;> rfl
abbrev zV : Val := .num 0
/-- Three values, one behind the other. -/
abbrev nine (a b c : Val) : Array Value := #[.bool (tri a).1, .int .i64 (tri a).2.1, .string (tri a).2.2, .bool (tri b).1, .int .i64 (tri b).2.1, .string (tri b).2.2, .bool (tri c).1, .int .i64 (tri c).2.1, .string (tri c).2.2]
abbrev triV (a : Val) : Value := .agg #[.bool (tri a).1, .int .i64 (tri a).2.1, .string (tri a).2.2]
abbrev opV (a b c : Val) : Value := .agg (nine a b c)
def encK (k : Int) : List Value := [.int .i64 k]
theorem encK_len : ∀ x, (encK x).length = 1 := fun _ => rfl
/-- Does a value fit what is needed? -/
def fitsT (k : Int) (t : Bool) : Bool := k == 0 || ((k == 2) == t)
def sel (av : List Val) (k j : Nat) : Val := if j < k then av.getD j zV else zV

theorem fits_calls (k : Int) (t : Bool) (n : Int) (s : ByteArray) (w : World) : Calls Tryz.prog 220 #[.int .i64 k, .agg #[.bool t, .int .i64 n, .string s]] w fun e w' => e = .returned (.bool (fitsT k t)) ∧ Below w.heap.size w w' := by
  have hb : ∀ o1, Below w.heap.size w (w.alloc o1) := fun o1 => alloc1 w o1
  unfold fitsT
  by_cases h0 : k = 0
  · subst h0
    go_enter Tryz.func220, Tryz.ntmps220
    go_wp2
    go_ret
    exact ⟨rfl, hb _⟩
  · have e0 : (k == 0) = false := by simpa using h0
    rw [e0]
    by_cases h2 : k = 2
    · subst h2
      cases t <;>
      (go_enter Tryz.func220, Tryz.ntmps220
       go_wp2
       go_ret
       exact ⟨rfl, hb _⟩)
    · have e2 : (k == 2) = false := by simpa using h2
      rw [e2]
      cases t <;>
      (go_enter Tryz.func220, Tryz.ntmps220
       go_wp2
       go_ret
       exact ⟨rfl, hb _⟩)

section
variable {w : World} {G : Nat} {a b c : Val} {t : TypeId}
theorem nine_one (a b c : Val) : (nine a b c).all (·.oneCell') = true := by simp [Value.oneCell']
theorem nine0 (h : w.heap[G]? = some (.cells (nine a b c) t (0, 0))) (x : Val) : (((w.setCell ⟨G, 0, none⟩ (.bool (tri x).1)).setCell ⟨G, 1, none⟩ (.int .i64 (tri x).2.1)).setCell ⟨G, 2, none⟩ (.string (tri x).2.2)).heap[G]? = some (.cells (nine x b c) t (0, 0)) :=
  heap_setCell_same _ G 2 _ _ _ (heap_setCell_same _ G 1 _ _ _ (heap_setCell_same w G 0 _ _ _ h))
theorem nine1 (h : w.heap[G]? = some (.cells (nine a b c) t (0, 0))) (x : Val) : (((w.setCell ⟨G, 3, none⟩ (.bool (tri x).1)).setCell ⟨G, 4, none⟩ (.int .i64 (tri x).2.1)).setCell ⟨G, 5, none⟩ (.string (tri x).2.2)).heap[G]? = some (.cells (nine a x c) t (0, 0)) :=
  heap_setCell_same _ G 5 _ _ _ (heap_setCell_same _ G 4 _ _ _ (heap_setCell_same w G 3 _ _ _ h))
theorem nine2 (h : w.heap[G]? = some (.cells (nine a b c) t (0, 0))) (x : Val) : (((w.setCell ⟨G, 6, none⟩ (.bool (tri x).1)).setCell ⟨G, 7, none⟩ (.int .i64 (tri x).2.1)).setCell ⟨G, 8, none⟩ (.string (tri x).2.2)).heap[G]? = some (.cells (nine a b x) t (0, 0)) :=
  heap_setCell_same _ G 8 _ _ _ (heap_setCell_same _ G 7 _ _ _ (heap_setCell_same w G 6 _ _ _ h))
theorem set3_heap {i1 i2 i3 g : Nat} {x y z : Value} (hne : g ≠ G) : (((w.setCell ⟨G, i1, none⟩ x).setCell ⟨G, i2, none⟩ y).setCell ⟨G, i3, none⟩ z).heap[g]? = w.heap[g]? := by
  rw [Below.heap_setCell _ _ _ _ hne, Below.heap_setCell _ _ _ _ hne, Below.heap_setCell _ _ _ _ hne]
theorem below_set3 {w0 : World} {B : Nat} (h : Below B w0 w) (hb : B ≤ G) (i1 i2 i3 : Nat) (x y z : Value) : Below B w0 (((w.setCell ⟨G, i1, none⟩ x).setCell ⟨G, i2, none⟩ y).setCell ⟨G, i3, none⟩ z) := below_set (below_set (below_set h hb _ _) hb _ _) hb _ _
theorem below_row {w0 : World} {B : Nat} (h : Below B w0 w) (hb : B ≤ G) (cs : Array Value) : Below B w0 (w.setRow G cs) :=
  ⟨h.os, h.tape, h.output, by simpa using h.size, fun k hk => (setRow_other w G k cs (by omega)).trans (h.block k hk)⟩
theorem below_both {w' : World} {B g j : Nat} {v : Value} (h : Below B w w') (hg : g < B) : Below B (w.setCell ⟨g, j, none⟩ v) (w'.setCell ⟨g, j, none⟩ v) := by
  refine ⟨h.os, h.tape, h.output, by simpa [World.setCell] using h.size, fun k hk => ?_⟩
  by_cases e : k = g
  · subst e
    have := h.block k hk
    simp only [World.setCell, Array.getElem?_modify, if_true, this]
  · rw [Below.heap_setCell _ _ _ _ e, Below.heap_setCell _ _ _ _ e]
    exact h.block k hk
end
theorem sel0 (av : List Val) (j : Nat) : sel av 0 j = zV := rfl
theorem sel_lt {av : List Val} {k j : Nat} (h : j < k) : sel av k j = av.getD j zV := by unfold sel; rw [if_pos h]
theorem sel_ge {av : List Val} {k j : Nat} (h : k ≤ j) : sel av k j = zV := by unfold sel; rw [if_neg (by omega)]
theorem set_kept {w : World} {b j : Nat} {cs : Array Value} {t : TypeId} {v : Value} (h : w.heap[b]? = some (.cells cs t (0, 0))) (hv : cs[j]? = some v) : w.setCell ⟨b, j, none⟩ v = w := by
  obtain ⟨hj, hv⟩ := Array.getElem?_eq_some_iff.1 hv
  have e : cs.setIfInBounds j v = cs := by
    apply Array.ext_getElem?
    intro k
    by_cases hk : j = k
    · subst hk
      rw [set_self hj, Array.getElem?_eq_getElem hj, hv]
    · rw [Array.getElem?_setIfInBounds_ne hk]
  have hh : (w.setCell ⟨b, j, none⟩ v).heap = w.heap := by
    apply Array.ext_getElem?
    intro k
    by_cases hk : k = b
    · subst hk
      rw [set_block h, e, h]
    · exact Below.heap_setCell _ _ _ _ hk
  have : (w.setCell ⟨b, j, none⟩ v) = { w with heap := (w.setCell ⟨b, j, none⟩ v).heap } := by unfold World.setCell; rfl
  rw [this, hh]
/-- The kinds that are needed, as they lie. -/
theorem ks_cell {w : World} {kb ko : Nat} {ks : List Int} (h : ∀ j x, ks[j]? = some x → ∀ k u, (encK x)[k]? = some u → w.cell? ⟨kb, ko + j * 1 + k, none⟩ = some u) {j : Nat} (hj : j < ks.length) : w.cell? ⟨kb, ko + j, none⟩ = some (.int .i64 (ks.getD j 0)) := by
  have := h j ks[j] (List.getElem?_eq_getElem hj) 0 _ rfl
  rw [List.getD_eq_getElem?_getD, List.getElem?_eq_getElem hj]
  simpa using this
theorem st_cell {w : World} {g off : Nat} {l av s : List Val} (h : ∀ j x, l[j]? = some x → ∀ k u, (encV x)[k]? = some u → w.cell? ⟨g, off + j * 3 + k, none⟩ = some u) (hl : l = s.reverse ++ av) {k : Nat} (hk : k < av.length) :
    w.cell? ⟨g, off + (s.length + k) * 3, none⟩ = some (.bool (tri (av.getD k zV)).1) ∧ w.cell? ⟨g, off + (s.length + k) * 3 + 1, none⟩ = some (.int .i64 (tri (av.getD k zV)).2.1) ∧ w.cell? ⟨g, off + (s.length + k) * 3 + 2, none⟩ = some (.string (tri (av.getD k zV)).2.2) := by
  have hx : l[s.length + k]? = some (av.getD k zV) := by
    rw [hl, List.getElem?_append_right (by simp), List.getD_eq_getElem?_getD, List.length_reverse, Nat.add_sub_cancel_left, List.getElem?_eq_getElem hk]
    rfl
  have h0 := h _ _ hx 0 _ (by rw [encV_tri]; rfl)
  have h1 := h _ _ hx 1 _ (by rw [encV_tri]; rfl)
  have h2 := h _ _ hx 2 _ (by rw [encV_tri]; rfl)
  exact ⟨h0, h1, h2⟩
theorem fits_more {ks : List Int} {av : List Val} {k : Nat} (h : ∀ q, q < k → fitsT (ks.getD q 0) (tri (av.getD q zV)).1 = true) (h1 : fitsT (ks.getD k 0) (tri (av.getD k zV)).1 = true) : ∀ q, q < k + 1 → fitsT (ks.getD q 0) (tri (av.getD q zV)).1 = true := by
  intro q hq
  by_cases e : q = k
  · subst e; exact h1
  · exact h q (by omega)

variable {E : Fx} {vs vt : Value} {m : St} {i : Int} {d : Nat} {w : World}
set_option maxHeartbeats 2000000 in
/-- Too few. -/
theorem take_under (h : VMac E m i d w) {v : Value} {ks : List Int} (hv : Reads 1 encK w v ks) (hk : m.stack.length < ks.length) (h3 : ks.length ≤ 3) :
    Calls Tryz.prog 205 #[.pointer (some ⟨E.b, 0, none⟩), v] w fun e w' => e = .returned (.tuple #[opV zV zV zV, .int .i64 1]) ∧ VMac E m i d w' := by
  obtain ⟨vs, vt, h⟩ := h
  obtain ⟨vs0, vs2, rfl⟩ := own_slice h.st
  obtain ⟨ao, cap, rfl, h1, h2, -, -⟩ := hv
  have H := hid (fun o1 o2 => ((h.on (alloc1 w o1)).on (alloc1 _ o2)))
  have c4 : ((w.alloc (Obj.cells #[.bool false, .int .i64 0, .string ⟨#[]⟩, .bool false, .int .i64 0, .string ⟨#[]⟩, .bool false, .int .i64 0, .string ⟨#[]⟩] 235)).alloc (Obj.cells #[.bool false, .int .i64 0, .string ⟨#[]⟩, .bool false, .int .i64 0, .string ⟨#[]⟩, .bool false, .int .i64 0, .string ⟨#[]⟩] 235)).cell? ⟨E.b, 4, none⟩ = some (.slice vs0 m.stack.length vs2) := ((h.on (alloc1 w _)).on (alloc1 _ _)).cS
  have hd : decide ((m.stack.length : Int) - (ks.length : Int) < 0) = true := by simp; omega
  have hd2 : (m.stack.length : Int) - (ks.length : Int) < 0 := by omega
  generalize m.stack.length = N at *
  clear h
  go_enter Tryz.func205, Tryz.ntmps205
  go_wp2
  refine bodyPost_ret (v := .tuple #[opV zV zV zV, .int .i64 1]) (by simp [results, Tryz.results205, go_sem, tri]) rfl ⟨rfl, _, _, H.out _ _⟩

set_option maxHeartbeats 4000000 in
/-- Enough: of the kinds that are needed, or not. -/
theorem take_enough (h : VMac E m i d w) {v : Value} {ks : List Int} (hv : Reads 1 encK w v ks) {av s : List Val} (hst : m.stack = av.reverse ++ s) (hl : av.length = ks.length) (h3 : ks.length ≤ 3) (h0 : 0 < ks.length) (hs : s.length ≤ 16) :
    Calls Tryz.prog 205 #[.pointer (some ⟨E.b, 0, none⟩), v] w fun e w' =>
      ((∀ k, k < ks.length → fitsT (ks.getD k 0) (tri (av.getD k zV)).1 = true) → e = .returned (.tuple #[opV (sel av ks.length 0) (sel av ks.length 1) (sel av ks.length 2), .int .i64 0]) ∧ VMac E { m with stack := s } i d w') ∧
      ((∃ k, k < ks.length ∧ fitsT (ks.getD k 0) (tri (av.getD k zV)).1 = false) → e = .returned (.tuple #[opV zV zV zV, .int .i64 2]) ∧ VMac E m i d w') := by
  obtain ⟨vs, vt, h⟩ := h
  obtain ⟨vs0, vs2, rfl⟩ := own_slice h.st
  obtain ⟨ao, cap, rfl, h1, h2, -, h5⟩ := hv
  obtain ⟨kb, ko, rfl, hkb, hkc⟩ := h5 (by intro e; rw [e] at h0; simp at h0)
  have hN : m.stack.length = s.length + ks.length := by rw [hst]; simp; omega
  have hR : Vls w (.slice vs0 m.stack.length vs2) m.stack.reverse := Reads.own encV_len (by decide) h.st
  obtain ⟨g, off, cap2, heq, hl2, hgl, hgc⟩ := hR.lie (by intro e; have := congrArg List.length e; simp at this; rw [this] at hN; simp at hN; omega)
  simp only [List.length_reverse, Value.slice.injEq, true_and] at heq
  obtain ⟨rfl, rfl⟩ := heq
  have hrev : m.stack.reverse = s.reverse ++ av := by rw [hst, List.reverse_append, List.reverse_reverse]
  have hown : w.ownsRow E.w0.heap.size 151 3 (.slice (some ⟨g, off, none⟩) s.length vs2) s.length (fl encV s.reverse) := by
    have := h.st
    rw [hrev, fl_append] at this
    exact owns_cut this (by omega) (by rw [fl_length encV_len]; simp)
  have HO := hid (h.stack (l := s) hown)
  have HG := hid (fun k (hk : k < av.length) => st_cell hgc hrev hk)
  have HK := hid (fun k (hk : k < ks.length) => ks_cell hkc hk)
  have H := hid h
  have hbl := h.lt
  have c4 : ((w.alloc (Obj.cells #[.bool false, .int .i64 0, .string ⟨#[]⟩, .bool false, .int .i64 0, .string ⟨#[]⟩, .bool false, .int .i64 0, .string ⟨#[]⟩] 235)).alloc (Obj.cells #[.bool false, .int .i64 0, .string ⟨#[]⟩, .bool false, .int .i64 0, .string ⟨#[]⟩, .bool false, .int .i64 0, .string ⟨#[]⟩] 235)).cell? ⟨E.b, 4, none⟩ = some (.slice (some ⟨g, off, none⟩) m.stack.length vs2) := ((h.on (alloc1 w _)).on (alloc1 _ _)).cS
  have hd : decide ((m.stack.length : Int) - (ks.length : Int) < 0) = false := by simp; omega
  have hlow : (m.stack.length : Int) - (ks.length : Int) = (s.length : Int) := by omega
  have HBW := hid (show Below w.heap.size w ((w.alloc (Obj.cells #[.bool false, .int .i64 0, .string ⟨#[]⟩, .bool false, .int .i64 0, .string ⟨#[]⟩, .bool false, .int .i64 0, .string ⟨#[]⟩] 235)).alloc (Obj.cells #[.bool false, .int .i64 0, .string ⟨#[]⟩, .bool false, .int .i64 0, .string ⟨#[]⟩, .bool false, .int .i64 0, .string ⟨#[]⟩] 235)) from below_then (alloc1 w _) (alloc1 _ _) (by simp))
  have HR0 := hid (show ((w.alloc (Obj.cells #[.bool false, .int .i64 0, .string ⟨#[]⟩, .bool false, .int .i64 0, .string ⟨#[]⟩, .bool false, .int .i64 0, .string ⟨#[]⟩] 235)).alloc (Obj.cells #[.bool false, .int .i64 0, .string ⟨#[]⟩, .bool false, .int .i64 0, .string ⟨#[]⟩, .bool false, .int .i64 0, .string ⟨#[]⟩] 235)).heap[w.heap.size]? = some (.cells #[.bool false, .int .i64 0, .string ⟨#[]⟩, .bool false, .int .i64 0, .string ⟨#[]⟩, .bool false, .int .i64 0, .string ⟨#[]⟩] 235 (0, 0)) from ((alloc1 _ _).block _ (by simp)).trans (new_block _ _))
  have HG0 := hid (show ((w.alloc (Obj.cells #[.bool false, .int .i64 0, .string ⟨#[]⟩, .bool false, .int .i64 0, .string ⟨#[]⟩, .bool false, .int .i64 0, .string ⟨#[]⟩] 235)).alloc (Obj.cells #[.bool false, .int .i64 0, .string ⟨#[]⟩, .bool false, .int .i64 0, .string ⟨#[]⟩, .bool false, .int .i64 0, .string ⟨#[]⟩] 235)).heap[w.heap.size + 1]? = some (.cells (nine zV zV zV) 235 (0, 0)) from by
    have := new_block (w.alloc (Obj.cells #[.bool false, .int .i64 0, .string ⟨#[]⟩, .bool false, .int .i64 0, .string ⟨#[]⟩, .bool false, .int .i64 0, .string ⟨#[]⟩] 235)) (Obj.cells #[.bool false, .int .i64 0, .string ⟨#[]⟩, .bool false, .int .i64 0, .string ⟨#[]⟩, .bool false, .int .i64 0, .string ⟨#[]⟩] 235)
    rw [show (w.alloc (Obj.cells #[.bool false, .int .i64 0, .string ⟨#[]⟩, .bool false, .int .i64 0, .string ⟨#[]⟩, .bool false, .int .i64 0, .string ⟨#[]⟩] 235)).heap.size = w.heap.size + 1 by simp] at this
    exact this)
  have hcap : s.length ≤ vs2 := by simp only [List.length_reverse] at hl2; omega
  clear hgc hR hkc h5 h hown hrev hl2
  obtain ⟨N, eN⟩ : ∃ N, m.stack.length = N := ⟨_, rfl⟩
  rw [eN] at hN c4 hd hlow H
  go_enter Tryz.func205, Tryz.ntmps205
  go_wp2
  go_loopw [23] (fun j wr => ∃ k : Nat, k ≤ ks.length ∧ j = .int .i64 k ∧ Below w.heap.size w wr ∧ wr.heap[w.heap.size]? = some (.cells #[.bool false, .int .i64 0, .string ⟨#[]⟩, .bool false, .int .i64 0, .string ⟨#[]⟩, .bool false, .int .i64 0, .string ⟨#[]⟩] 235 (0, 0)) ∧ wr.heap[w.heap.size + 1]? = some (.cells (nine (sel av k 0) (sel av k 1) (sel av k 2)) 235 (0, 0)) ∧ ∀ q, q < k → fitsT (ks.getD q 0) (tri (av.getD q zV)).1 = true) (fun j _ => ks.length - (Go.RowKit.intOf j).toNat)
  case atStart => exact ⟨0, by omega, rfl, HBW.out, HR0.out, HG0.out, fun q hq => by omega⟩
  case round =>
    clear c4
    obtain ⟨k, hk, rfl, hbel, hr, hg, hf⟩ := hrel
    have HW := hid hbel
    have HR := hid hr
    have HB := hid hg
    have HF := hid hf
    clear hbel hr hg hf HBW HR0 HG0
    have H3 := hid (H.out.on HW.out)
    have c4 := H3.out.cS
    have f4 := H3.out.free 4
    by_cases hkl : k < ks.length
    · have hkl' : k = 0 ∨ k = 1 ∨ k = 2 := by omega
      have ck : wr.cell? ⟨kb, ko + k, none⟩ = some (.int .i64 (ks.getD k 0)) := (HW.out.cell (p := ⟨kb, ko + k, none⟩) hkb).trans (HK.out k hkl)
      have s0 : wr.cell? ⟨g, off + (s.length + k) * 3, none⟩ = _ := (HW.out.cell (p := ⟨g, _, none⟩) hgl).trans (HG.out k (by omega)).1
      have s1 : wr.cell? ⟨g, off + (s.length + k) * 3 + 1, none⟩ = _ := (HW.out.cell (p := ⟨g, _, none⟩) hgl).trans (HG.out k (by omega)).2.1
      have s2 : wr.cell? ⟨g, off + (s.length + k) * 3 + 2, none⟩ = _ := (HW.out.cell (p := ⟨g, _, none⟩) hgl).trans (HG.out k (by omega)).2.2
      have hd4 : decide ((k : Int) < (ks.length : Int)) = true := by simp; omega
      have HX := hid (show ∀ b, fitsT (ks.getD k 0) (tri (av.getD k zV)).1 = b → fitsT (ks.getD k 0) (tri (av.getD k zV)).1 = b from fun _ h => h)
      obtain ⟨x, ex⟩ : ∃ x, x = av.getD k zV := ⟨_, rfl⟩
      obtain ⟨kk, ekk⟩ : ∃ kk, kk = ks.getD k 0 := ⟨_, rfl⟩
      rw [← ex] at s0 s1 s2
      rw [← ekk] at ck
      have EX := hid ex
      have EK := hid ekk
      clear ex ekk
      have hgb : g ≠ w.heap.size + 1 := by omega
      rcases hkl' with rfl | rfl | rfl
      · have HB1 := hid (show wr.heap[w.heap.size + 1]? = some (.cells (nine zV zV zV) 235 (0, 0)) from HB.out)
        have p0 : wr.cell? ⟨w.heap.size + 1, 0, none⟩ = some (.bool (tri zV).1) := cell_of_cells HB1.out
        have p1 : wr.cell? ⟨w.heap.size + 1, 1, none⟩ = some (.int .i64 (tri zV).2.1) := cell_of_cells HB1.out
        have p2 : wr.cell? ⟨w.heap.size + 1, 2, none⟩ = some (.string (tri zV).2.2) := cell_of_cells HB1.out
        have z0 : wr.frozen? ⟨w.heap.size + 1, 0, none⟩ = false := free_of_cells HB1.out
        have z1 : wr.frozen? ⟨w.heap.size + 1, 1, none⟩ = false := free_of_cells HB1.out
        have z2 : wr.frozen? ⟨w.heap.size + 1, 2, none⟩ = false := free_of_cells HB1.out
        have HB2 := hid (nine0 HB1.out x)
        have q0 : (((wr.setCell ⟨w.heap.size + 1, 0, none⟩ (.bool (tri x).1)).setCell ⟨w.heap.size + 1, 1, none⟩ (.int .i64 (tri x).2.1)).setCell ⟨w.heap.size + 1, 2, none⟩ (.string (tri x).2.2)).cell? ⟨w.heap.size + 1, 0, none⟩ = some (.bool (tri x).1) := cell_of_cells HB2.out
        have q1 : (((wr.setCell ⟨w.heap.size + 1, 0, none⟩ (.bool (tri x).1)).setCell ⟨w.heap.size + 1, 1, none⟩ (.int .i64 (tri x).2.1)).setCell ⟨w.heap.size + 1, 2, none⟩ (.string (tri x).2.2)).cell? ⟨w.heap.size + 1, 1, none⟩ = some (.int .i64 (tri x).2.1) := cell_of_cells HB2.out
        have q2 : (((wr.setCell ⟨w.heap.size + 1, 0, none⟩ (.bool (tri x).1)).setCell ⟨w.heap.size + 1, 1, none⟩ (.int .i64 (tri x).2.1)).setCell ⟨w.heap.size + 1, 2, none⟩ (.string (tri x).2.2)).cell? ⟨w.heap.size + 1, 2, none⟩ = some (.string (tri x).2.2) := cell_of_cells HB2.out
        have HW2 := hid (show Below w.heap.size w (((wr.setCell ⟨w.heap.size + 1, 0, none⟩ (.bool (tri x).1)).setCell ⟨w.heap.size + 1, 1, none⟩ (.int .i64 (tri x).2.1)).setCell ⟨w.heap.size + 1, 2, none⟩ (.string (tri x).2.2)) from below_set3 HW.out (by omega) _ _ _ _ _ _)
        have HR2 := hid (show (((wr.setCell ⟨w.heap.size + 1, 0, none⟩ (.bool (tri x).1)).setCell ⟨w.heap.size + 1, 1, none⟩ (.int .i64 (tri x).2.1)).setCell ⟨w.heap.size + 1, 2, none⟩ (.string (tri x).2.2)).heap[w.heap.size]? = _ from (set3_heap (by omega)).trans HR.out)
        try simp only [Nat.add_zero] at s0 s1 s2 ck
        go_wp2_with fail
        refine (fits_calls kk (tri x).1 (tri x).2.1 (tri x).2.2 _).mono ?_
        rintro e w5 ⟨rfl, hb5⟩
        have HW5 := hid (below_then HW2.out hb5 HW2.out.size)
        have HR5 := hid ((hb5.block _ (Array.getElem?_eq_some_iff.1 HR2.out).1).trans HR2.out)
        have HB5 := hid ((hb5.block _ (Array.getElem?_eq_some_iff.1 HB2.out).1).trans HB2.out)
        clear hb5 HW2 HR2 HB2 q0 q1 q2 p0 p1 p2 z0 z1 z2 s0 s1 s2 ck
        by_cases hfit : fitsT kk (tri x).1 = true
        · go_wp2
          go_roundw
          case rel => exact ⟨0 + 1, by omega, by go_num, HW5.out, HR5.out, by
            have e := HB5.out
            rw [EX.out] at e
            exact e, fits_more HF.out (by rw [← EX.out, ← EK.out]; exact hfit)⟩
          case measure => simp [Go.RowKit.intOf]; omega
        · have hfit : fitsT kk (tri x).1 = false := by simpa using hfit
          have i0 : w5.setCell ⟨w.heap.size, 0, none⟩ (.bool false) = w5 := set_kept HR5.out rfl
          have r0 : w5.cell? ⟨w.heap.size, 0, none⟩ = some (.bool false) := cell_of_cells HR5.out
          have y0 : w5.frozen? ⟨w.heap.size, 0, none⟩ = false := free_of_cells HR5.out
          have i1 : w5.setCell ⟨w.heap.size, 1, none⟩ (.int .i64 0) = w5 := set_kept HR5.out rfl
          have r1 : w5.cell? ⟨w.heap.size, 1, none⟩ = some (.int .i64 0) := cell_of_cells HR5.out
          have y1 : w5.frozen? ⟨w.heap.size, 1, none⟩ = false := free_of_cells HR5.out
          have i2 : w5.setCell ⟨w.heap.size, 2, none⟩ (.string ⟨#[]⟩) = w5 := set_kept HR5.out rfl
          have r2 : w5.cell? ⟨w.heap.size, 2, none⟩ = some (.string ⟨#[]⟩) := cell_of_cells HR5.out
          have y2 : w5.frozen? ⟨w.heap.size, 2, none⟩ = false := free_of_cells HR5.out
          have i3 : w5.setCell ⟨w.heap.size, 3, none⟩ (.bool false) = w5 := set_kept HR5.out rfl
          have r3 : w5.cell? ⟨w.heap.size, 3, none⟩ = some (.bool false) := cell_of_cells HR5.out
          have y3 : w5.frozen? ⟨w.heap.size, 3, none⟩ = false := free_of_cells HR5.out
          have i4 : w5.setCell ⟨w.heap.size, 4, none⟩ (.int .i64 0) = w5 := set_kept HR5.out rfl
          have r4 : w5.cell? ⟨w.heap.size, 4, none⟩ = some (.int .i64 0) := cell_of_cells HR5.out
          have y4 : w5.frozen? ⟨w.heap.size, 4, none⟩ = false := free_of_cells HR5.out
          have i5 : w5.setCell ⟨w.heap.size, 5, none⟩ (.string ⟨#[]⟩) = w5 := set_kept HR5.out rfl
          have r5 : w5.cell? ⟨w.heap.size, 5, none⟩ = some (.string ⟨#[]⟩) := cell_of_cells HR5.out
          have y5 : w5.frozen? ⟨w.heap.size, 5, none⟩ = false := free_of_cells HR5.out
          have i6 : w5.setCell ⟨w.heap.size, 6, none⟩ (.bool false) = w5 := set_kept HR5.out rfl
          have r6 : w5.cell? ⟨w.heap.size, 6, none⟩ = some (.bool false) := cell_of_cells HR5.out
          have y6 : w5.frozen? ⟨w.heap.size, 6, none⟩ = false := free_of_cells HR5.out
          have i7 : w5.setCell ⟨w.heap.size, 7, none⟩ (.int .i64 0) = w5 := set_kept HR5.out rfl
          have r7 : w5.cell? ⟨w.heap.size, 7, none⟩ = some (.int .i64 0) := cell_of_cells HR5.out
          have y7 : w5.frozen? ⟨w.heap.size, 7, none⟩ = false := free_of_cells HR5.out
          have i8 : w5.setCell ⟨w.heap.size, 8, none⟩ (.string ⟨#[]⟩) = w5 := set_kept HR5.out rfl
          have r8 : w5.cell? ⟨w.heap.size, 8, none⟩ = some (.string ⟨#[]⟩) := cell_of_cells HR5.out
          have y8 : w5.frozen? ⟨w.heap.size, 8, none⟩ = false := free_of_cells HR5.out
          go_wp2
          refine bodyPost_ret (v := .tuple #[opV zV zV zV, .int .i64 2]) (by simp [results, Tryz.results205, go_sem, tri, r0, r1, r2, r3, r4, r5, r6, r7, r8]) rfl ⟨fun h => ?_, fun _ => ⟨rfl, _, _, H.out.on HW5.out⟩⟩
          · have := h 0 (by omega)
            rw [← EX.out, ← EK.out, hfit] at this
            cases this
      · have HB1 := hid (show wr.heap[w.heap.size + 1]? = some (.cells (nine (av.getD 0 zV) zV zV) 235 (0, 0)) from HB.out)
        have p0 : wr.cell? ⟨w.heap.size + 1, 3, none⟩ = some (.bool (tri zV).1) := cell_of_cells HB1.out
        have p1 : wr.cell? ⟨w.heap.size + 1, 4, none⟩ = some (.int .i64 (tri zV).2.1) := cell_of_cells HB1.out
        have p2 : wr.cell? ⟨w.heap.size + 1, 5, none⟩ = some (.string (tri zV).2.2) := cell_of_cells HB1.out
        have z0 : wr.frozen? ⟨w.heap.size + 1, 3, none⟩ = false := free_of_cells HB1.out
        have z1 : wr.frozen? ⟨w.heap.size + 1, 4, none⟩ = false := free_of_cells HB1.out
        have z2 : wr.frozen? ⟨w.heap.size + 1, 5, none⟩ = false := free_of_cells HB1.out
        have HB2 := hid (nine1 HB1.out x)
        have q0 : (((wr.setCell ⟨w.heap.size + 1, 3, none⟩ (.bool (tri x).1)).setCell ⟨w.heap.size + 1, 4, none⟩ (.int .i64 (tri x).2.1)).setCell ⟨w.heap.size + 1, 5, none⟩ (.string (tri x).2.2)).cell? ⟨w.heap.size + 1, 3, none⟩ = some (.bool (tri x).1) := cell_of_cells HB2.out
        have q1 : (((wr.setCell ⟨w.heap.size + 1, 3, none⟩ (.bool (tri x).1)).setCell ⟨w.heap.size + 1, 4, none⟩ (.int .i64 (tri x).2.1)).setCell ⟨w.heap.size + 1, 5, none⟩ (.string (tri x).2.2)).cell? ⟨w.heap.size + 1, 4, none⟩ = some (.int .i64 (tri x).2.1) := cell_of_cells HB2.out
        have q2 : (((wr.setCell ⟨w.heap.size + 1, 3, none⟩ (.bool (tri x).1)).setCell ⟨w.heap.size + 1, 4, none⟩ (.int .i64 (tri x).2.1)).setCell ⟨w.heap.size + 1, 5, none⟩ (.string (tri x).2.2)).cell? ⟨w.heap.size + 1, 5, none⟩ = some (.string (tri x).2.2) := cell_of_cells HB2.out
        have HW2 := hid (show Below w.heap.size w (((wr.setCell ⟨w.heap.size + 1, 3, none⟩ (.bool (tri x).1)).setCell ⟨w.heap.size + 1, 4, none⟩ (.int .i64 (tri x).2.1)).setCell ⟨w.heap.size + 1, 5, none⟩ (.string (tri x).2.2)) from below_set3 HW.out (by omega) _ _ _ _ _ _)
        have HR2 := hid (show (((wr.setCell ⟨w.heap.size + 1, 3, none⟩ (.bool (tri x).1)).setCell ⟨w.heap.size + 1, 4, none⟩ (.int .i64 (tri x).2.1)).setCell ⟨w.heap.size + 1, 5, none⟩ (.string (tri x).2.2)).heap[w.heap.size]? = _ from (set3_heap (by omega)).trans HR.out)
        try simp only [Nat.add_zero] at s0 s1 s2 ck
        go_wp2_with fail
        refine (fits_calls kk (tri x).1 (tri x).2.1 (tri x).2.2 _).mono ?_
        rintro e w5 ⟨rfl, hb5⟩
        have HW5 := hid (below_then HW2.out hb5 HW2.out.size)
        have HR5 := hid ((hb5.block _ (Array.getElem?_eq_some_iff.1 HR2.out).1).trans HR2.out)
        have HB5 := hid ((hb5.block _ (Array.getElem?_eq_some_iff.1 HB2.out).1).trans HB2.out)
        clear hb5 HW2 HR2 HB2 q0 q1 q2 p0 p1 p2 z0 z1 z2 s0 s1 s2 ck
        by_cases hfit : fitsT kk (tri x).1 = true
        · go_wp2
          go_roundw
          case rel => exact ⟨1 + 1, by omega, by go_num, HW5.out, HR5.out, by
            have e := HB5.out
            rw [EX.out] at e
            exact e, fits_more HF.out (by rw [← EX.out, ← EK.out]; exact hfit)⟩
          case measure => simp [Go.RowKit.intOf]; omega
        · have hfit : fitsT kk (tri x).1 = false := by simpa using hfit
          have i0 : w5.setCell ⟨w.heap.size, 0, none⟩ (.bool false) = w5 := set_kept HR5.out rfl
          have r0 : w5.cell? ⟨w.heap.size, 0, none⟩ = some (.bool false) := cell_of_cells HR5.out
          have y0 : w5.frozen? ⟨w.heap.size, 0, none⟩ = false := free_of_cells HR5.out
          have i1 : w5.setCell ⟨w.heap.size, 1, none⟩ (.int .i64 0) = w5 := set_kept HR5.out rfl
          have r1 : w5.cell? ⟨w.heap.size, 1, none⟩ = some (.int .i64 0) := cell_of_cells HR5.out
          have y1 : w5.frozen? ⟨w.heap.size, 1, none⟩ = false := free_of_cells HR5.out
          have i2 : w5.setCell ⟨w.heap.size, 2, none⟩ (.string ⟨#[]⟩) = w5 := set_kept HR5.out rfl
          have r2 : w5.cell? ⟨w.heap.size, 2, none⟩ = some (.string ⟨#[]⟩) := cell_of_cells HR5.out
          have y2 : w5.frozen? ⟨w.heap.size, 2, none⟩ = false := free_of_cells HR5.out
          have i3 : w5.setCell ⟨w.heap.size, 3, none⟩ (.bool false) = w5 := set_kept HR5.out rfl
          have r3 : w5.cell? ⟨w.heap.size, 3, none⟩ = some (.bool false) := cell_of_cells HR5.out
          have y3 : w5.frozen? ⟨w.heap.size, 3, none⟩ = false := free_of_cells HR5.out
          have i4 : w5.setCell ⟨w.heap.size, 4, none⟩ (.int .i64 0) = w5 := set_kept HR5.out rfl
          have r4 : w5.cell? ⟨w.heap.size, 4, none⟩ = some (.int .i64 0) := cell_of_cells HR5.out
          have y4 : w5.frozen? ⟨w.heap.size, 4, none⟩ = false := free_of_cells HR5.out
          have i5 : w5.setCell ⟨w.heap.size, 5, none⟩ (.string ⟨#[]⟩) = w5 := set_kept HR5.out rfl
          have r5 : w5.cell? ⟨w.heap.size, 5, none⟩ = some (.string ⟨#[]⟩) := cell_of_cells HR5.out
          have y5 : w5.frozen? ⟨w.heap.size, 5, none⟩ = false := free_of_cells HR5.out
          have i6 : w5.setCell ⟨w.heap.size, 6, none⟩ (.bool false) = w5 := set_kept HR5.out rfl
          have r6 : w5.cell? ⟨w.heap.size, 6, none⟩ = some (.bool false) := cell_of_cells HR5.out
          have y6 : w5.frozen? ⟨w.heap.size, 6, none⟩ = false := free_of_cells HR5.out
          have i7 : w5.setCell ⟨w.heap.size, 7, none⟩ (.int .i64 0) = w5 := set_kept HR5.out rfl
          have r7 : w5.cell? ⟨w.heap.size, 7, none⟩ = some (.int .i64 0) := cell_of_cells HR5.out
          have y7 : w5.frozen? ⟨w.heap.size, 7, none⟩ = false := free_of_cells HR5.out
          have i8 : w5.setCell ⟨w.heap.size, 8, none⟩ (.string ⟨#[]⟩) = w5 := set_kept HR5.out rfl
          have r8 : w5.cell? ⟨w.heap.size, 8, none⟩ = some (.string ⟨#[]⟩) := cell_of_cells HR5.out
          have y8 : w5.frozen? ⟨w.heap.size, 8, none⟩ = false := free_of_cells HR5.out
          go_wp2
          refine bodyPost_ret (v := .tuple #[opV zV zV zV, .int .i64 2]) (by simp [results, Tryz.results205, go_sem, tri, r0, r1, r2, r3, r4, r5, r6, r7, r8]) rfl ⟨fun h => ?_, fun _ => ⟨rfl, _, _, H.out.on HW5.out⟩⟩
          · have := h 1 (by omega)
            rw [← EX.out, ← EK.out, hfit] at this
            cases this
      · have HB1 := hid (show wr.heap[w.heap.size + 1]? = some (.cells (nine (av.getD 0 zV) (av.getD 1 zV) zV) 235 (0, 0)) from HB.out)
        have p0 : wr.cell? ⟨w.heap.size + 1, 6, none⟩ = some (.bool (tri zV).1) := cell_of_cells HB1.out
        have p1 : wr.cell? ⟨w.heap.size + 1, 7, none⟩ = some (.int .i64 (tri zV).2.1) := cell_of_cells HB1.out
        have p2 : wr.cell? ⟨w.heap.size + 1, 8, none⟩ = some (.string (tri zV).2.2) := cell_of_cells HB1.out
        have z0 : wr.frozen? ⟨w.heap.size + 1, 6, none⟩ = false := free_of_cells HB1.out
        have z1 : wr.frozen? ⟨w.heap.size + 1, 7, none⟩ = false := free_of_cells HB1.out
        have z2 : wr.frozen? ⟨w.heap.size + 1, 8, none⟩ = false := free_of_cells HB1.out
        have HB2 := hid (nine2 HB1.out x)
        have q0 : (((wr.setCell ⟨w.heap.size + 1, 6, none⟩ (.bool (tri x).1)).setCell ⟨w.heap.size + 1, 7, none⟩ (.int .i64 (tri x).2.1)).setCell ⟨w.heap.size + 1, 8, none⟩ (.string (tri x).2.2)).cell? ⟨w.heap.size + 1, 6, none⟩ = some (.bool (tri x).1) := cell_of_cells HB2.out
        have q1 : (((wr.setCell ⟨w.heap.size + 1, 6, none⟩ (.bool (tri x).1)).setCell ⟨w.heap.size + 1, 7, none⟩ (.int .i64 (tri x).2.1)).setCell ⟨w.heap.size + 1, 8, none⟩ (.string (tri x).2.2)).cell? ⟨w.heap.size + 1, 7, none⟩ = some (.int .i64 (tri x).2.1) := cell_of_cells HB2.out
        have q2 : (((wr.setCell ⟨w.heap.size + 1, 6, none⟩ (.bool (tri x).1)).setCell ⟨w.heap.size + 1, 7, none⟩ (.int .i64 (tri x).2.1)).setCell ⟨w.heap.size + 1, 8, none⟩ (.string (tri x).2.2)).cell? ⟨w.heap.size + 1, 8, none⟩ = some (.string (tri x).2.2) := cell_of_cells HB2.out
        have HW2 := hid (show Below w.heap.size w (((wr.setCell ⟨w.heap.size + 1, 6, none⟩ (.bool (tri x).1)).setCell ⟨w.heap.size + 1, 7, none⟩ (.int .i64 (tri x).2.1)).setCell ⟨w.heap.size + 1, 8, none⟩ (.string (tri x).2.2)) from below_set3 HW.out (by omega) _ _ _ _ _ _)
        have HR2 := hid (show (((wr.setCell ⟨w.heap.size + 1, 6, none⟩ (.bool (tri x).1)).setCell ⟨w.heap.size + 1, 7, none⟩ (.int .i64 (tri x).2.1)).setCell ⟨w.heap.size + 1, 8, none⟩ (.string (tri x).2.2)).heap[w.heap.size]? = _ from (set3_heap (by omega)).trans HR.out)
        try simp only [Nat.add_zero] at s0 s1 s2 ck
        go_wp2_with fail
        refine (fits_calls kk (tri x).1 (tri x).2.1 (tri x).2.2 _).mono ?_
        rintro e w5 ⟨rfl, hb5⟩
        have HW5 := hid (below_then HW2.out hb5 HW2.out.size)
        have HR5 := hid ((hb5.block _ (Array.getElem?_eq_some_iff.1 HR2.out).1).trans HR2.out)
        have HB5 := hid ((hb5.block _ (Array.getElem?_eq_some_iff.1 HB2.out).1).trans HB2.out)
        clear hb5 HW2 HR2 HB2 q0 q1 q2 p0 p1 p2 z0 z1 z2 s0 s1 s2 ck
        by_cases hfit : fitsT kk (tri x).1 = true
        · go_wp2
          go_roundw
          case rel => exact ⟨2 + 1, by omega, by go_num, HW5.out, HR5.out, by
            have e := HB5.out
            rw [EX.out] at e
            exact e, fits_more HF.out (by rw [← EX.out, ← EK.out]; exact hfit)⟩
          case measure => simp [Go.RowKit.intOf]; omega
        · have hfit : fitsT kk (tri x).1 = false := by simpa using hfit
          have i0 : w5.setCell ⟨w.heap.size, 0, none⟩ (.bool false) = w5 := set_kept HR5.out rfl
          have r0 : w5.cell? ⟨w.heap.size, 0, none⟩ = some (.bool false) := cell_of_cells HR5.out
          have y0 : w5.frozen? ⟨w.heap.size, 0, none⟩ = false := free_of_cells HR5.out
          have i1 : w5.setCell ⟨w.heap.size, 1, none⟩ (.int .i64 0) = w5 := set_kept HR5.out rfl
          have r1 : w5.cell? ⟨w.heap.size, 1, none⟩ = some (.int .i64 0) := cell_of_cells HR5.out
          have y1 : w5.frozen? ⟨w.heap.size, 1, none⟩ = false := free_of_cells HR5.out
          have i2 : w5.setCell ⟨w.heap.size, 2, none⟩ (.string ⟨#[]⟩) = w5 := set_kept HR5.out rfl
          have r2 : w5.cell? ⟨w.heap.size, 2, none⟩ = some (.string ⟨#[]⟩) := cell_of_cells HR5.out
          have y2 : w5.frozen? ⟨w.heap.size, 2, none⟩ = false := free_of_cells HR5.out
          have i3 : w5.setCell ⟨w.heap.size, 3, none⟩ (.bool false) = w5 := set_kept HR5.out rfl
          have r3 : w5.cell? ⟨w.heap.size, 3, none⟩ = some (.bool false) := cell_of_cells HR5.out
          have y3 : w5.frozen? ⟨w.heap.size, 3, none⟩ = false := free_of_cells HR5.out
          have i4 : w5.setCell ⟨w.heap.size, 4, none⟩ (.int .i64 0) = w5 := set_kept HR5.out rfl
          have r4 : w5.cell? ⟨w.heap.size, 4, none⟩ = some (.int .i64 0) := cell_of_cells HR5.out
          have y4 : w5.frozen? ⟨w.heap.size, 4, none⟩ = false := free_of_cells HR5.out
          have i5 : w5.setCell ⟨w.heap.size, 5, none⟩ (.string ⟨#[]⟩) = w5 := set_kept HR5.out rfl
          have r5 : w5.cell? ⟨w.heap.size, 5, none⟩ = some (.string ⟨#[]⟩) := cell_of_cells HR5.out
          have y5 : w5.frozen? ⟨w.heap.size, 5, none⟩ = false := free_of_cells HR5.out
          have i6 : w5.setCell ⟨w.heap.size, 6, none⟩ (.bool false) = w5 := set_kept HR5.out rfl
          have r6 : w5.cell? ⟨w.heap.size, 6, none⟩ = some (.bool false) := cell_of_cells HR5.out
          have y6 : w5.frozen? ⟨w.heap.size, 6, none⟩ = false := free_of_cells HR5.out
          have i7 : w5.setCell ⟨w.heap.size, 7, none⟩ (.int .i64 0) = w5 := set_kept HR5.out rfl
          have r7 : w5.cell? ⟨w.heap.size, 7, none⟩ = some (.int .i64 0) := cell_of_cells HR5.out
          have y7 : w5.frozen? ⟨w.heap.size, 7, none⟩ = false := free_of_cells HR5.out
          have i8 : w5.setCell ⟨w.heap.size, 8, none⟩ (.string ⟨#[]⟩) = w5 := set_kept HR5.out rfl
          have r8 : w5.cell? ⟨w.heap.size, 8, none⟩ = some (.string ⟨#[]⟩) := cell_of_cells HR5.out
          have y8 : w5.frozen? ⟨w.heap.size, 8, none⟩ = false := free_of_cells HR5.out
          go_wp2
          refine bodyPost_ret (v := .tuple #[opV zV zV zV, .int .i64 2]) (by simp [results, Tryz.results205, go_sem, tri, r0, r1, r2, r3, r4, r5, r6, r7, r8]) rfl ⟨fun h => ?_, fun _ => ⟨rfl, _, _, H.out.on HW5.out⟩⟩
          · have := h 2 (by omega)
            rw [← EX.out, ← EK.out, hfit] at this
            cases this
    · obtain rfl : k = ks.length := by omega
      have hd4 : decide ((ks.length : Int) < (ks.length : Int)) = false := by simp
      obtain ⟨a0, e0⟩ : ∃ x, sel av ks.length 0 = x := ⟨_, rfl⟩
      obtain ⟨a1, e1⟩ : ∃ x, sel av ks.length 1 = x := ⟨_, rfl⟩
      obtain ⟨a2, e2⟩ : ∃ x, sel av ks.length 2 = x := ⟨_, rfl⟩
      rw [e0, e1, e2] at HB
      have HE := hid (And.intro e0 (And.intro e1 e2))
      clear e0 e1 e2
      have HR2 := hid (show (wr.setCell ⟨E.b, 4, none⟩ (.slice (some ⟨g, off, none⟩) s.length vs2)).heap[w.heap.size]? = some (.cells #[.bool false, .int .i64 0, .string ⟨#[]⟩, .bool false, .int .i64 0, .string ⟨#[]⟩, .bool false, .int .i64 0, .string ⟨#[]⟩] 235 (0, 0)) from (Below.heap_setCell _ _ _ _ (by simp only; omega)).trans HR.out)
      have HB2 := hid (show (wr.setCell ⟨E.b, 4, none⟩ (.slice (some ⟨g, off, none⟩) s.length vs2)).heap[w.heap.size + 1]? = some (.cells (nine a0 a1 a2) 235 (0, 0)) from (Below.heap_setCell _ _ _ _ (by simp only; omega)).trans HB.out)
      have HW2 := hid (show Below w.heap.size (w.setCell ⟨E.b, 4, none⟩ (.slice (some ⟨g, off, none⟩) s.length vs2)) (wr.setCell ⟨E.b, 4, none⟩ (.slice (some ⟨g, off, none⟩) s.length vs2)) from below_both HW.out hbl)
      have hinf : (Tryz.prog.info? 235).map (·.size) = some (nine a0 a1 a2).size := by kernel_rfl
      go_wp2_with (first | refine wpList_load_row rfl 235 _ rfl (w.heap.size + 1) rfl 235 (nine a0 a1 a2) (0, 0) _ HB2.out Tryz.underlying235 rfl hinf ?_ | refine wpList_store_row rfl 235 _ _ rfl w.heap.size (nine a0 a1 a2) rfl rfl 235 _ HR2.out hinf rfl (nine_one a0 a1 a2) ?_)
      have hR := setRow_heap _ _ _ (nine a0 a1 a2) _ _ HR2.out
      have t0 : ((wr.setCell ⟨E.b, 4, none⟩ (.slice (some ⟨g, off, none⟩) s.length vs2)).setRow w.heap.size (nine a0 a1 a2)).cell? ⟨w.heap.size, 0, none⟩ = some (.bool (tri a0).1) := cell_of_cells hR
      have t1 : ((wr.setCell ⟨E.b, 4, none⟩ (.slice (some ⟨g, off, none⟩) s.length vs2)).setRow w.heap.size (nine a0 a1 a2)).cell? ⟨w.heap.size, 1, none⟩ = some (.int .i64 (tri a0).2.1) := cell_of_cells hR
      have t2 : ((wr.setCell ⟨E.b, 4, none⟩ (.slice (some ⟨g, off, none⟩) s.length vs2)).setRow w.heap.size (nine a0 a1 a2)).cell? ⟨w.heap.size, 2, none⟩ = some (.string (tri a0).2.2) := cell_of_cells hR
      have t3 : ((wr.setCell ⟨E.b, 4, none⟩ (.slice (some ⟨g, off, none⟩) s.length vs2)).setRow w.heap.size (nine a0 a1 a2)).cell? ⟨w.heap.size, 3, none⟩ = some (.bool (tri a1).1) := cell_of_cells hR
      have t4 : ((wr.setCell ⟨E.b, 4, none⟩ (.slice (some ⟨g, off, none⟩) s.length vs2)).setRow w.heap.size (nine a0 a1 a2)).cell? ⟨w.heap.size, 4, none⟩ = some (.int .i64 (tri a1).2.1) := cell_of_cells hR
      have t5 : ((wr.setCell ⟨E.b, 4, none⟩ (.slice (some ⟨g, off, none⟩) s.length vs2)).setRow w.heap.size (nine a0 a1 a2)).cell? ⟨w.heap.size, 5, none⟩ = some (.string (tri a1).2.2) := cell_of_cells hR
      have t6 : ((wr.setCell ⟨E.b, 4, none⟩ (.slice (some ⟨g, off, none⟩) s.length vs2)).setRow w.heap.size (nine a0 a1 a2)).cell? ⟨w.heap.size, 6, none⟩ = some (.bool (tri a2).1) := cell_of_cells hR
      have t7 : ((wr.setCell ⟨E.b, 4, none⟩ (.slice (some ⟨g, off, none⟩) s.length vs2)).setRow w.heap.size (nine a0 a1 a2)).cell? ⟨w.heap.size, 7, none⟩ = some (.int .i64 (tri a2).2.1) := cell_of_cells hR
      have t8 : ((wr.setCell ⟨E.b, 4, none⟩ (.slice (some ⟨g, off, none⟩) s.length vs2)).setRow w.heap.size (nine a0 a1 a2)).cell? ⟨w.heap.size, 8, none⟩ = some (.string (tri a2).2.2) := cell_of_cells hR
      refine bodyPost_ret (v := .tuple #[opV a0 a1 a2, .int .i64 0]) (by simp [results, Tryz.results205, go_sem, t0, t1, t2, t3, t4, t5, t6, t7, t8]) rfl ⟨fun _ => ⟨by rw [HE.out.1, HE.out.2.1, HE.out.2.2], _, _, HO.out.on (by rw [show (w.setCell ⟨E.b, 4, none⟩ (.slice (some ⟨g, off, none⟩) s.length vs2)).heap.size = w.heap.size by simp [World.setCell]]; exact below_row HW2.out (Nat.le_refl _) _)⟩, fun h => ?_⟩
      obtain ⟨k, hk, h⟩ := h
      rw [HF.out k hk] at h
      cases h
end Go.Proofs.YtfimoobgbodbmaaGreatDoor
/-! What instructions make of the values that they take off (chapter 6): sum, difference, product, less, equal, joined, length, byteAt, piece, digits, numeral. -/
namespace Go.Proofs.YtfimoobgbodbmaaGreatDoor
open Go.RowKit Go.Lib
set_option linter.unusedVariables false
set_option maxRecDepth 100000

theorem res_block {w w2 : World} {o : Obj} {cs : Array Value} (hb : Below ((w.alloc o).alloc (.cells cs 151)).heap.size ((w.alloc o).alloc (.cells cs 151)) w2) : Below w.heap.size w w2 ∧ w2.heap[w.heap.size + 1]? = some (.cells cs 151 (0, 0)) := by
  refine ⟨below_then (below_then (alloc1 w o) (alloc1 _ _) (by simp)) hb (by simp; omega), ?_⟩
  rw [hb.block _ (by simp)]
  have := new_block (w.alloc o) (.cells cs 151)
  rw [show (w.alloc o).heap.size = w.heap.size + 1 by simp] at this
  exact this

theorem truth_calls (b : Bool) (w : World) : Calls Tryz.prog 207 #[.bool b] w fun e w' => e = .returned (triV (flag b)) ∧ Below w.heap.size w w' := by
  cases b
  · go_enter Tryz.func207, Tryz.ntmps207
    go_wp2_with fail
    refine (int_calls 0 _).mono ?_
    rintro e w2 ⟨rfl, hb⟩
    have k2 : Below w.heap.size w w2 := below_then (alloc1 w _) hb (by simp)
    have hblk : w2.heap[w.heap.size]? = some (.cells #[.bool false, .int .i64 0, .string ⟨#[]⟩] 151 (0, 0)) := (hb.block _ (by simp)).trans (new_block _ _)
    clear hb
    have c0 : w2.cell? ⟨w.heap.size, 0, none⟩ = some (.bool false) := by rw [cell_of_cells hblk]; rfl
    have c1 : w2.cell? ⟨w.heap.size, 1, none⟩ = some (.int .i64 0) := by rw [cell_of_cells hblk]; rfl
    have c2 : w2.cell? ⟨w.heap.size, 2, none⟩ = some (.string ⟨#[]⟩) := by rw [cell_of_cells hblk]; rfl
    have f0 : w2.frozen? ⟨w.heap.size, 0, none⟩ = false := free_of_cells hblk
    have f1 : w2.frozen? ⟨w.heap.size, 1, none⟩ = false := free_of_cells hblk
    have f2 : w2.frozen? ⟨w.heap.size, 2, none⟩ = false := free_of_cells hblk
    have KB := hid (fun x y z => below_set3 (G := w.heap.size) k2 (Nat.le_refl _) 0 1 2 x y z)
    clear k2 hblk
    go_wp2
    refine bodyPost_ret (v := .agg #[.bool false, .int .i64 0, .string ⟨#[]⟩]) (by simp [results, Tryz.results207, go_sem, c0, c1, c2]) rfl ⟨rfl, KB.out _ _ _⟩
  · go_enter Tryz.func207, Tryz.ntmps207
    go_wp2_with fail
    refine (int_calls 1 _).mono ?_
    rintro e w2 ⟨rfl, hb⟩
    have k2 : Below w.heap.size w w2 := below_then (alloc1 w _) hb (by simp)
    have hblk : w2.heap[w.heap.size]? = some (.cells #[.bool false, .int .i64 0, .string ⟨#[]⟩] 151 (0, 0)) := (hb.block _ (by simp)).trans (new_block _ _)
    clear hb
    have c0 : w2.cell? ⟨w.heap.size, 0, none⟩ = some (.bool false) := by rw [cell_of_cells hblk]; rfl
    have c1 : w2.cell? ⟨w.heap.size, 1, none⟩ = some (.int .i64 0) := by rw [cell_of_cells hblk]; rfl
    have c2 : w2.cell? ⟨w.heap.size, 2, none⟩ = some (.string ⟨#[]⟩) := by rw [cell_of_cells hblk]; rfl
    have f0 : w2.frozen? ⟨w.heap.size, 0, none⟩ = false := free_of_cells hblk
    have f1 : w2.frozen? ⟨w.heap.size, 1, none⟩ = false := free_of_cells hblk
    have f2 : w2.frozen? ⟨w.heap.size, 2, none⟩ = false := free_of_cells hblk
    have KB := hid (fun x y z => below_set3 (G := w.heap.size) k2 (Nat.le_refl _) 0 1 2 x y z)
    clear k2 hblk
    go_wp2
    refine bodyPost_ret (v := .agg #[.bool false, .int .i64 1, .string ⟨#[]⟩]) (by simp [results, Tryz.results207, go_sem, c0, c1, c2]) rfl ⟨rfl, KB.out _ _ _⟩
theorem truth1_calls (w : World) : Calls Tryz.prog 207 #[.bool true] w fun e w' => e = .returned (.agg #[.bool false, .int .i64 1, .string ⟨#[]⟩]) ∧ Below w.heap.size w w' := truth_calls true w
theorem truth0_calls (w : World) : Calls Tryz.prog 207 #[.bool false] w fun e w' => e = .returned (.agg #[.bool false, .int .i64 0, .string ⟨#[]⟩]) ∧ Below w.heap.size w w' := truth_calls false w

section
variable (t0 t1 t2 : Bool) (n0 n1 n2 : Int) (s0 s1 s2 : ByteArray) (w : World)
theorem sum_calls : Calls Tryz.prog 173 #[.agg #[.bool t0, .int .i64 n0, .string s0, .bool t1, .int .i64 n1, .string s1, .bool t2, .int .i64 n2, .string s2]] w fun e w' => e = .returned (.agg #[.bool false, .int .i64 (wrap64 (n0 + n1)), .string ⟨#[]⟩]) ∧ Below w.heap.size w w' := by
  · go_enter Tryz.func173, Tryz.ntmps173
    go_wp2_with fail
    refine (int_calls _ _).mono ?_
    rintro e w2 ⟨rfl, hb⟩
    obtain ⟨k2, hblk⟩ := res_block hb
    clear hb
    have c0 : w2.cell? ⟨w.heap.size + 1, 0, none⟩ = some (.bool false) := by rw [cell_of_cells hblk]; rfl
    have c1 : w2.cell? ⟨w.heap.size + 1, 1, none⟩ = some (.int .i64 0) := by rw [cell_of_cells hblk]; rfl
    have c2 : w2.cell? ⟨w.heap.size + 1, 2, none⟩ = some (.string ⟨#[]⟩) := by rw [cell_of_cells hblk]; rfl
    have f0 : w2.frozen? ⟨w.heap.size + 1, 0, none⟩ = false := free_of_cells hblk
    have f1 : w2.frozen? ⟨w.heap.size + 1, 1, none⟩ = false := free_of_cells hblk
    have f2 : w2.frozen? ⟨w.heap.size + 1, 2, none⟩ = false := free_of_cells hblk
    have KB := hid (fun x y z => below_set3 (G := w.heap.size + 1) k2 (Nat.le_succ _) 0 1 2 x y z)
    clear k2 hblk
    go_wp2
    refine bodyPost_ret (v := .agg #[.bool false, .int .i64 (wrap64 (n0 + n1)), .string ⟨#[]⟩]) (by simp [results, Tryz.results173, go_sem, c0, c1, c2]) rfl ⟨rfl, KB.out _ _ _⟩
theorem dif_calls : Calls Tryz.prog 174 #[.agg #[.bool t0, .int .i64 n0, .string s0, .bool t1, .int .i64 n1, .string s1, .bool t2, .int .i64 n2, .string s2]] w fun e w' => e = .returned (.agg #[.bool false, .int .i64 (wrap64 (n0 - n1)), .string ⟨#[]⟩]) ∧ Below w.heap.size w w' := by
  · go_enter Tryz.func174, Tryz.ntmps174
    go_wp2_with fail
    refine (int_calls _ _).mono ?_
    rintro e w2 ⟨rfl, hb⟩
    obtain ⟨k2, hblk⟩ := res_block hb
    clear hb
    have c0 : w2.cell? ⟨w.heap.size + 1, 0, none⟩ = some (.bool false) := by rw [cell_of_cells hblk]; rfl
    have c1 : w2.cell? ⟨w.heap.size + 1, 1, none⟩ = some (.int .i64 0) := by rw [cell_of_cells hblk]; rfl
    have c2 : w2.cell? ⟨w.heap.size + 1, 2, none⟩ = some (.string ⟨#[]⟩) := by rw [cell_of_cells hblk]; rfl
    have f0 : w2.frozen? ⟨w.heap.size + 1, 0, none⟩ = false := free_of_cells hblk
    have f1 : w2.frozen? ⟨w.heap.size + 1, 1, none⟩ = false := free_of_cells hblk
    have f2 : w2.frozen? ⟨w.heap.size + 1, 2, none⟩ = false := free_of_cells hblk
    have KB := hid (fun x y z => below_set3 (G := w.heap.size + 1) k2 (Nat.le_succ _) 0 1 2 x y z)
    clear k2 hblk
    go_wp2
    refine bodyPost_ret (v := .agg #[.bool false, .int .i64 (wrap64 (n0 - n1)), .string ⟨#[]⟩]) (by simp [results, Tryz.results174, go_sem, c0, c1, c2]) rfl ⟨rfl, KB.out _ _ _⟩
theorem prod_calls : Calls Tryz.prog 175 #[.agg #[.bool t0, .int .i64 n0, .string s0, .bool t1, .int .i64 n1, .string s1, .bool t2, .int .i64 n2, .string s2]] w fun e w' => e = .returned (.agg #[.bool false, .int .i64 (wrap64 (n0 * n1)), .string ⟨#[]⟩]) ∧ Below w.heap.size w w' := by
  · go_enter Tryz.func175, Tryz.ntmps175
    go_wp2_with fail
    refine (int_calls _ _).mono ?_
    rintro e w2 ⟨rfl, hb⟩
    obtain ⟨k2, hblk⟩ := res_block hb
    clear hb
    have c0 : w2.cell? ⟨w.heap.size + 1, 0, none⟩ = some (.bool false) := by rw [cell_of_cells hblk]; rfl
    have c1 : w2.cell? ⟨w.heap.size + 1, 1, none⟩ = some (.int .i64 0) := by rw [cell_of_cells hblk]; rfl
    have c2 : w2.cell? ⟨w.heap.size + 1, 2, none⟩ = some (.string ⟨#[]⟩) := by rw [cell_of_cells hblk]; rfl
    have f0 : w2.frozen? ⟨w.heap.size + 1, 0, none⟩ = false := free_of_cells hblk
    have f1 : w2.frozen? ⟨w.heap.size + 1, 1, none⟩ = false := free_of_cells hblk
    have f2 : w2.frozen? ⟨w.heap.size + 1, 2, none⟩ = false := free_of_cells hblk
    have KB := hid (fun x y z => below_set3 (G := w.heap.size + 1) k2 (Nat.le_succ _) 0 1 2 x y z)
    clear k2 hblk
    go_wp2
    refine bodyPost_ret (v := .agg #[.bool false, .int .i64 (wrap64 (n0 * n1)), .string ⟨#[]⟩]) (by simp [results, Tryz.results175, go_sem, c0, c1, c2]) rfl ⟨rfl, KB.out _ _ _⟩
theorem less1_calls (hd : decide (n0 < n1) = true) : Calls Tryz.prog 176 #[.agg #[.bool t0, .int .i64 n0, .string s0, .bool t1, .int .i64 n1, .string s1, .bool t2, .int .i64 n2, .string s2]] w fun e w' => e = .returned (.agg #[.bool false, .int .i64 (1), .string ⟨#[]⟩]) ∧ Below w.heap.size w w' := by
  · go_enter Tryz.func176, Tryz.ntmps176
    go_wp2_with fail
    refine (truth1_calls _).mono ?_
    rintro e w2 ⟨rfl, hb⟩
    obtain ⟨k2, hblk⟩ := res_block hb
    clear hb
    have c0 : w2.cell? ⟨w.heap.size + 1, 0, none⟩ = some (.bool false) := by rw [cell_of_cells hblk]; rfl
    have c1 : w2.cell? ⟨w.heap.size + 1, 1, none⟩ = some (.int .i64 0) := by rw [cell_of_cells hblk]; rfl
    have c2 : w2.cell? ⟨w.heap.size + 1, 2, none⟩ = some (.string ⟨#[]⟩) := by rw [cell_of_cells hblk]; rfl
    have f0 : w2.frozen? ⟨w.heap.size + 1, 0, none⟩ = false := free_of_cells hblk
    have f1 : w2.frozen? ⟨w.heap.size + 1, 1, none⟩ = false := free_of_cells hblk
    have f2 : w2.frozen? ⟨w.heap.size + 1, 2, none⟩ = false := free_of_cells hblk
    have KB := hid (fun x y z => below_set3 (G := w.heap.size + 1) k2 (Nat.le_succ _) 0 1 2 x y z)
    clear k2 hblk
    go_wp2
    refine bodyPost_ret (v := .agg #[.bool false, .int .i64 1, .string ⟨#[]⟩]) (by simp [results, Tryz.results176, go_sem, c0, c1, c2]) rfl ⟨rfl, KB.out _ _ _⟩
theorem less0_calls (hd : decide (n0 < n1) = false) : Calls Tryz.prog 176 #[.agg #[.bool t0, .int .i64 n0, .string s0, .bool t1, .int .i64 n1, .string s1, .bool t2, .int .i64 n2, .string s2]] w fun e w' => e = .returned (.agg #[.bool false, .int .i64 (0), .string ⟨#[]⟩]) ∧ Below w.heap.size w w' := by
  · go_enter Tryz.func176, Tryz.ntmps176
    go_wp2_with fail
    refine (truth0_calls _).mono ?_
    rintro e w2 ⟨rfl, hb⟩
    obtain ⟨k2, hblk⟩ := res_block hb
    clear hb
    have c0 : w2.cell? ⟨w.heap.size + 1, 0, none⟩ = some (.bool false) := by rw [cell_of_cells hblk]; rfl
    have c1 : w2.cell? ⟨w.heap.size + 1, 1, none⟩ = some (.int .i64 0) := by rw [cell_of_cells hblk]; rfl
    have c2 : w2.cell? ⟨w.heap.size + 1, 2, none⟩ = some (.string ⟨#[]⟩) := by rw [cell_of_cells hblk]; rfl
    have f0 : w2.frozen? ⟨w.heap.size + 1, 0, none⟩ = false := free_of_cells hblk
    have f1 : w2.frozen? ⟨w.heap.size + 1, 1, none⟩ = false := free_of_cells hblk
    have f2 : w2.frozen? ⟨w.heap.size + 1, 2, none⟩ = false := free_of_cells hblk
    have KB := hid (fun x y z => below_set3 (G := w.heap.size + 1) k2 (Nat.le_succ _) 0 1 2 x y z)
    clear k2 hblk
    go_wp2
    refine bodyPost_ret (v := .agg #[.bool false, .int .i64 0, .string ⟨#[]⟩]) (by simp [results, Tryz.results176, go_sem, c0, c1, c2]) rfl ⟨rfl, KB.out _ _ _⟩
theorem joined_calls (h0 : s0.size ≤ 64) (h1 : s1.size ≤ 64) : Calls Tryz.prog 178 #[.agg #[.bool t0, .int .i64 n0, .string s0, .bool t1, .int .i64 n1, .string s1, .bool t2, .int .i64 n2, .string s2]] w fun e w' => e = .returned (.agg #[.bool true, .int .i64 0, .string (s0 ++ s1)]) ∧ Below w.heap.size w w' := by
  · have hcat : ¬ 9223372036854775807 < s0.size + s1.size := by omega
    go_enter Tryz.func178, Tryz.ntmps178
    go_wp2_with fail
    refine (bytes_calls _ _).mono ?_
    rintro e w2 ⟨rfl, hb⟩
    obtain ⟨k2, hblk⟩ := res_block hb
    clear hb
    have c0 : w2.cell? ⟨w.heap.size + 1, 0, none⟩ = some (.bool false) := by rw [cell_of_cells hblk]; rfl
    have c1 : w2.cell? ⟨w.heap.size + 1, 1, none⟩ = some (.int .i64 0) := by rw [cell_of_cells hblk]; rfl
    have c2 : w2.cell? ⟨w.heap.size + 1, 2, none⟩ = some (.string ⟨#[]⟩) := by rw [cell_of_cells hblk]; rfl
    have f0 : w2.frozen? ⟨w.heap.size + 1, 0, none⟩ = false := free_of_cells hblk
    have f1 : w2.frozen? ⟨w.heap.size + 1, 1, none⟩ = false := free_of_cells hblk
    have f2 : w2.frozen? ⟨w.heap.size + 1, 2, none⟩ = false := free_of_cells hblk
    have KB := hid (fun x y z => below_set3 (G := w.heap.size + 1) k2 (Nat.le_succ _) 0 1 2 x y z)
    clear k2 hblk
    go_wp2
    refine bodyPost_ret (v := .agg #[.bool true, .int .i64 0, .string (s0 ++ s1)]) (by simp [results, Tryz.results178, go_sem, c0, c1, c2]) rfl ⟨rfl, KB.out _ _ _⟩
theorem length_calls (h0 : s0.size ≤ 64) : Calls Tryz.prog 179 #[.agg #[.bool t0, .int .i64 n0, .string s0, .bool t1, .int .i64 n1, .string s1, .bool t2, .int .i64 n2, .string s2]] w fun e w' => e = .returned (.agg #[.bool false, .int .i64 ((s0.size : Int)), .string ⟨#[]⟩]) ∧ Below w.heap.size w w' := by
  · have hw : IntKind.i64.wrap (s0.size : Int) = (s0.size : Int) := by rw [IntKind.wrap_i64]; omega
    go_enter Tryz.func179, Tryz.ntmps179
    go_wp2_with fail
    refine (int_calls _ _).mono ?_
    rintro e w2 ⟨rfl, hb⟩
    obtain ⟨k2, hblk⟩ := res_block hb
    clear hb
    have c0 : w2.cell? ⟨w.heap.size + 1, 0, none⟩ = some (.bool false) := by rw [cell_of_cells hblk]; rfl
    have c1 : w2.cell? ⟨w.heap.size + 1, 1, none⟩ = some (.int .i64 0) := by rw [cell_of_cells hblk]; rfl
    have c2 : w2.cell? ⟨w.heap.size + 1, 2, none⟩ = some (.string ⟨#[]⟩) := by rw [cell_of_cells hblk]; rfl
    have f0 : w2.frozen? ⟨w.heap.size + 1, 0, none⟩ = false := free_of_cells hblk
    have f1 : w2.frozen? ⟨w.heap.size + 1, 1, none⟩ = false := free_of_cells hblk
    have f2 : w2.frozen? ⟨w.heap.size + 1, 2, none⟩ = false := free_of_cells hblk
    have KB := hid (fun x y z => below_set3 (G := w.heap.size + 1) k2 (Nat.le_succ _) 0 1 2 x y z)
    clear k2 hblk
    go_wp2
    refine bodyPost_ret (v := .agg #[.bool false, .int .i64 (s0.size : Int), .string ⟨#[]⟩]) (by simp [results, Tryz.results179, go_sem, c0, c1, c2]) rfl ⟨rfl, KB.out _ _ _⟩
theorem byteAt_calls (h0 : s0.size ≤ 64) : Calls Tryz.prog 180 #[.agg #[.bool t0, .int .i64 n0, .string s0, .bool t1, .int .i64 n1, .string s1, .bool t2, .int .i64 n2, .string s2]] w fun e w' => e = .returned (.agg #[.bool false, .int .i64 (atOf s0 n1), .string ⟨#[]⟩]) ∧ Below w.heap.size w w' := by
  · go_enter Tryz.func180, Tryz.ntmps180
    go_wp2_with fail
    refine (value_At_calls s0 n1 (by omega) _).mono ?_
    rintro e w1 ⟨rfl, rfl⟩
    go_wp2_with fail
    refine (int_calls _ _).mono ?_
    rintro e w2 ⟨rfl, hb⟩
    obtain ⟨k2, hblk⟩ := res_block hb
    clear hb
    have c0 : w2.cell? ⟨w.heap.size + 1, 0, none⟩ = some (.bool false) := by rw [cell_of_cells hblk]; rfl
    have c1 : w2.cell? ⟨w.heap.size + 1, 1, none⟩ = some (.int .i64 0) := by rw [cell_of_cells hblk]; rfl
    have c2 : w2.cell? ⟨w.heap.size + 1, 2, none⟩ = some (.string ⟨#[]⟩) := by rw [cell_of_cells hblk]; rfl
    have f0 : w2.frozen? ⟨w.heap.size + 1, 0, none⟩ = false := free_of_cells hblk
    have f1 : w2.frozen? ⟨w.heap.size + 1, 1, none⟩ = false := free_of_cells hblk
    have f2 : w2.frozen? ⟨w.heap.size + 1, 2, none⟩ = false := free_of_cells hblk
    have KB := hid (fun x y z => below_set3 (G := w.heap.size + 1) k2 (Nat.le_succ _) 0 1 2 x y z)
    clear k2 hblk
    go_wp2
    refine bodyPost_ret (v := .agg #[.bool false, .int .i64 (atOf s0 n1), .string ⟨#[]⟩]) (by simp [results, Tryz.results180, go_sem, c0, c1, c2]) rfl ⟨rfl, KB.out _ _ _⟩
theorem piece_calls (h0 : s0.size ≤ 64) : Calls Tryz.prog 181 #[.agg #[.bool t0, .int .i64 n0, .string s0, .bool t1, .int .i64 n1, .string s1, .bool t2, .int .i64 n2, .string s2]] w fun e w' => e = .returned (.agg #[.bool true, .int .i64 0, .string (tx (cutL s0.data.toList n1 n2))]) ∧ Below w.heap.size w w' := by
  · go_enter Tryz.func181, Tryz.ntmps181
    go_wp2_with fail
    refine (value_Cut_calls s0 n1 n2 (by omega) _).mono ?_
    rintro e w1 ⟨rfl, rfl⟩
    go_wp2_with fail
    refine (bytes_calls _ _).mono ?_
    rintro e w2 ⟨rfl, hb⟩
    obtain ⟨k2, hblk⟩ := res_block hb
    clear hb
    have c0 : w2.cell? ⟨w.heap.size + 1, 0, none⟩ = some (.bool false) := by rw [cell_of_cells hblk]; rfl
    have c1 : w2.cell? ⟨w.heap.size + 1, 1, none⟩ = some (.int .i64 0) := by rw [cell_of_cells hblk]; rfl
    have c2 : w2.cell? ⟨w.heap.size + 1, 2, none⟩ = some (.string ⟨#[]⟩) := by rw [cell_of_cells hblk]; rfl
    have f0 : w2.frozen? ⟨w.heap.size + 1, 0, none⟩ = false := free_of_cells hblk
    have f1 : w2.frozen? ⟨w.heap.size + 1, 1, none⟩ = false := free_of_cells hblk
    have f2 : w2.frozen? ⟨w.heap.size + 1, 2, none⟩ = false := free_of_cells hblk
    have KB := hid (fun x y z => below_set3 (G := w.heap.size + 1) k2 (Nat.le_succ _) 0 1 2 x y z)
    clear k2 hblk
    go_wp2
    refine bodyPost_ret (v := .agg #[.bool true, .int .i64 0, .string (tx (cutL s0.data.toList n1 n2))]) (by simp [results, Tryz.results181, go_sem, c0, c1, c2]) rfl ⟨rfl, KB.out _ _ _⟩
theorem digitsV_calls (T : Tabs w) (h0 : I64 n0) : Calls Tryz.prog 182 #[.agg #[.bool t0, .int .i64 n0, .string s0, .bool t1, .int .i64 n1, .string s1, .bool t2, .int .i64 n2, .string s2]] w fun e w' => e = .returned (.agg #[.bool true, .int .i64 0, .string (tx (itoa n0))]) ∧ Below w.heap.size w w' := by
  · have TB := hid T
    have H0 := hid h0
    clear T h0
    go_enter Tryz.func182, Tryz.ntmps182
    go_wp2_with fail
    refine (digits_calls n0 H0.out _ (by first | exact TB.out.on (below_then (alloc1 w _) (alloc1 _ _) (by simp)))).mono ?_
    rintro e w1 ⟨rfl, hb1⟩
    obtain ⟨k1, hblk1⟩ := res_block hb1
    have K1 := hid k1
    have HB1 := hid hblk1
    clear hb1 k1 hblk1
    go_wp2_with fail
    refine (bytes_calls _ _).mono ?_
    rintro e w2 ⟨rfl, hb⟩
    have k2 := below_then K1.out hb K1.out.size
    have hblk := (hb.block _ (Array.getElem?_eq_some_iff.1 HB1.out).1).trans HB1.out
    clear hb
    have c0 : w2.cell? ⟨w.heap.size + 1, 0, none⟩ = some (.bool false) := by rw [cell_of_cells hblk]; rfl
    have c1 : w2.cell? ⟨w.heap.size + 1, 1, none⟩ = some (.int .i64 0) := by rw [cell_of_cells hblk]; rfl
    have c2 : w2.cell? ⟨w.heap.size + 1, 2, none⟩ = some (.string ⟨#[]⟩) := by rw [cell_of_cells hblk]; rfl
    have f0 : w2.frozen? ⟨w.heap.size + 1, 0, none⟩ = false := free_of_cells hblk
    have f1 : w2.frozen? ⟨w.heap.size + 1, 1, none⟩ = false := free_of_cells hblk
    have f2 : w2.frozen? ⟨w.heap.size + 1, 2, none⟩ = false := free_of_cells hblk
    have KB := hid (fun x y z => below_set3 (G := w.heap.size + 1) k2 (Nat.le_succ _) 0 1 2 x y z)
    clear k2 hblk
    go_wp2
    refine bodyPost_ret (v := .agg #[.bool true, .int .i64 0, .string (tx (itoa n0))]) (by simp [results, Tryz.results182, go_sem, c0, c1, c2]) rfl ⟨rfl, KB.out _ _ _⟩
theorem numeral_calls (T : Tabs w) (h0 : s0.size ≤ 64) : Calls Tryz.prog 183 #[.agg #[.bool t0, .int .i64 n0, .string s0, .bool t1, .int .i64 n1, .string s1, .bool t2, .int .i64 n2, .string s2]] w fun e w' => e = .returned (.agg #[.bool false, .int .i64 (vNum s0.data.toList), .string ⟨#[]⟩]) ∧ Below w.heap.size w w' := by
  · have TB := hid T
    clear T
    go_enter Tryz.func183, Tryz.ntmps183
    go_wp2_with fail
    refine (number_calls s0 (by omega) _ (by first | exact TB.out.on (below_then (alloc1 w _) (alloc1 _ _) (by simp)))).mono ?_
    rintro e w1 ⟨rfl, hb1⟩
    obtain ⟨k1, hblk1⟩ := res_block hb1
    have K1 := hid k1
    have HB1 := hid hblk1
    clear hb1 k1 hblk1
    go_wp2_with fail
    refine (int_calls _ _).mono ?_
    rintro e w2 ⟨rfl, hb⟩
    have k2 := below_then K1.out hb K1.out.size
    have hblk := (hb.block _ (Array.getElem?_eq_some_iff.1 HB1.out).1).trans HB1.out
    clear hb
    have c0 : w2.cell? ⟨w.heap.size + 1, 0, none⟩ = some (.bool false) := by rw [cell_of_cells hblk]; rfl
    have c1 : w2.cell? ⟨w.heap.size + 1, 1, none⟩ = some (.int .i64 0) := by rw [cell_of_cells hblk]; rfl
    have c2 : w2.cell? ⟨w.heap.size + 1, 2, none⟩ = some (.string ⟨#[]⟩) := by rw [cell_of_cells hblk]; rfl
    have f0 : w2.frozen? ⟨w.heap.size + 1, 0, none⟩ = false := free_of_cells hblk
    have f1 : w2.frozen? ⟨w.heap.size + 1, 1, none⟩ = false := free_of_cells hblk
    have f2 : w2.frozen? ⟨w.heap.size + 1, 2, none⟩ = false := free_of_cells hblk
    have KB := hid (fun x y z => below_set3 (G := w.heap.size + 1) k2 (Nat.le_succ _) 0 1 2 x y z)
    clear k2 hblk
    go_wp2
    refine bodyPost_ret (v := .agg #[.bool false, .int .i64 (vNum s0.data.toList), .string ⟨#[]⟩]) (by simp [results, Tryz.results183, go_sem, c0, c1, c2]) rfl ⟨rfl, KB.out _ _ _⟩
theorem equal1_calls (hd : sameOf t0 t1 n0 n1 s0 s1 = true) : Calls Tryz.prog 177 #[.agg #[.bool t0, .int .i64 n0, .string s0, .bool t1, .int .i64 n1, .string s1, .bool t2, .int .i64 n2, .string s2]] w fun e w' => e = .returned (.agg #[.bool false, .int .i64 (1), .string ⟨#[]⟩]) ∧ Below w.heap.size w w' := by
  · go_enter Tryz.func177, Tryz.ntmps177
    go_wp2_with fail
    refine (value_Same_calls t0 t1 n0 n1 s0 s1 _).mono ?_
    rintro e w1 ⟨rfl, hb1⟩
    obtain ⟨k1, hblk1⟩ := res_block hb1
    have K1 := hid k1
    have HB1 := hid hblk1
    clear hb1 k1 hblk1
    rw [hd]
    go_wp2_with fail
    refine (truth1_calls _).mono ?_
    rintro e w2 ⟨rfl, hb⟩
    have k2 := below_then K1.out hb K1.out.size
    have hblk := (hb.block _ (Array.getElem?_eq_some_iff.1 HB1.out).1).trans HB1.out
    clear hb
    have c0 : w2.cell? ⟨w.heap.size + 1, 0, none⟩ = some (.bool false) := by rw [cell_of_cells hblk]; rfl
    have c1 : w2.cell? ⟨w.heap.size + 1, 1, none⟩ = some (.int .i64 0) := by rw [cell_of_cells hblk]; rfl
    have c2 : w2.cell? ⟨w.heap.size + 1, 2, none⟩ = some (.string ⟨#[]⟩) := by rw [cell_of_cells hblk]; rfl
    have f0 : w2.frozen? ⟨w.heap.size + 1, 0, none⟩ = false := free_of_cells hblk
    have f1 : w2.frozen? ⟨w.heap.size + 1, 1, none⟩ = false := free_of_cells hblk
    have f2 : w2.frozen? ⟨w.heap.size + 1, 2, none⟩ = false := free_of_cells hblk
    have KB := hid (fun x y z => below_set3 (G := w.heap.size + 1) k2 (Nat.le_succ _) 0 1 2 x y z)
    clear k2 hblk
    go_wp2
    refine bodyPost_ret (v := .agg #[.bool false, .int .i64 1, .string ⟨#[]⟩]) (by simp [results, Tryz.results177, go_sem, c0, c1, c2]) rfl ⟨rfl, KB.out _ _ _⟩
theorem equal0_calls (hd : sameOf t0 t1 n0 n1 s0 s1 = false) : Calls Tryz.prog 177 #[.agg #[.bool t0, .int .i64 n0, .string s0, .bool t1, .int .i64 n1, .string s1, .bool t2, .int .i64 n2, .string s2]] w fun e w' => e = .returned (.agg #[.bool false, .int .i64 (0), .string ⟨#[]⟩]) ∧ Below w.heap.size w w' := by
  · go_enter Tryz.func177, Tryz.ntmps177
    go_wp2_with fail
    refine (value_Same_calls t0 t1 n0 n1 s0 s1 _).mono ?_
    rintro e w1 ⟨rfl, hb1⟩
    obtain ⟨k1, hblk1⟩ := res_block hb1
    have K1 := hid k1
    have HB1 := hid hblk1
    clear hb1 k1 hblk1
    rw [hd]
    go_wp2_with fail
    refine (truth0_calls _).mono ?_
    rintro e w2 ⟨rfl, hb⟩
    have k2 := below_then K1.out hb K1.out.size
    have hblk := (hb.block _ (Array.getElem?_eq_some_iff.1 HB1.out).1).trans HB1.out
    clear hb
    have c0 : w2.cell? ⟨w.heap.size + 1, 0, none⟩ = some (.bool false) := by rw [cell_of_cells hblk]; rfl
    have c1 : w2.cell? ⟨w.heap.size + 1, 1, none⟩ = some (.int .i64 0) := by rw [cell_of_cells hblk]; rfl
    have c2 : w2.cell? ⟨w.heap.size + 1, 2, none⟩ = some (.string ⟨#[]⟩) := by rw [cell_of_cells hblk]; rfl
    have f0 : w2.frozen? ⟨w.heap.size + 1, 0, none⟩ = false := free_of_cells hblk
    have f1 : w2.frozen? ⟨w.heap.size + 1, 1, none⟩ = false := free_of_cells hblk
    have f2 : w2.frozen? ⟨w.heap.size + 1, 2, none⟩ = false := free_of_cells hblk
    have KB := hid (fun x y z => below_set3 (G := w.heap.size + 1) k2 (Nat.le_succ _) 0 1 2 x y z)
    clear k2 hblk
    go_wp2
    refine bodyPost_ret (v := .agg #[.bool false, .int .i64 0, .string ⟨#[]⟩]) (by simp [results, Tryz.results177, go_sem, c0, c1, c2]) rfl ⟨rfl, KB.out _ _ _⟩
end
end Go.Proofs.YtfimoobgbodbmaaGreatDoor
