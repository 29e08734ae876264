/- The machine of chapter 6's own answer in memory: its block, its stack's row, its pairs' row. -/
import Derived.Test.YtpggfdnpbipckaaGreatDoorRDoes
import Derived.Test.YtpggfdnpbipckaaGreatDoorTPairs
import Derived.Test.YtpggfdnpbipckaaGreatDoorAppAny
namespace Go.Proofs.YtpggfdnpbipckaaGreatDoor
open Go.RowKit Go.Lib
set_option linter.unusedVariables false
set_option maxRecDepth 100000

/-- The machine's own cells. -/
structure Cells (key : ByteArray) (vv vs vt : Value) (m : St) (cs : Array Value) : Prop where
  size : cs.size = 29
  s : cs[0]? = some vs
  r : ∀ k, k < 8 → ∀ i u, (encV (m.regs.getD k (.num 0)))[i]? = some u → cs[1 + k * 3 + i]? = some u
  k : cs[25]? = some (.string key)
  v : cs[26]? = some vv
  t : cs[27]? = some (.int .i64 m.taken)
  p : cs[28]? = some vt
/-- The machine m lies at block b of the world w, which has come from w0: only blocks that are new since have turned. -/
structure Mac (w0 : World) (b : Nat) (key : ByteArray) (vv vs vt : Value) (m : St) (w : World) : Prop where
  bel : Below w0.heap.size w0 w
  base : w0.heap.size ≤ b
  blk : ∃ cs, w.heap[b]? = some (.cells cs 69 (0, 0)) ∧ Cells key vv vs vt m cs
  st : w.ownsRow w0.heap.size 57 3 vs m.stack.length (fl encV m.stack.reverse)
  tl : w.ownsRow w0.heap.size 41 2 vt m.told.length (fl encP m.told)

section
variable {w0 : World} {b : Nat} {key : ByteArray} {vv vs vt : Value} {m : St} {w : World}
theorem Mac.on (h : Mac w0 b key vv vs vt m w) {w' : World} (hb : Below w.heap.size w w') : Mac w0 b key vv vs vt m w' := by
  obtain ⟨cs, hc, hC⟩ := h.blk
  exact ⟨below_then h.bel hb h.bel.size, h.base, ⟨cs, (hb.block b (Array.getElem?_eq_some_iff.1 hc).1).trans hc, hC⟩, owns_below h.st hb, owns_below h.tl hb⟩
theorem Mac.lt (h : Mac w0 b key vv vs vt m w) : b < w.heap.size := by
  obtain ⟨cs, hc, _⟩ := h.blk
  exact (Array.getElem?_eq_some_iff.1 hc).1
theorem Mac.cS (h : Mac w0 b key vv vs vt m w) : w.cell? ⟨b, 0, none⟩ = some vs := by obtain ⟨cs, hc, hC⟩ := h.blk; rw [cell_of_cells hc]; exact hC.s
theorem Mac.cK (h : Mac w0 b key vv vs vt m w) : w.cell? ⟨b, 25, none⟩ = some (.string key) := by obtain ⟨cs, hc, hC⟩ := h.blk; rw [cell_of_cells hc]; exact hC.k
theorem Mac.cV (h : Mac w0 b key vv vs vt m w) : w.cell? ⟨b, 26, none⟩ = some vv := by obtain ⟨cs, hc, hC⟩ := h.blk; rw [cell_of_cells hc]; exact hC.v
theorem Mac.cT (h : Mac w0 b key vv vs vt m w) : w.cell? ⟨b, 27, none⟩ = some (.int .i64 m.taken) := by obtain ⟨cs, hc, hC⟩ := h.blk; rw [cell_of_cells hc]; exact hC.t
theorem Mac.cP (h : Mac w0 b key vv vs vt m w) : w.cell? ⟨b, 28, none⟩ = some vt := by obtain ⟨cs, hc, hC⟩ := h.blk; rw [cell_of_cells hc]; exact hC.p
theorem Mac.cR (h : Mac w0 b key vv vs vt m w) {k : Nat} (hk : k < 8) {i : Nat} {u : Value} (hu : (encV (m.regs.getD k (.num 0)))[i]? = some u) : w.cell? ⟨b, 1 + k * 3 + i, none⟩ = some u := by obtain ⟨cs, hc, hC⟩ := h.blk; rw [cell_of_cells hc]; exact hC.r k hk i u hu
theorem Mac.free (h : Mac w0 b key vv vs vt m w) (i : Nat) : w.frozen? ⟨b, i, none⟩ = false := by obtain ⟨cs, hc, _⟩ := h.blk; exact free_of_cells hc

/-- One of the machine's cells is written: what its rows hold stays. -/
theorem Mac.set (h : Mac w0 b key vv vs vt m w) (i : Nat) (u : Value) {m' : St} {vs' vt' : Value} (hm1 : m'.stack = m.stack) (hm2 : m'.told = m.told) (hs : vs' = vs) (ht : vt' = vt)
    (hC : ∀ cs, Cells key vv vs vt m cs → Cells key vv vs vt m' (cs.setIfInBounds i u)) : Mac w0 b key vv vs' vt' m' (w.setCell ⟨b, i, none⟩ u) := by
  subst hs ht
  obtain ⟨cs, hc, hCs⟩ := h.blk
  exact ⟨below_set h.bel h.base i u, h.base, ⟨_, set_block hc i u, hC cs hCs⟩, by rw [hm1]; exact owns_set h.st hc (by decide) i u, by rw [hm2]; exact owns_set h.tl hc (by decide) i u⟩
theorem Mac.taken (h : Mac w0 b key vv vs vt m w) (n : Nat) : Mac w0 b key vv vs vt { m with taken := n } (w.setCell ⟨b, 27, none⟩ (.int .i64 n)) :=
  h.set 27 _ rfl rfl rfl rfl fun cs hC => ⟨by simpa using hC.size, by rw [Array.getElem?_setIfInBounds_ne (by omega)]; exact hC.s, fun k hk i u hu => by
    have hi : i < 3 := by have := (List.getElem?_eq_some_iff.1 hu).1; rw [encV_len] at this; exact this
    rw [Array.getElem?_setIfInBounds_ne (by omega)]; exact hC.r k hk i u hu, by rw [Array.getElem?_setIfInBounds_ne (by omega)]; exact hC.k, by rw [Array.getElem?_setIfInBounds_ne (by omega)]; exact hC.v, by rw [set_self (by rw [hC.size]; omega)], by rw [Array.getElem?_setIfInBounds_ne (by omega)]; exact hC.p⟩
/-- The stack's slice is written anew. -/
theorem Mac.stack (h : Mac w0 b key vv vs vt m w) {vs' : Value} {l : List Val} (ho : w.ownsRow w0.heap.size 57 3 vs' l.length (fl encV l.reverse)) : Mac w0 b key vv vs' vt { m with stack := l } (w.setCell ⟨b, 0, none⟩ vs') := by
  obtain ⟨cs, hc, hC⟩ := h.blk
  refine ⟨below_set h.bel h.base 0 vs', h.base, ⟨_, set_block hc 0 vs', ?_⟩, owns_set ho hc (by decide) 0 vs', owns_set h.tl hc (by decide) 0 vs'⟩
  exact ⟨by simpa using hC.size, by rw [set_self (by rw [hC.size]; omega)], fun k hk i u hu => by
    rw [Array.getElem?_setIfInBounds_ne (by omega)]; exact hC.r k hk i u hu, by rw [Array.getElem?_setIfInBounds_ne (by omega)]; exact hC.k, by rw [Array.getElem?_setIfInBounds_ne (by omega)]; exact hC.v, by rw [Array.getElem?_setIfInBounds_ne (by omega)]; exact hC.t, by rw [Array.getElem?_setIfInBounds_ne (by omega)]; exact hC.p⟩
/-- The pairs' slice is written anew. -/
theorem Mac.tells (h : Mac w0 b key vv vs vt m w) {vt' : Value} {l : List Pr} (ho : w.ownsRow w0.heap.size 41 2 vt' l.length (fl encP l)) : Mac w0 b key vv vs vt' { m with told := l } (w.setCell ⟨b, 28, none⟩ vt') := by
  obtain ⟨cs, hc, hC⟩ := h.blk
  refine ⟨below_set h.bel h.base 28 vt', h.base, ⟨_, set_block hc 28 vt', ?_⟩, owns_set h.st hc (by decide) 28 vt', owns_set ho hc (by decide) 28 vt'⟩
  exact ⟨by simpa using hC.size, by rw [Array.getElem?_setIfInBounds_ne (by omega)]; exact hC.s, fun k hk i u hu => by
    have hi : i < 3 := by have := (List.getElem?_eq_some_iff.1 hu).1; rw [encV_len] at this; exact this
    rw [Array.getElem?_setIfInBounds_ne (by omega)]; exact hC.r k hk i u hu, by rw [Array.getElem?_setIfInBounds_ne (by omega)]; exact hC.k, by rw [Array.getElem?_setIfInBounds_ne (by omega)]; exact hC.v, by rw [Array.getElem?_setIfInBounds_ne (by omega)]; exact hC.t, by rw [set_self (by rw [hC.size]; omega)]⟩
/-- A register is written: its three cells, one behind the other. -/
theorem Mac.reg (h : Mac w0 b key vv vs vt m w) (h8 : m.regs.length = 8) {k : Nat} (hk : k < 8) {a : Val} {x y z : Value} (ha : encV a = [x, y, z]) :
    Mac w0 b key vv vs vt { m with regs := m.regs.set k a } (((w.setCell ⟨b, 1 + k * 3, none⟩ x).setCell ⟨b, 1 + k * 3 + 1, none⟩ y).setCell ⟨b, 1 + k * 3 + 2, none⟩ z) := by
  obtain ⟨cs, hc, hC⟩ := h.blk
  have hc1 := set_block hc (1 + k * 3) x
  have hc2 := set_block hc1 (1 + k * 3 + 1) y
  have hc3 := set_block hc2 (1 + k * 3 + 2) z
  refine ⟨below_set (below_set (below_set h.bel h.base _ _) h.base _ _) h.base _ _, h.base, ⟨_, hc3, ?_⟩, owns_set (owns_set (owns_set h.st hc (by decide) _ _) hc1 (by decide) _ _) hc2 (by decide) _ _, owns_set (owns_set (owns_set h.tl hc (by decide) _ _) hc1 (by decide) _ _) hc2 (by decide) _ _⟩
  have off : ∀ j, (j < 1 + k * 3 ∨ 1 + k * 3 + 2 < j) → (((cs.setIfInBounds (1 + k * 3) x).setIfInBounds (1 + k * 3 + 1) y).setIfInBounds (1 + k * 3 + 2) z)[j]? = cs[j]? := by
    intro j hj
    rw [Array.getElem?_setIfInBounds_ne (by omega), Array.getElem?_setIfInBounds_ne (by omega), Array.getElem?_setIfInBounds_ne (by omega)]
  have hz := hC.size
  refine ⟨by simpa using hz, by rw [off _ (by omega)]; exact hC.s, fun j hj i u hu => ?_, by rw [off _ (by omega)]; exact hC.k, by rw [off _ (by omega)]; exact hC.v, by rw [off _ (by omega)]; exact hC.t, by rw [off _ (by omega)]; exact hC.p⟩
  by_cases e : j = k
  · subst e
    have e2 : (m.regs.set j a).getD j (.num 0) = a := by simp [List.getD, h8, hk]
    simp only [e2, ha] at hu
    have hi : i = 0 ∨ i = 1 ∨ i = 2 := by have := (List.getElem?_eq_some_iff.1 hu).1; simp at this; omega
    rcases hi with rfl | rfl | rfl
    · simp at hu
      rw [Array.getElem?_setIfInBounds_ne (by omega), Array.getElem?_setIfInBounds_ne (by omega), Nat.add_zero, set_self (by omega), hu]
    · simp at hu
      rw [Array.getElem?_setIfInBounds_ne (by omega), set_self (by simp; omega), hu]
    · simp at hu
      rw [set_self (by simp; omega), hu]
  · have hi : i < 3 := by have := (List.getElem?_eq_some_iff.1 hu).1; rw [encV_len] at this; exact this
    have e2 : (m.regs.set k a).getD j (.num 0) = m.regs.getD j (.num 0) := by simp [List.getD, Ne.symm e]
    simp only [e2] at hu
    rw [off _ (by omega)]
    exact hC.r j hj i u hu
end
end Go.Proofs.YtpggfdnpbipckaaGreatDoor
