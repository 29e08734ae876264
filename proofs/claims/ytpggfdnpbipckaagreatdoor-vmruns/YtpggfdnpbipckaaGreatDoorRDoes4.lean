/- does of chapter 6's own answer: OpStore, OpEmit. -/
import Derived.Test.YtpggfdnpbipckaaGreatDoorRDoes3
namespace Go.Proofs.YtpggfdnpbipckaaGreatDoor
open Go.RowKit Go.Lib
set_option linter.unusedVariables false
set_option maxRecDepth 100000

theorem set_cell_off {w : World} {b i g j : Nat} {u : Value} (hne : g ≠ b) : (w.setCell ⟨b, i, none⟩ u).cell? ⟨g, j, none⟩ = w.cell? ⟨g, j, none⟩ := World.cell?_of_block (w := w) (Below.heap_setCell _ _ _ _ (by simp only; exact hne))
theorem set3_cell {w : World} {b i1 i2 i3 g j : Nat} {x y z : Value} (hne : g ≠ b) : (((w.setCell ⟨b, i1, none⟩ x).setCell ⟨b, i2, none⟩ y).setCell ⟨b, i3, none⟩ z).cell? ⟨g, j, none⟩ = w.cell? ⟨g, j, none⟩ := by
  rw [set_cell_off hne, set_cell_off hne, set_cell_off hne]

variable {w0 : World} {b : Nat} {key : ByteArray} {vv vs vt : Value} {m : St} {w : World}
set_option maxHeartbeats 4000000 in
set_option maxRecDepth 100000 in
theorem does_store (h : Mac w0 b key vv vs vt m w) (h8 : m.regs.length = 8) (k : Nat) (hk : k < 8) (s : ByteArray) (v : Value) (a : Val) (hv : Vls w v [a]) (hne : v.ownBlock ≠ some b) :
    Calls Tryz.prog 65 #[.pointer (some ⟨b, 0, none⟩), .agg #[.int .i64 22, .int .i64 (k : Int), .string s], v] w (Leaves w0 b key vv { m with regs := m.regs.set k a } []) := by
  obtain ⟨g, off, cap, rfl, h2, hlt, hc⟩ := hv.lie (by simp)
  obtain ⟨t0, n0, s0, e0⟩ := a.three
  have hgb : g ≠ b := fun e => hne (by rw [e]; rfl)
  have c0 : w.cell? ⟨g, off, none⟩ = some (.bool t0) := by simpa using hc 0 _ rfl 0 _ (by rw [e0]; rfl)
  have c1 : w.cell? ⟨g, off + 1, none⟩ = some (.int .i64 n0) := by simpa using hc 0 _ rfl 1 _ (by rw [e0]; rfl)
  have c2 : w.cell? ⟨g, off + 2, none⟩ = some (.string s0) := by simpa using hc 0 _ rfl 2 _ (by rw [e0]; rfl)
  have H1 := alloc1 w (Obj.cells #[.int .i64 22, .int .i64 (k : Int), .string s] 43)
  have a0 : (w.alloc (Obj.cells #[.int .i64 22, .int .i64 (k : Int), .string s] 43)).cell? ⟨w.heap.size, 1, none⟩ = some (.int .i64 k) := by simp [go_sem]
  have hib : w.heap.size ≠ b := by have := h.lt; omega
  have HM := hid ((h.on H1).on (drew1 _))
  have HR := hid ((h.on H1).on (drew1 _) |>.reg h8 hk e0)
  have hk' : (k : Int) < 8 := by omega
  have H2 : Hold w (fun w' => (g < w'.heap.size ∧ w.heap.size < w'.heap.size) ∧ w'.cell? ⟨w.heap.size, 1, none⟩ = some (.int .i64 k) ∧ w'.cell? ⟨g, off, none⟩ = some (.bool t0) ∧ w'.cell? ⟨g, off + 1, none⟩ = some (.int .i64 n0) ∧ w'.cell? ⟨g, off + 2, none⟩ = some (.string s0)) (w.alloc (Obj.cells #[.int .i64 22, .int .i64 (k : Int), .string s] 43)) :=
    ⟨H1, fun w1 w2 hb h => ⟨⟨Nat.lt_of_lt_of_le h.1.1 hb.size, Nat.lt_of_lt_of_le h.1.2 hb.size⟩, stays_cell hb h.1.2 h.2.1, stays_cell hb h.1.1 h.2.2.1, stays_cell hb h.1.1 h.2.2.2.1, stays_cell hb h.1.1 h.2.2.2.2⟩, ⟨by simp; omega, by simp⟩, a0, (H1.cell (p := ⟨g, off, none⟩) hlt).trans c0, (H1.cell (p := ⟨g, off + 1, none⟩) hlt).trans c1, (H1.cell (p := ⟨g, off + 2, none⟩) hlt).trans c2⟩
  clear c0 c1 c2 a0 hc hv
  have H3 := H2.on (drew1 _)
  obtain ⟨y0, z0⟩ : ∃ y, y = m.regs.getD k (.num 0) := ⟨_, rfl⟩
  obtain ⟨t1, n1, s1, e1⟩ := y0.three
  have b0 := HM.out.cR hk (i := 0) (by rw [← z0, e1]; rfl)
  have b1 := HM.out.cR hk (i := 1) (by rw [← z0, e1]; rfl)
  have b2 := HM.out.cR hk (i := 2) (by rw [← z0, e1]; rfl)
  have f0 := HM.out.free (1 + k * 3)
  have f1 := HM.out.free (1 + k * 3 + 1)
  have f2 := HM.out.free (1 + k * 3 + 2)
  clear H2 H1 h
  go_enter Tryz.func65, Tryz.ntmps65
  go_wp2_with fail
  generalize w.alloc (Obj.cells #[.int .i64 22, .int .i64 (k : Int), .string s] 43) = W at HM HR H3 b0 b1 b2 f0 f1 f2 ⊢
  generalize w.heap.size = i at hib H3 ⊢
  simp only [Nat.add_zero] at b0
  have b0' : W.cell? ⟨b, 1 + k * 3, none⟩ = some (.bool t1) := b0
  have b1' : W.cell? ⟨b, 1 + k * 3 + 1, none⟩ = some (.int .i64 n1) := b1
  have b2' : W.cell? ⟨b, 1 + k * 3 + 2, none⟩ = some (.string s1) := b2
  have f0' : W.frozen? ⟨b, 1 + k * 3, none⟩ = false := f0
  have f1' : W.frozen? ⟨b, 1 + k * 3 + 1, none⟩ = false := f1
  have f2' : W.frozen? ⟨b, 1 + k * 3 + 2, none⟩ = false := f2
  go_region_held3 (fun w' => w'.cell? ⟨i, 1, none⟩ = some (.int .i64 k) ∧ w'.cell? ⟨g, off, none⟩ = some (.bool t0) ∧ w'.cell? ⟨g, off + 1, none⟩ = some (.int .i64 n0) ∧ w'.cell? ⟨g, off + 2, none⟩ = some (.string s0)) (first | exact H3.out.2 | exact ⟨(set3_cell hib).trans H3.out.2.1, (set3_cell hgb).trans H3.out.2.2.1, (set3_cell hgb).trans H3.out.2.2.2.1, (set3_cell hgb).trans H3.out.2.2.2.2⟩) (fail)
  go_wp2
  go_ret2
  exact ⟨_, _, _, rfl, Reads.nil _, HR.out⟩
end Go.Proofs.YtpggfdnpbipckaaGreatDoor
