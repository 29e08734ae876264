/- does of chapter 6's own answer: OpNext, OpStore, OpEmit. -/
import Derived.Test.YtpggfdnpbipckaaGreatDoorRDoes2
namespace Go.Proofs.YtpggfdnpbipckaaGreatDoor
open Go.RowKit Go.Lib
set_option linter.unusedVariables false
set_option maxRecDepth 100000

/-- What does leaves: what is pushed, and the machine. -/
def Leaves (w0 : World) (b : Nat) (key : ByteArray) (vv : Value) (m : St) (out : List Val) (e : Ending) (w' : World) : Prop := ∃ vo vs vt, e = .returned (.tuple #[vo, .int .i64 0]) ∧ Vls w' vo out ∧ Mac w0 b key vv vs vt m w'
theorem Gives.leaves {w0 : World} {b : Nat} {key : ByteArray} {vv vs vt : Value} {m : St} {w : World} (h : Mac w0 b key vv vs vt m w) {out : List Val} {e : Ending} {w' : World} (hg : Gives w out e w') : Leaves w0 b key vv m out e w' := by
  obtain ⟨vo, he, hv, hb⟩ := hg
  exact ⟨vo, vs, vt, he, hv, h.on hb⟩

variable {w0 : World} {b : Nat} {key : ByteArray} {vs vt : Value} {m : St} {w : World} {ao : Option Addr} {n cap : Nat}
set_option maxHeartbeats 2000000 in
set_option maxRecDepth 100000 in
theorem does_next0 (h : Mac w0 b key (.slice ao n cap) vs vt m w) (hn : n ≤ m.taken) (ht : m.taken ≤ 4294967296) (A : Int) (s : ByteArray) (v : Value) :
    Calls Tryz.prog 65 #[.pointer (some ⟨b, 0, none⟩), .agg #[.int .i64 7, .int .i64 A, .string s], v] w (Gives w [.num 0]) := by
  have H1 := alloc1 w (Obj.cells #[.int .i64 7, .int .i64 A, .string s] 43)
  have c0 := (h.on H1).cV
  have c1 := (h.on H1).cT
  have hd : decide ((n : Int) ≤ (m.taken : Int)) = true := by simp; omega
  clear h
  generalize m.taken = t at c1 hd hn
  go_enter Tryz.func65, Tryz.ntmps65
  go_wp2_with fail
  generalize w.alloc (Obj.cells #[.int .i64 7, .int .i64 A, .string s] 43) = W at H1 c0 c1 ⊢
  go_quiet (fail)
  go_wp2_with fail
  refine (num_calls 0 _).mono ?_
  rintro e w5 ⟨rfl, hb5⟩
  go_wp2
  go_ret2
  have k1 := below_then H1 (below_drew W nq) H1.size
  have k2 := below_then k1 hb5 k1.size
  exact ⟨_, rfl, Reads.made encV_len (by decide) 57 [.num 0] w5 (by simp), below_then k2 (alloc1 _ _) k2.size⟩

set_option maxHeartbeats 2000000 in
set_option maxRecDepth 100000 in
theorem does_next1 {n0 off : Nat} (h : Mac w0 b key (.slice (some ⟨n0, off, none⟩) n cap) vs vt m w) {x : ByteArray} (hx : w.cell? ⟨n0, off + m.taken, none⟩ = some (.string x)) (hg : n0 < w0.heap.size) (hn : m.taken < n) (ht : n ≤ 4294967296) (A : Int) (s : ByteArray) (v : Value) :
    Calls Tryz.prog 65 #[.pointer (some ⟨b, 0, none⟩), .agg #[.int .i64 7, .int .i64 A, .string s], v] w (Leaves w0 b key (.slice (some ⟨n0, off, none⟩) n cap) { m with taken := m.taken + 1 } [.text x, .num 1]) := by
  have H1 := alloc1 w (Obj.cells #[.int .i64 7, .int .i64 A, .string s] 43)
  have HM := hid (h.on H1)
  have c0 := HM.out.cV
  have c1 := HM.out.cT
  have f1 := HM.out.free 27
  have hd : decide ((n : Int) ≤ (m.taken : Int)) = false := by simp; omega
  have hlt := h.bel.size
  have x0 : (w.alloc (Obj.cells #[.int .i64 7, .int .i64 A, .string s] 43)).cell? ⟨n0, off + m.taken, none⟩ = some (.string x) := (H1.cell (p := ⟨n0, off + m.taken, none⟩) (by simp only; omega)).trans hx
  have hbase := h.base
  clear h hx
  obtain ⟨t, et⟩ : ∃ t, m.taken = t := ⟨_, rfl⟩
  rw [et] at c1 hd hn x0 ⊢
  have HT := hid et
  clear et
  go_enter Tryz.func65, Tryz.ntmps65
  go_wp2_with fail
  generalize w.alloc (Obj.cells #[.int .i64 7, .int .i64 A, .string s] 43) = W at H1 HM c0 c1 f1 x0 ⊢
  go_quiet (fail)
  have HM2 := hid (HM.out.on (below_drew W nq))
  have x1 : (W.drewN nq).cell? ⟨n0, off + t, none⟩ = some (.string x) := x0
  generalize W.drewN nq = W2 at HM2 x1 ⊢
  clear c0 c1 f1 x0 HM H1
  have d1 := HM2.out.cT
  have f2 := HM2.out.free 27
  rw [HT.out] at d1
  have HM3 := hid (show Mac w0 b key (.slice (some ⟨n0, off, none⟩) n cap) vs vt { m with taken := t + 1 } (W2.setCell ⟨b, 27, none⟩ (.int .i64 ((t : Int) + 1))) from HM2.out.taken (t + 1))
  have x2 : (W2.setCell ⟨b, 27, none⟩ (.int .i64 ((t : Int) + 1))).cell? ⟨n0, off + t, none⟩ = some (.string x) := (World.cell?_of_block (w := W2) (Below.heap_setCell _ _ _ _ (by simp only; omega))).trans x1
  clear HM2 x1
  go_wp2_with fail
  generalize W2.setCell ⟨b, 27, none⟩ (.int .i64 ((t : Int) + 1)) = W3 at HM3 x2 ⊢
  have HQ : Hold W3 (fun w' => (b < w'.heap.size ∧ n0 < w'.heap.size) ∧ w'.cell? ⟨b, 26, none⟩ = some (.slice (some ⟨n0, off, none⟩) n cap) ∧ w'.cell? ⟨b, 27, none⟩ = some (.int .i64 ((t : Int) + 1)) ∧ w'.cell? ⟨n0, off + t, none⟩ = some (.string x)) W3 :=
    ⟨Below.refl _ _, fun w1 w2 hb h => ⟨⟨Nat.lt_of_lt_of_le h.1.1 hb.size, Nat.lt_of_lt_of_le h.1.2 hb.size⟩, stays_cell hb h.1.1 h.2.1, stays_cell hb h.1.1 h.2.2.1, stays_cell hb h.1.2 h.2.2.2⟩, ⟨HM3.out.lt, by have := HM3.out.lt; omega⟩, HM3.out.cV, HM3.out.cT, x2⟩
  have H2 := HQ.on (drew1 W3)
  clear HQ x2 d1 f2
  have hw1 : IntKind.i64.wrap ((t : Int) + 1 - 1) = (t : Int) := by rw [IntKind.wrap_i64]; omega
  have hw2 : IntKind.i64.wrap (t : Int) = (t : Int) := by rw [IntKind.wrap_i64]; omega
  have ht1 : (0 : Int) ≤ (t : Int) := by omega
  have ht2 : (t : Int) < (n : Int) := by omega
  go_region_held3 (fun w' => w'.cell? ⟨b, 26, none⟩ = some (.slice (some ⟨n0, off, none⟩) n cap) ∧ w'.cell? ⟨b, 27, none⟩ = some (.int .i64 ((t : Int) + 1)) ∧ w'.cell? ⟨n0, off + t, none⟩ = some (.string x)) (first | exact H6.out.2 | exact (H6.on (alloc1 _ _)).out.2 | exact H5.out.2 | exact H2.out.2)
    (first | (go_at_call 76; refine (text_calls _ _).mono ?_; rintro e w5 ⟨rfl, hb5⟩; have H5 := Hold.on (by assumption) hb5) | (go_at_call 75; refine (num_calls _ _).mono ?_; rintro e w6 ⟨rfl, hb6⟩; have H6 := Hold.on (by assumption) hb6))
  go_wp2
  go_ret2
  exact ⟨_, _, _, rfl, Reads.made encV_len (by decide) 57 [.text x, .num 1] _ (by simp), HM3.out.on (H6.on (alloc1 _ _)).below⟩
end Go.Proofs.YtpggfdnpbipckaaGreatDoor
