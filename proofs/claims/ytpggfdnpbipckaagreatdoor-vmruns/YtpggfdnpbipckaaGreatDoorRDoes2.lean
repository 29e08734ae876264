/- does of chapter 6's own answer: the rest of the operations that only read. -/
import Derived.Test.YtpggfdnpbipckaaGreatDoorRMac
namespace Go.Proofs.YtpggfdnpbipckaaGreatDoor
open Go.RowKit Go.Lib
set_option linter.unusedVariables false
set_option maxRecDepth 100000

set_option maxHeartbeats 2000000 in
set_option maxRecDepth 100000 in
theorem does_dup (b : Nat) (A : Int) (s : ByteArray) (v : Value) (a : Val) (w : World) (hv : Vls w v [a]) :
    Calls Tryz.prog 65 #[.pointer (some ⟨b, 0, none⟩), .agg #[.int .i64 3, .int .i64 A, .string s], v] w (Gives w [a, a]) := by
  obtain ⟨g, off, cap, rfl, h2, hlt, hc⟩ := hv.lie (by simp)
  obtain ⟨t0, n0, s0, e0⟩ := a.three
  have c0 : w.cell? ⟨g, off, none⟩ = some (.bool t0) := by simpa using hc 0 _ rfl 0 _ (by rw [e0]; rfl)
  have c1 : w.cell? ⟨g, off + 1, none⟩ = some (.int .i64 n0) := by simpa using hc 0 _ rfl 1 _ (by rw [e0]; rfl)
  have c2 : w.cell? ⟨g, off + 2, none⟩ = some (.string s0) := by simpa using hc 0 _ rfl 2 _ (by rw [e0]; rfl)
  have H0 : Hold w (fun w' => g < w'.heap.size ∧ w'.cell? ⟨g, off, none⟩ = some (.bool t0) ∧ w'.cell? ⟨g, off + 1, none⟩ = some (.int .i64 n0) ∧ w'.cell? ⟨g, off + 2, none⟩ = some (.string s0)) w :=
    ⟨Below.refl _ _, fun w1 w2 hb h => ⟨Nat.lt_of_lt_of_le h.1 hb.size, stays_cell hb h.1 h.2.1, stays_cell hb h.1 h.2.2.1, stays_cell hb h.1 h.2.2.2⟩, hlt, c0, c1, c2⟩
  have H1 := H0.on (alloc1 w (Obj.cells #[.int .i64 3, .int .i64 A, .string s] 43))
  clear hc hv H0 c0 c1 c2
  simp only [List.length_cons, List.length_nil, Nat.zero_add] at h2
  go_enter Tryz.func65, Tryz.ntmps65
  go_wp2_with fail
  generalize w.alloc (Obj.cells #[.int .i64 3, .int .i64 A, .string s] 43) = W at H1 ⊢
  have H2 := H1.on (drew1 W)
  clear H1
  go_region_held3 (fun w' => w'.cell? ⟨g, off, none⟩ = some (.bool t0) ∧ w'.cell? ⟨g, off + 1, none⟩ = some (.int .i64 n0) ∧ w'.cell? ⟨g, off + 2, none⟩ = some (.string s0)) (first | exact H2.out.2 | exact (H2.on (alloc1 _ _)).out.2)
    (fail)
  go_wp2
  go_ret2
  have HL := H2
  have ef : (fl encV [a, a]).toArray = #[Value.bool t0, .int .i64 n0, .string s0, Value.bool t0, .int .i64 n0, .string s0] := by simp [fl, e0]
  refine ⟨_, rfl, ?_, (HL.on (alloc1 _ _)).below⟩
  rw [← ef]
  exact Reads.made encV_len (by decide) 57 [a, a] _ (by simp)

set_option maxHeartbeats 2000000 in
set_option maxRecDepth 100000 in
theorem does_swap (b : Nat) (A : Int) (s : ByteArray) (v : Value) (a c : Val) (w : World) (hv : Vls w v [a, c]) :
    Calls Tryz.prog 65 #[.pointer (some ⟨b, 0, none⟩), .agg #[.int .i64 5, .int .i64 A, .string s], v] w (Gives w [c, a]) := by
  obtain ⟨g, off, cap, rfl, h2, hlt, hc⟩ := hv.lie (by simp)
  obtain ⟨t0, n0, s0, e0⟩ := a.three
  obtain ⟨t1, n1, s1, e1⟩ := c.three
  have c0 : w.cell? ⟨g, off, none⟩ = some (.bool t0) := by simpa using hc 0 _ rfl 0 _ (by rw [e0]; rfl)
  have c1 : w.cell? ⟨g, off + 1, none⟩ = some (.int .i64 n0) := by simpa using hc 0 _ rfl 1 _ (by rw [e0]; rfl)
  have c2 : w.cell? ⟨g, off + 2, none⟩ = some (.string s0) := by simpa using hc 0 _ rfl 2 _ (by rw [e0]; rfl)
  have c3 : w.cell? ⟨g, off + 3, none⟩ = some (.bool t1) := by simpa using hc 1 _ rfl 0 _ (by rw [e1]; rfl)
  have c4 : w.cell? ⟨g, off + 3 + 1, none⟩ = some (.int .i64 n1) := by simpa using hc 1 _ rfl 1 _ (by rw [e1]; rfl)
  have c5 : w.cell? ⟨g, off + 3 + 2, none⟩ = some (.string s1) := by simpa using hc 1 _ rfl 2 _ (by rw [e1]; rfl)
  have H0 : Hold w (fun w' => g < w'.heap.size ∧ w'.cell? ⟨g, off, none⟩ = some (.bool t0) ∧ w'.cell? ⟨g, off + 1, none⟩ = some (.int .i64 n0) ∧ w'.cell? ⟨g, off + 2, none⟩ = some (.string s0) ∧ w'.cell? ⟨g, off + 3, none⟩ = some (.bool t1) ∧ w'.cell? ⟨g, off + 3 + 1, none⟩ = some (.int .i64 n1) ∧ w'.cell? ⟨g, off + 3 + 2, none⟩ = some (.string s1)) w :=
    ⟨Below.refl _ _, fun w1 w2 hb h => ⟨Nat.lt_of_lt_of_le h.1 hb.size, stays_cell hb h.1 h.2.1, stays_cell hb h.1 h.2.2.1, stays_cell hb h.1 h.2.2.2.1, stays_cell hb h.1 h.2.2.2.2.1, stays_cell hb h.1 h.2.2.2.2.2.1, stays_cell hb h.1 h.2.2.2.2.2.2⟩, hlt, c0, c1, c2, c3, c4, c5⟩
  have H1 := H0.on (alloc1 w (Obj.cells #[.int .i64 5, .int .i64 A, .string s] 43))
  clear hc hv H0 c0 c1 c2 c3 c4 c5
  simp only [List.length_cons, List.length_nil, Nat.zero_add, Nat.reduceAdd] at h2
  go_enter Tryz.func65, Tryz.ntmps65
  go_wp2_with fail
  generalize w.alloc (Obj.cells #[.int .i64 5, .int .i64 A, .string s] 43) = W at H1 ⊢
  have H2 := H1.on (drew1 W)
  clear H1
  go_region_held3 (fun w' => w'.cell? ⟨g, off, none⟩ = some (.bool t0) ∧ w'.cell? ⟨g, off + 1, none⟩ = some (.int .i64 n0) ∧ w'.cell? ⟨g, off + 2, none⟩ = some (.string s0) ∧ w'.cell? ⟨g, off + 3, none⟩ = some (.bool t1) ∧ w'.cell? ⟨g, off + 3 + 1, none⟩ = some (.int .i64 n1) ∧ w'.cell? ⟨g, off + 3 + 2, none⟩ = some (.string s1)) (first | exact H2.out.2 | exact (H2.on (alloc1 _ _)).out.2)
    (fail)
  go_wp2
  go_ret2
  have HL := H2
  have ef : (fl encV [c, a]).toArray = #[Value.bool t1, .int .i64 n1, .string s1, Value.bool t0, .int .i64 n0, .string s0] := by simp [fl, e0, e1]
  refine ⟨_, rfl, ?_, (HL.on (alloc1 _ _)).below⟩
  rw [← ef]
  exact Reads.made encV_len (by decide) 57 [c, a] _ (by simp)

theorem same_three {a c : Val} {t u : Bool} {n m : Int} {x y : ByteArray} (h : encV a = [.bool t, .int .i64 n, .string x]) (k : encV c = [.bool u, .int .i64 m, .string y]) : sameOf t u n m x y = sameV a c := by
  cases a <;> cases c <;> simp [encV] at h k <;> obtain ⟨rfl, rfl, rfl⟩ := h <;> obtain ⟨rfl, rfl, rfl⟩ := k <;> simp [sameOf, sameV]

set_option maxHeartbeats 2000000 in
set_option maxRecDepth 100000 in
theorem does_eq1 (b : Nat) (A : Int) (s : ByteArray) (v : Value) (a c : Val) (w : World) (hv : Vls w v [a, c]) (hs : sameV a c = true) :
    Calls Tryz.prog 65 #[.pointer (some ⟨b, 0, none⟩), .agg #[.int .i64 12, .int .i64 A, .string s], v] w (Gives w [.num 1]) := by
  obtain ⟨g, off, cap, rfl, h2, hlt, hc⟩ := hv.lie (by simp)
  obtain ⟨t0, n0, s0, e0⟩ := a.three
  obtain ⟨t1, n1, s1, e1⟩ := c.three
  have hd : sameOf t0 t1 n0 n1 s0 s1 = true := (same_three e0 e1).trans hs
  have c0 : w.cell? ⟨g, off, none⟩ = some (.bool t0) := by simpa using hc 0 _ rfl 0 _ (by rw [e0]; rfl)
  have c1 : w.cell? ⟨g, off + 1, none⟩ = some (.int .i64 n0) := by simpa using hc 0 _ rfl 1 _ (by rw [e0]; rfl)
  have c2 : w.cell? ⟨g, off + 2, none⟩ = some (.string s0) := by simpa using hc 0 _ rfl 2 _ (by rw [e0]; rfl)
  have c3 : w.cell? ⟨g, off + 3, none⟩ = some (.bool t1) := by simpa using hc 1 _ rfl 0 _ (by rw [e1]; rfl)
  have c4 : w.cell? ⟨g, off + 3 + 1, none⟩ = some (.int .i64 n1) := by simpa using hc 1 _ rfl 1 _ (by rw [e1]; rfl)
  have c5 : w.cell? ⟨g, off + 3 + 2, none⟩ = some (.string s1) := by simpa using hc 1 _ rfl 2 _ (by rw [e1]; rfl)
  have H0 : Hold w (fun w' => g < w'.heap.size ∧ w'.cell? ⟨g, off, none⟩ = some (.bool t0) ∧ w'.cell? ⟨g, off + 1, none⟩ = some (.int .i64 n0) ∧ w'.cell? ⟨g, off + 2, none⟩ = some (.string s0) ∧ w'.cell? ⟨g, off + 3, none⟩ = some (.bool t1) ∧ w'.cell? ⟨g, off + 3 + 1, none⟩ = some (.int .i64 n1) ∧ w'.cell? ⟨g, off + 3 + 2, none⟩ = some (.string s1)) w :=
    ⟨Below.refl _ _, fun w1 w2 hb h => ⟨Nat.lt_of_lt_of_le h.1 hb.size, stays_cell hb h.1 h.2.1, stays_cell hb h.1 h.2.2.1, stays_cell hb h.1 h.2.2.2.1, stays_cell hb h.1 h.2.2.2.2.1, stays_cell hb h.1 h.2.2.2.2.2.1, stays_cell hb h.1 h.2.2.2.2.2.2⟩, hlt, c0, c1, c2, c3, c4, c5⟩
  have H1 := H0.on (alloc1 w (Obj.cells #[.int .i64 12, .int .i64 A, .string s] 43))
  clear hc hv H0 c0 c1 c2 c3 c4 c5
  simp only [List.length_cons, List.length_nil, Nat.zero_add, Nat.reduceAdd] at h2
  go_enter Tryz.func65, Tryz.ntmps65
  go_wp2_with fail
  generalize w.alloc (Obj.cells #[.int .i64 12, .int .i64 A, .string s] 43) = W at H1 ⊢
  have H2 := H1.on (drew1 W)
  clear H1
  go_region_held3 (fun w' => w'.cell? ⟨g, off, none⟩ = some (.bool t0) ∧ w'.cell? ⟨g, off + 1, none⟩ = some (.int .i64 n0) ∧ w'.cell? ⟨g, off + 2, none⟩ = some (.string s0) ∧ w'.cell? ⟨g, off + 3, none⟩ = some (.bool t1) ∧ w'.cell? ⟨g, off + 3 + 1, none⟩ = some (.int .i64 n1) ∧ w'.cell? ⟨g, off + 3 + 2, none⟩ = some (.string s1)) (first | exact H6.out.2 | exact (H6.on (alloc1 _ _)).out.2 | exact H5.out.2 | exact (H5.on (alloc1 _ _)).out.2 | exact H2.out.2 | exact (H2.on (alloc1 _ _)).out.2)
    (first | (go_at_call 78; refine (staitheref4_Same_calls _ _ _ _ _ _ _).mono ?_; rintro e w5 ⟨rfl, hb5⟩; have H5 := Hold.on (by assumption) hb5; rw [hd]) | (go_at_call 77; refine (flag1_calls _).mono ?_; rintro e w6 ⟨rfl, hb6⟩; have H6 := Hold.on (by assumption) hb6))
  go_wp2
  go_ret2
  have HL := H6
  exact ⟨_, rfl, Reads.made encV_len (by decide) 57 [.num 1] _ (by simp), (HL.on (alloc1 _ _)).below⟩

set_option maxHeartbeats 2000000 in
set_option maxRecDepth 100000 in
theorem does_eq0 (b : Nat) (A : Int) (s : ByteArray) (v : Value) (a c : Val) (w : World) (hv : Vls w v [a, c]) (hs : sameV a c = false) :
    Calls Tryz.prog 65 #[.pointer (some ⟨b, 0, none⟩), .agg #[.int .i64 12, .int .i64 A, .string s], v] w (Gives w [.num 0]) := by
  obtain ⟨g, off, cap, rfl, h2, hlt, hc⟩ := hv.lie (by simp)
  obtain ⟨t0, n0, s0, e0⟩ := a.three
  obtain ⟨t1, n1, s1, e1⟩ := c.three
  have hd : sameOf t0 t1 n0 n1 s0 s1 = false := (same_three e0 e1).trans hs
  have c0 : w.cell? ⟨g, off, none⟩ = some (.bool t0) := by simpa using hc 0 _ rfl 0 _ (by rw [e0]; rfl)
  have c1 : w.cell? ⟨g, off + 1, none⟩ = some (.int .i64 n0) := by simpa using hc 0 _ rfl 1 _ (by rw [e0]; rfl)
  have c2 : w.cell? ⟨g, off + 2, none⟩ = some (.string s0) := by simpa using hc 0 _ rfl 2 _ (by rw [e0]; rfl)
  have c3 : w.cell? ⟨g, off + 3, none⟩ = some (.bool t1) := by simpa using hc 1 _ rfl 0 _ (by rw [e1]; rfl)
  have c4 : w.cell? ⟨g, off + 3 + 1, none⟩ = some (.int .i64 n1) := by simpa using hc 1 _ rfl 1 _ (by rw [e1]; rfl)
  have c5 : w.cell? ⟨g, off + 3 + 2, none⟩ = some (.string s1) := by simpa using hc 1 _ rfl 2 _ (by rw [e1]; rfl)
  have H0 : Hold w (fun w' => g < w'.heap.size ∧ w'.cell? ⟨g, off, none⟩ = some (.bool t0) ∧ w'.cell? ⟨g, off + 1, none⟩ = some (.int .i64 n0) ∧ w'.cell? ⟨g, off + 2, none⟩ = some (.string s0) ∧ w'.cell? ⟨g, off + 3, none⟩ = some (.bool t1) ∧ w'.cell? ⟨g, off + 3 + 1, none⟩ = some (.int .i64 n1) ∧ w'.cell? ⟨g, off + 3 + 2, none⟩ = some (.string s1)) w :=
    ⟨Below.refl _ _, fun w1 w2 hb h => ⟨Nat.lt_of_lt_of_le h.1 hb.size, stays_cell hb h.1 h.2.1, stays_cell hb h.1 h.2.2.1, stays_cell hb h.1 h.2.2.2.1, stays_cell hb h.1 h.2.2.2.2.1, stays_cell hb h.1 h.2.2.2.2.2.1, stays_cell hb h.1 h.2.2.2.2.2.2⟩, hlt, c0, c1, c2, c3, c4, c5⟩
  have H1 := H0.on (alloc1 w (Obj.cells #[.int .i64 12, .int .i64 A, .string s] 43))
  clear hc hv H0 c0 c1 c2 c3 c4 c5
  simp only [List.length_cons, List.length_nil, Nat.zero_add, Nat.reduceAdd] at h2
  go_enter Tryz.func65, Tryz.ntmps65
  go_wp2_with fail
  generalize w.alloc (Obj.cells #[.int .i64 12, .int .i64 A, .string s] 43) = W at H1 ⊢
  have H2 := H1.on (drew1 W)
  clear H1
  go_region_held3 (fun w' => w'.cell? ⟨g, off, none⟩ = some (.bool t0) ∧ w'.cell? ⟨g, off + 1, none⟩ = some (.int .i64 n0) ∧ w'.cell? ⟨g, off + 2, none⟩ = some (.string s0) ∧ w'.cell? ⟨g, off + 3, none⟩ = some (.bool t1) ∧ w'.cell? ⟨g, off + 3 + 1, none⟩ = some (.int .i64 n1) ∧ w'.cell? ⟨g, off + 3 + 2, none⟩ = some (.string s1)) (first | exact H6.out.2 | exact (H6.on (alloc1 _ _)).out.2 | exact H5.out.2 | exact (H5.on (alloc1 _ _)).out.2 | exact H2.out.2 | exact (H2.on (alloc1 _ _)).out.2)
    (first | (go_at_call 78; refine (staitheref4_Same_calls _ _ _ _ _ _ _).mono ?_; rintro e w5 ⟨rfl, hb5⟩; have H5 := Hold.on (by assumption) hb5; rw [hd]) | (go_at_call 77; refine (flag0_calls _).mono ?_; rintro e w6 ⟨rfl, hb6⟩; have H6 := Hold.on (by assumption) hb6))
  go_wp2
  go_ret2
  have HL := H6
  exact ⟨_, rfl, Reads.made encV_len (by decide) 57 [.num 0] _ (by simp), (HL.on (alloc1 _ _)).below⟩

set_option maxHeartbeats 2000000 in
set_option maxRecDepth 100000 in
theorem does_none4 (b : Nat) (A : Int) (s : ByteArray) (v : Value) (w : World) : Calls Tryz.prog 65 #[.pointer (some ⟨b, 0, none⟩), .agg #[.int .i64 4, .int .i64 A, .string s], v] w (Gives w []) := by
  have H1 := alloc1 w (Obj.cells #[.int .i64 4, .int .i64 A, .string s] 43)
  go_enter Tryz.func65, Tryz.ntmps65
  go_wp2
  go_ret2
  exact ⟨_, rfl, Reads.nil _, H1⟩

set_option maxHeartbeats 2000000 in
set_option maxRecDepth 100000 in
theorem does_none20 (b : Nat) (A : Int) (s : ByteArray) (v : Value) (w : World) : Calls Tryz.prog 65 #[.pointer (some ⟨b, 0, none⟩), .agg #[.int .i64 20, .int .i64 A, .string s], v] w (Gives w []) := by
  have H1 := alloc1 w (Obj.cells #[.int .i64 20, .int .i64 A, .string s] 43)
  go_enter Tryz.func65, Tryz.ntmps65
  go_wp2
  go_ret2
  exact ⟨_, rfl, Reads.nil _, H1⟩

set_option maxHeartbeats 2000000 in
set_option maxRecDepth 100000 in
theorem does_key {w0 : World} {b : Nat} {key : ByteArray} {vv vs vt : Value} {m : St} {w : World} (h : Mac w0 b key vv vs vt m w) (A : Int) (s : ByteArray) (v : Value) : Calls Tryz.prog 65 #[.pointer (some ⟨b, 0, none⟩), .agg #[.int .i64 6, .int .i64 A, .string s], v] w (Gives w [.text key]) := by
  have H1 := alloc1 w (Obj.cells #[.int .i64 6, .int .i64 A, .string s] 43)
  have c0 := (h.on H1).cK
  go_enter Tryz.func65, Tryz.ntmps65
  go_wp2_with fail
  refine (text_calls key _).mono ?_
  rintro e w5 ⟨rfl, hb5⟩
  go_wp2
  go_ret2
  exact ⟨_, rfl, Reads.made encV_len (by decide) 57 [.text key] w5 (by simp), below_then (below_then H1 hb5 H1.size) (alloc1 _ _) (by have := hb5.size; simp at this; omega)⟩

set_option maxHeartbeats 2000000 in
set_option maxRecDepth 100000 in
theorem does_load {w0 : World} {b : Nat} {key : ByteArray} {vv vs vt : Value} {m : St} {w : World} (h : Mac w0 b key vv vs vt m w) (k : Nat) (hk : k < 8) (s : ByteArray) (v : Value) : Calls Tryz.prog 65 #[.pointer (some ⟨b, 0, none⟩), .agg #[.int .i64 21, .int .i64 (k : Int), .string s], v] w (Gives w [m.regs.getD k (.num 0)]) := by
  have H1 := alloc1 w (Obj.cells #[.int .i64 21, .int .i64 (k : Int), .string s] 43)
  obtain ⟨t0, n0, s0, e0⟩ := (m.regs.getD k (.num 0)).three
  have c0 := (h.on H1).cR hk (i := 0) (by rw [e0]; rfl)
  have c1 := (h.on H1).cR hk (i := 1) (by rw [e0]; rfl)
  have c2 := (h.on H1).cR hk (i := 2) (by rw [e0]; rfl)
  have a0 : (w.alloc (Obj.cells #[.int .i64 21, .int .i64 (k : Int), .string s] 43)).cell? ⟨w.heap.size, 1, none⟩ = some (.int .i64 k) := by simp [go_sem]
  have hb := (h.on H1).lt
  have hk' : (k : Int) < 8 := by omega
  have H2 : Hold w (fun w' => (b < w'.heap.size ∧ w.heap.size < w'.heap.size) ∧ w'.cell? ⟨w.heap.size, 1, none⟩ = some (.int .i64 k) ∧ w'.cell? ⟨b, 1 + k * 3, none⟩ = some (.bool t0) ∧ w'.cell? ⟨b, 1 + k * 3 + 1, none⟩ = some (.int .i64 n0) ∧ w'.cell? ⟨b, 1 + k * 3 + 2, none⟩ = some (.string s0)) (w.alloc (Obj.cells #[.int .i64 21, .int .i64 (k : Int), .string s] 43)) :=
    ⟨H1, fun w1 w2 hb h => ⟨⟨Nat.lt_of_lt_of_le h.1.1 hb.size, Nat.lt_of_lt_of_le h.1.2 hb.size⟩, stays_cell hb h.1.2 h.2.1, stays_cell hb h.1.1 h.2.2.1, stays_cell hb h.1.1 h.2.2.2.1, stays_cell hb h.1.1 h.2.2.2.2⟩, ⟨hb, by simp⟩, a0, c0, c1, c2⟩
  clear c0 c1 c2 a0 hb
  go_enter Tryz.func65, Tryz.ntmps65
  go_wp2_with fail
  generalize w.alloc (Obj.cells #[.int .i64 21, .int .i64 (k : Int), .string s] 43) = W at H2 ⊢
  generalize w.heap.size = i at H2 ⊢
  have H3 := H2.on (drew1 W)
  clear H2
  go_region_held3 (fun w' => w'.cell? ⟨i, 1, none⟩ = some (.int .i64 k) ∧ w'.cell? ⟨b, 1 + k * 3, none⟩ = some (.bool t0) ∧ w'.cell? ⟨b, 1 + k * 3 + 1, none⟩ = some (.int .i64 n0) ∧ w'.cell? ⟨b, 1 + k * 3 + 2, none⟩ = some (.string s0)) (first | exact H3.out.2 | exact (H3.on (alloc1 _ _)).out.2) (fail)
  go_wp2
  go_ret2
  have ef : (fl encV [m.regs.getD k (.num 0)]).toArray = #[Value.bool t0, .int .i64 n0, .string s0] := by show (encV (m.regs.getD k (.num 0)) ++ []).toArray = _; rw [e0]; rfl
  refine ⟨_, rfl, ?_, (H3.on (alloc1 _ _)).below⟩
  rw [← ef]
  exact Reads.made encV_len (by decide) 57 [m.regs.getD k (.num 0)] _ (by simp)
end Go.Proofs.YtpggfdnpbipckaaGreatDoor
