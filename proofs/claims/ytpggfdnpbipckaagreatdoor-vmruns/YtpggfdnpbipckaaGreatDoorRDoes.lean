/- does of chapter 6's own answer, the operations that only read. -/
import Derived.Test.YtpggfdnpbipckaaGreatDoorRVal
import Derived.Deep.RegionHeld3
import Derived.Handy
namespace Go.Proofs.YtpggfdnpbipckaaGreatDoor
open Go.RowKit Go.Lib
set_option linter.unusedVariables false
set_option maxRecDepth 100000

/-- What does answers: what is pushed, no reason; nothing old has turned. -/
def Gives (w : World) (out : List Val) (e : Ending) (w' : World) : Prop := ∃ vo, e = .returned (.tuple #[vo, .int .i64 0]) ∧ Vls w' vo out ∧ Below w.heap.size w w'

set_option maxHeartbeats 2000000 in
set_option maxRecDepth 100000 in
theorem does_int (b : Nat) (A : Int) (s : ByteArray) (v : Value) (w : World) (hv : Vls w v []) :
    Calls Tryz.prog 65 #[.pointer (some ⟨b, 0, none⟩), .agg #[.int .i64 1, .int .i64 A, .string s], v] w (Gives w [.num A]) := by
  clear hv
  have H1 : Hold w (fun _ => True ∧ True) (w.alloc (Obj.cells #[.int .i64 1, .int .i64 A, .string s] 43)) := ⟨alloc1 w _, fun _ _ _ h => h, trivial, trivial⟩
  go_enter Tryz.func65, Tryz.ntmps65
  go_wp2_with fail
  generalize w.alloc (Obj.cells #[.int .i64 1, .int .i64 A, .string s] 43) = W at H1 ⊢
  refine (num_calls A _).mono ?_
  rintro e w5 ⟨rfl, hb5⟩
  have H5 := H1.on hb5
  go_wp2
  go_ret2
  have HL := H5
  exact ⟨_, rfl, Reads.made encV_len (by decide) 57 [.num A] _ (by simp), (HL.on (alloc1 _ _)).below⟩

set_option maxHeartbeats 2000000 in
set_option maxRecDepth 100000 in
theorem does_bytes (b : Nat) (A : Int) (s : ByteArray) (v : Value) (w : World) (hv : Vls w v []) :
    Calls Tryz.prog 65 #[.pointer (some ⟨b, 0, none⟩), .agg #[.int .i64 2, .int .i64 A, .string s], v] w (Gives w [.text s]) := by
  clear hv
  have H1 : Hold w (fun _ => True ∧ True) (w.alloc (Obj.cells #[.int .i64 2, .int .i64 A, .string s] 43)) := ⟨alloc1 w _, fun _ _ _ h => h, trivial, trivial⟩
  go_enter Tryz.func65, Tryz.ntmps65
  go_wp2_with fail
  generalize w.alloc (Obj.cells #[.int .i64 2, .int .i64 A, .string s] 43) = W at H1 ⊢
  refine (text_calls s _).mono ?_
  rintro e w5 ⟨rfl, hb5⟩
  have H5 := H1.on hb5
  go_wp2
  go_ret2
  have HL := H5
  exact ⟨_, rfl, Reads.made encV_len (by decide) 57 [.text s] _ (by simp), (HL.on (alloc1 _ _)).below⟩

set_option maxHeartbeats 2000000 in
set_option maxRecDepth 100000 in
theorem does_add (b : Nat) (A : Int) (s : ByteArray) (v : Value) (x y : Int) (w : World) (hv : Vls w v [.num x, .num y]) :
    Calls Tryz.prog 65 #[.pointer (some ⟨b, 0, none⟩), .agg #[.int .i64 8, .int .i64 A, .string s], v] w (Gives w [.num (wrap64 (x + y))]) := by
  obtain ⟨g, off, cap, rfl, h2, hlt, hc⟩ := hv.lie (by simp)
  have c0 : w.cell? ⟨g, off + 1, none⟩ = some (.int .i64 x) := by simpa using hc 0 _ rfl 1 _ rfl
  have c1 : w.cell? ⟨g, off + 3 + 1, none⟩ = some (.int .i64 y) := by simpa using hc 1 _ rfl 1 _ rfl
  have H0 : Hold w (fun w' => g < w'.heap.size ∧ w'.cell? ⟨g, off + 1, none⟩ = some (.int .i64 x) ∧ w'.cell? ⟨g, off + 3 + 1, none⟩ = some (.int .i64 y)) w :=
    ⟨Below.refl _ _, fun w1 w2 hb h => ⟨Nat.lt_of_lt_of_le h.1 hb.size, stays_cell hb h.1 h.2.1, stays_cell hb h.1 h.2.2⟩, hlt, c0, c1⟩
  have H1 := H0.on (alloc1 w (Obj.cells #[.int .i64 8, .int .i64 A, .string s] 43))
  clear hc hv H0 c0 c1
  simp only [List.length_cons, List.length_nil, Nat.zero_add, Nat.reduceAdd] at h2
  go_enter Tryz.func65, Tryz.ntmps65
  go_wp2_with fail
  generalize w.alloc (Obj.cells #[.int .i64 8, .int .i64 A, .string s] 43) = W at H1 ⊢
  have H2 := H1.on (drew1 W)
  clear H1
  go_region_held3 (fun w' => w'.cell? ⟨g, off + 1, none⟩ = some (.int .i64 x) ∧ w'.cell? ⟨g, off + 3 + 1, none⟩ = some (.int .i64 y)) (first | exact H5.out.2 | exact (H5.on (alloc1 _ _)).out.2 | exact H2.out.2 | exact (H2.on (alloc1 _ _)).out.2)
    (first | (go_at_call 75; refine (num_calls _ _).mono ?_; rintro e w5 ⟨rfl, hb5⟩; have H5 := Hold.on (by assumption) hb5))
  go_wp2
  go_ret2
  have HL := H5
  rw [← wrapI]
  exact ⟨_, rfl, Reads.made encV_len (by decide) 57 [.num (IntKind.i64.wrap (x + y))] _ (by simp), (HL.on (alloc1 _ _)).below⟩

set_option maxHeartbeats 2000000 in
set_option maxRecDepth 100000 in
theorem does_sub (b : Nat) (A : Int) (s : ByteArray) (v : Value) (x y : Int) (w : World) (hv : Vls w v [.num x, .num y]) :
    Calls Tryz.prog 65 #[.pointer (some ⟨b, 0, none⟩), .agg #[.int .i64 9, .int .i64 A, .string s], v] w (Gives w [.num (wrap64 (x - y))]) := by
  obtain ⟨g, off, cap, rfl, h2, hlt, hc⟩ := hv.lie (by simp)
  have c0 : w.cell? ⟨g, off + 1, none⟩ = some (.int .i64 x) := by simpa using hc 0 _ rfl 1 _ rfl
  have c1 : w.cell? ⟨g, off + 3 + 1, none⟩ = some (.int .i64 y) := by simpa using hc 1 _ rfl 1 _ rfl
  have H0 : Hold w (fun w' => g < w'.heap.size ∧ w'.cell? ⟨g, off + 1, none⟩ = some (.int .i64 x) ∧ w'.cell? ⟨g, off + 3 + 1, none⟩ = some (.int .i64 y)) w :=
    ⟨Below.refl _ _, fun w1 w2 hb h => ⟨Nat.lt_of_lt_of_le h.1 hb.size, stays_cell hb h.1 h.2.1, stays_cell hb h.1 h.2.2⟩, hlt, c0, c1⟩
  have H1 := H0.on (alloc1 w (Obj.cells #[.int .i64 9, .int .i64 A, .string s] 43))
  clear hc hv H0 c0 c1
  simp only [List.length_cons, List.length_nil, Nat.zero_add, Nat.reduceAdd] at h2
  go_enter Tryz.func65, Tryz.ntmps65
  go_wp2_with fail
  generalize w.alloc (Obj.cells #[.int .i64 9, .int .i64 A, .string s] 43) = W at H1 ⊢
  have H2 := H1.on (drew1 W)
  clear H1
  go_region_held3 (fun w' => w'.cell? ⟨g, off + 1, none⟩ = some (.int .i64 x) ∧ w'.cell? ⟨g, off + 3 + 1, none⟩ = some (.int .i64 y)) (first | exact H5.out.2 | exact (H5.on (alloc1 _ _)).out.2 | exact H2.out.2 | exact (H2.on (alloc1 _ _)).out.2)
    (first | (go_at_call 75; refine (num_calls _ _).mono ?_; rintro e w5 ⟨rfl, hb5⟩; have H5 := Hold.on (by assumption) hb5))
  go_wp2
  go_ret2
  have HL := H5
  rw [← wrapI]
  exact ⟨_, rfl, Reads.made encV_len (by decide) 57 [.num (IntKind.i64.wrap (x - y))] _ (by simp), (HL.on (alloc1 _ _)).below⟩

set_option maxHeartbeats 2000000 in
set_option maxRecDepth 100000 in
theorem does_mul (b : Nat) (A : Int) (s : ByteArray) (v : Value) (x y : Int) (w : World) (hv : Vls w v [.num x, .num y]) :
    Calls Tryz.prog 65 #[.pointer (some ⟨b, 0, none⟩), .agg #[.int .i64 10, .int .i64 A, .string s], v] w (Gives w [.num (wrap64 (x * y))]) := by
  obtain ⟨g, off, cap, rfl, h2, hlt, hc⟩ := hv.lie (by simp)
  have c0 : w.cell? ⟨g, off + 1, none⟩ = some (.int .i64 x) := by simpa using hc 0 _ rfl 1 _ rfl
  have c1 : w.cell? ⟨g, off + 3 + 1, none⟩ = some (.int .i64 y) := by simpa using hc 1 _ rfl 1 _ rfl
  have H0 : Hold w (fun w' => g < w'.heap.size ∧ w'.cell? ⟨g, off + 1, none⟩ = some (.int .i64 x) ∧ w'.cell? ⟨g, off + 3 + 1, none⟩ = some (.int .i64 y)) w :=
    ⟨Below.refl _ _, fun w1 w2 hb h => ⟨Nat.lt_of_lt_of_le h.1 hb.size, stays_cell hb h.1 h.2.1, stays_cell hb h.1 h.2.2⟩, hlt, c0, c1⟩
  have H1 := H0.on (alloc1 w (Obj.cells #[.int .i64 10, .int .i64 A, .string s] 43))
  clear hc hv H0 c0 c1
  simp only [List.length_cons, List.length_nil, Nat.zero_add, Nat.reduceAdd] at h2
  go_enter Tryz.func65, Tryz.ntmps65
  go_wp2_with fail
  generalize w.alloc (Obj.cells #[.int .i64 10, .int .i64 A, .string s] 43) = W at H1 ⊢
  have H2 := H1.on (drew1 W)
  clear H1
  go_region_held3 (fun w' => w'.cell? ⟨g, off + 1, none⟩ = some (.int .i64 x) ∧ w'.cell? ⟨g, off + 3 + 1, none⟩ = some (.int .i64 y)) (first | exact H5.out.2 | exact (H5.on (alloc1 _ _)).out.2 | exact H2.out.2 | exact (H2.on (alloc1 _ _)).out.2)
    (first | (go_at_call 75; refine (num_calls _ _).mono ?_; rintro e w5 ⟨rfl, hb5⟩; have H5 := Hold.on (by assumption) hb5))
  go_wp2
  go_ret2
  have HL := H5
  rw [← wrapI]
  exact ⟨_, rfl, Reads.made encV_len (by decide) 57 [.num (IntKind.i64.wrap (x * y))] _ (by simp), (HL.on (alloc1 _ _)).below⟩

theorem flag1_calls (w : World) : Calls Tryz.prog 77 #[.bool true] w fun e w' => e = .returned (vV (.num 1)) ∧ Below w.heap.size w w' := flag_calls true w
theorem flag0_calls (w : World) : Calls Tryz.prog 77 #[.bool false] w fun e w' => e = .returned (vV (.num 0)) ∧ Below w.heap.size w w' := flag_calls false w

set_option maxHeartbeats 2000000 in
set_option maxRecDepth 100000 in
theorem does_less1 (b : Nat) (A : Int) (s : ByteArray) (v : Value) (x y : Int) (w : World) (hv : Vls w v [.num x, .num y]) (hd : decide (x < y) = true) :
    Calls Tryz.prog 65 #[.pointer (some ⟨b, 0, none⟩), .agg #[.int .i64 11, .int .i64 A, .string s], v] w (Gives w [.num 1]) := by
  obtain ⟨g, off, cap, rfl, h2, hlt, hc⟩ := hv.lie (by simp)
  have c0 : w.cell? ⟨g, off + 1, none⟩ = some (.int .i64 x) := by simpa using hc 0 _ rfl 1 _ rfl
  have c1 : w.cell? ⟨g, off + 3 + 1, none⟩ = some (.int .i64 y) := by simpa using hc 1 _ rfl 1 _ rfl
  have H0 : Hold w (fun w' => g < w'.heap.size ∧ w'.cell? ⟨g, off + 1, none⟩ = some (.int .i64 x) ∧ w'.cell? ⟨g, off + 3 + 1, none⟩ = some (.int .i64 y)) w :=
    ⟨Below.refl _ _, fun w1 w2 hb h => ⟨Nat.lt_of_lt_of_le h.1 hb.size, stays_cell hb h.1 h.2.1, stays_cell hb h.1 h.2.2⟩, hlt, c0, c1⟩
  have H1 := H0.on (alloc1 w (Obj.cells #[.int .i64 11, .int .i64 A, .string s] 43))
  clear hc hv H0 c0 c1
  simp only [List.length_cons, List.length_nil, Nat.zero_add, Nat.reduceAdd] at h2
  go_enter Tryz.func65, Tryz.ntmps65
  go_wp2_with fail
  generalize w.alloc (Obj.cells #[.int .i64 11, .int .i64 A, .string s] 43) = W at H1 ⊢
  have H2 := H1.on (drew1 W)
  clear H1
  go_region_held3 (fun w' => w'.cell? ⟨g, off + 1, none⟩ = some (.int .i64 x) ∧ w'.cell? ⟨g, off + 3 + 1, none⟩ = some (.int .i64 y)) (first | exact H5.out.2 | exact (H5.on (alloc1 _ _)).out.2 | exact H2.out.2 | exact (H2.on (alloc1 _ _)).out.2)
    (first | (go_at_call 77; refine (flag1_calls _).mono ?_; rintro e w5 ⟨rfl, hb5⟩; have H5 := Hold.on (by assumption) hb5))
  go_wp2
  go_ret2
  have HL := H5
  exact ⟨_, rfl, Reads.made encV_len (by decide) 57 [.num 1] _ (by simp), (HL.on (alloc1 _ _)).below⟩

set_option maxHeartbeats 2000000 in
set_option maxRecDepth 100000 in
theorem does_less0 (b : Nat) (A : Int) (s : ByteArray) (v : Value) (x y : Int) (w : World) (hv : Vls w v [.num x, .num y]) (hd : decide (x < y) = false) :
    Calls Tryz.prog 65 #[.pointer (some ⟨b, 0, none⟩), .agg #[.int .i64 11, .int .i64 A, .string s], v] w (Gives w [.num 0]) := by
  obtain ⟨g, off, cap, rfl, h2, hlt, hc⟩ := hv.lie (by simp)
  have c0 : w.cell? ⟨g, off + 1, none⟩ = some (.int .i64 x) := by simpa using hc 0 _ rfl 1 _ rfl
  have c1 : w.cell? ⟨g, off + 3 + 1, none⟩ = some (.int .i64 y) := by simpa using hc 1 _ rfl 1 _ rfl
  have H0 : Hold w (fun w' => g < w'.heap.size ∧ w'.cell? ⟨g, off + 1, none⟩ = some (.int .i64 x) ∧ w'.cell? ⟨g, off + 3 + 1, none⟩ = some (.int .i64 y)) w :=
    ⟨Below.refl _ _, fun w1 w2 hb h => ⟨Nat.lt_of_lt_of_le h.1 hb.size, stays_cell hb h.1 h.2.1, stays_cell hb h.1 h.2.2⟩, hlt, c0, c1⟩
  have H1 := H0.on (alloc1 w (Obj.cells #[.int .i64 11, .int .i64 A, .string s] 43))
  clear hc hv H0 c0 c1
  simp only [List.length_cons, List.length_nil, Nat.zero_add, Nat.reduceAdd] at h2
  go_enter Tryz.func65, Tryz.ntmps65
  go_wp2_with fail
  generalize w.alloc (Obj.cells #[.int .i64 11, .int .i64 A, .string s] 43) = W at H1 ⊢
  have H2 := H1.on (drew1 W)
  clear H1
  go_region_held3 (fun w' => w'.cell? ⟨g, off + 1, none⟩ = some (.int .i64 x) ∧ w'.cell? ⟨g, off + 3 + 1, none⟩ = some (.int .i64 y)) (first | exact H5.out.2 | exact (H5.on (alloc1 _ _)).out.2 | exact H2.out.2 | exact (H2.on (alloc1 _ _)).out.2)
    (first | (go_at_call 77; refine (flag0_calls _).mono ?_; rintro e w5 ⟨rfl, hb5⟩; have H5 := Hold.on (by assumption) hb5))
  go_wp2
  go_ret2
  have HL := H5
  exact ⟨_, rfl, Reads.made encV_len (by decide) 57 [.num 0] _ (by simp), (HL.on (alloc1 _ _)).below⟩

set_option maxHeartbeats 2000000 in
set_option maxRecDepth 100000 in
theorem does_len (b : Nat) (A : Int) (s : ByteArray) (v : Value) (x : ByteArray) (w : World) (hv : Vls w v [.text x]) (hx : x.size ≤ 64) :
    Calls Tryz.prog 65 #[.pointer (some ⟨b, 0, none⟩), .agg #[.int .i64 14, .int .i64 A, .string s], v] w (Gives w [.num x.size]) := by
  obtain ⟨g, off, cap, rfl, h2, hlt, hc⟩ := hv.lie (by simp)
  have c0 : w.cell? ⟨g, off + 2, none⟩ = some (.string x) := by simpa using hc 0 _ rfl 2 _ rfl
  have H0 : Hold w (fun w' => g < w'.heap.size ∧ w'.cell? ⟨g, off + 2, none⟩ = some (.string x)) w :=
    ⟨Below.refl _ _, fun w1 w2 hb h => ⟨Nat.lt_of_lt_of_le h.1 hb.size, stays_cell hb h.1 h.2⟩, hlt, c0⟩
  have H1 := H0.on (alloc1 w (Obj.cells #[.int .i64 14, .int .i64 A, .string s] 43))
  clear hc hv H0 c0
  simp only [List.length_cons, List.length_nil, Nat.zero_add] at h2
  have d0 : (w.alloc (Obj.cells #[.int .i64 14, .int .i64 A, .string s] 43)).cell? ⟨g, off + 2, none⟩ = some (.string x) := H1.out.2
  go_enter Tryz.func65, Tryz.ntmps65
  go_wp2_with fail
  clear d0
  generalize w.alloc (Obj.cells #[.int .i64 14, .int .i64 A, .string s] 43) = W at H1 ⊢
  refine (num_calls (x.size : Int) _).mono ?_
  rintro e w5 ⟨rfl, hb5⟩
  have H5 := H1.on hb5
  go_wp2
  go_ret2
  have HL := H5
  exact ⟨_, rfl, Reads.made encV_len (by decide) 57 [.num x.size] _ (by simp), (HL.on (alloc1 _ _)).below⟩

set_option maxHeartbeats 2000000 in
set_option maxRecDepth 100000 in
theorem does_at (b : Nat) (A : Int) (s : ByteArray) (v : Value) (x : ByteArray) (y : Int) (w : World) (hv : Vls w v [.text x, .num y]) (hx : x.size ≤ 9223372036854775807) :
    Calls Tryz.prog 65 #[.pointer (some ⟨b, 0, none⟩), .agg #[.int .i64 15, .int .i64 A, .string s], v] w (Gives w [.num (atV x y)]) := by
  obtain ⟨g, off, cap, rfl, h2, hlt, hc⟩ := hv.lie (by simp)
  have c0 : w.cell? ⟨g, off + 2, none⟩ = some (.string x) := by simpa using hc 0 _ rfl 2 _ rfl
  have c1 : w.cell? ⟨g, off + 3 + 1, none⟩ = some (.int .i64 y) := by simpa using hc 1 _ rfl 1 _ rfl
  have H0 : Hold w (fun w' => g < w'.heap.size ∧ w'.cell? ⟨g, off + 2, none⟩ = some (.string x) ∧ w'.cell? ⟨g, off + 3 + 1, none⟩ = some (.int .i64 y)) w :=
    ⟨Below.refl _ _, fun w1 w2 hb h => ⟨Nat.lt_of_lt_of_le h.1 hb.size, stays_cell hb h.1 h.2.1, stays_cell hb h.1 h.2.2⟩, hlt, c0, c1⟩
  have H1 := H0.on (alloc1 w (Obj.cells #[.int .i64 15, .int .i64 A, .string s] 43))
  clear hc hv H0 c0 c1
  simp only [List.length_cons, List.length_nil, Nat.zero_add, Nat.reduceAdd] at h2
  go_enter Tryz.func65, Tryz.ntmps65
  go_wp2_with fail
  generalize w.alloc (Obj.cells #[.int .i64 15, .int .i64 A, .string s] 43) = W at H1 ⊢
  have H2 := H1.on (drew1 W)
  clear H1
  go_region_held3 (fun w' => w'.cell? ⟨g, off + 2, none⟩ = some (.string x) ∧ w'.cell? ⟨g, off + 3 + 1, none⟩ = some (.int .i64 y)) (first | exact H6.out.2 | exact (H6.on (alloc1 _ _)).out.2 | exact H5.out.2 | exact (H5.on (alloc1 _ _)).out.2 | exact H2.out.2 | exact (H2.on (alloc1 _ _)).out.2)
    (first | (go_at_call 79; refine (staitheref4_At_calls _ _ hx _).mono ?_; rintro e w5 ⟨rfl, rfl⟩) | (go_at_call 75; refine (num_calls _ _).mono ?_; rintro e w6 ⟨rfl, hb6⟩; have H6 := Hold.on (by assumption) hb6))
  go_wp2
  go_ret2
  have HL := H6
  exact ⟨_, rfl, Reads.made encV_len (by decide) 57 [.num (atV x y)] _ (by simp), (HL.on (alloc1 _ _)).below⟩

set_option maxHeartbeats 2000000 in
set_option maxRecDepth 100000 in
theorem does_cut (b : Nat) (A : Int) (s : ByteArray) (v : Value) (x : ByteArray) (y z : Int) (w : World) (hv : Vls w v [.text x, .num y, .num z]) (hx : x.size ≤ 9223372036854775807) :
    Calls Tryz.prog 65 #[.pointer (some ⟨b, 0, none⟩), .agg #[.int .i64 16, .int .i64 A, .string s], v] w (Gives w [.text (cutV x y z)]) := by
  obtain ⟨g, off, cap, rfl, h2, hlt, hc⟩ := hv.lie (by simp)
  have c0 : w.cell? ⟨g, off + 2, none⟩ = some (.string x) := by simpa using hc 0 _ rfl 2 _ rfl
  have c1 : w.cell? ⟨g, off + 3 + 1, none⟩ = some (.int .i64 y) := by simpa using hc 1 _ rfl 1 _ rfl
  have c2 : w.cell? ⟨g, off + 6 + 1, none⟩ = some (.int .i64 z) := by simpa using hc 2 _ rfl 1 _ rfl
  have H0 : Hold w (fun w' => g < w'.heap.size ∧ w'.cell? ⟨g, off + 2, none⟩ = some (.string x) ∧ w'.cell? ⟨g, off + 3 + 1, none⟩ = some (.int .i64 y) ∧ w'.cell? ⟨g, off + 6 + 1, none⟩ = some (.int .i64 z)) w :=
    ⟨Below.refl _ _, fun w1 w2 hb h => ⟨Nat.lt_of_lt_of_le h.1 hb.size, stays_cell hb h.1 h.2.1, stays_cell hb h.1 h.2.2.1, stays_cell hb h.1 h.2.2.2⟩, hlt, c0, c1, c2⟩
  have H1 := H0.on (alloc1 w (Obj.cells #[.int .i64 16, .int .i64 A, .string s] 43))
  clear hc hv H0 c0 c1 c2
  simp only [List.length_cons, List.length_nil, Nat.zero_add, Nat.reduceAdd] at h2
  go_enter Tryz.func65, Tryz.ntmps65
  go_wp2_with fail
  generalize w.alloc (Obj.cells #[.int .i64 16, .int .i64 A, .string s] 43) = W at H1 ⊢
  have H2 := H1.on (drew1 W)
  clear H1
  go_region_held3 (fun w' => w'.cell? ⟨g, off + 2, none⟩ = some (.string x) ∧ w'.cell? ⟨g, off + 3 + 1, none⟩ = some (.int .i64 y) ∧ w'.cell? ⟨g, off + 6 + 1, none⟩ = some (.int .i64 z)) (first | exact H6.out.2 | exact (H6.on (alloc1 _ _)).out.2 | exact H5.out.2 | exact (H5.on (alloc1 _ _)).out.2 | exact H2.out.2 | exact (H2.on (alloc1 _ _)).out.2)
    (first | (go_at_call 80; refine (staitheref4_Cut_calls _ _ _ hx _).mono ?_; rintro e w5 ⟨rfl, rfl⟩) | (go_at_call 76; refine (text_calls _ _).mono ?_; rintro e w6 ⟨rfl, hb6⟩; have H6 := Hold.on (by assumption) hb6))
  go_wp2
  go_ret2
  have HL := H6
  exact ⟨_, rfl, Reads.made encV_len (by decide) 57 [.text (cutV x y z)] _ (by simp), (HL.on (alloc1 _ _)).below⟩

set_option maxHeartbeats 2000000 in
set_option maxRecDepth 100000 in
theorem does_text (b : Nat) (A : Int) (s : ByteArray) (v : Value) (x : Int) (w : World) (hv : Vls w v [.num x]) (hx : I64 x) :
    Calls Tryz.prog 65 #[.pointer (some ⟨b, 0, none⟩), .agg #[.int .i64 17, .int .i64 A, .string s], v] w (Gives w [.text (txt (itoa x))]) := by
  obtain ⟨g, off, cap, rfl, h2, hlt, hc⟩ := hv.lie (by simp)
  have c0 : w.cell? ⟨g, off + 1, none⟩ = some (.int .i64 x) := by simpa using hc 0 _ rfl 1 _ rfl
  have H0 : Hold w (fun w' => g < w'.heap.size ∧ w'.cell? ⟨g, off + 1, none⟩ = some (.int .i64 x)) w :=
    ⟨Below.refl _ _, fun w1 w2 hb h => ⟨Nat.lt_of_lt_of_le h.1 hb.size, stays_cell hb h.1 h.2⟩, hlt, c0⟩
  have H1 := H0.on (alloc1 w (Obj.cells #[.int .i64 17, .int .i64 A, .string s] 43))
  clear hc hv H0 c0
  simp only [List.length_cons, List.length_nil, Nat.zero_add] at h2
  have d0 : (w.alloc (Obj.cells #[.int .i64 17, .int .i64 A, .string s] 43)).cell? ⟨g, off + 1, none⟩ = some (.int .i64 x) := H1.out.2
  go_enter Tryz.func65, Tryz.ntmps65
  go_wp2_with fail
  clear d0
  generalize w.alloc (Obj.cells #[.int .i64 17, .int .i64 A, .string s] 43) = W at H1 ⊢
  refine (ref_digits_calls x hx _).mono ?_
  rintro e w5 ⟨rfl, rfl⟩
  go_wp2_with fail
  refine (text_calls _ _).mono ?_
  rintro e w6 ⟨rfl, hb6⟩
  have H6 := H1.on hb6
  go_wp2
  go_ret2
  have HL := H6
  exact ⟨_, rfl, Reads.made encV_len (by decide) 57 [.text (txt (itoa x))] _ (by simp), (HL.on (alloc1 _ _)).below⟩

set_option maxHeartbeats 2000000 in
set_option maxRecDepth 100000 in
theorem does_number (b : Nat) (A : Int) (s : ByteArray) (v : Value) (x : ByteArray) (w : World) (hv : Vls w v [.text x]) (hx : x.size ≤ 9223372036854775807) :
    Calls Tryz.prog 65 #[.pointer (some ⟨b, 0, none⟩), .agg #[.int .i64 18, .int .i64 A, .string s], v] w (Gives w [.num (vNum x.data.toList)]) := by
  obtain ⟨g, off, cap, rfl, h2, hlt, hc⟩ := hv.lie (by simp)
  have c0 : w.cell? ⟨g, off + 2, none⟩ = some (.string x) := by simpa using hc 0 _ rfl 2 _ rfl
  have H0 : Hold w (fun w' => g < w'.heap.size ∧ w'.cell? ⟨g, off + 2, none⟩ = some (.string x)) w :=
    ⟨Below.refl _ _, fun w1 w2 hb h => ⟨Nat.lt_of_lt_of_le h.1 hb.size, stays_cell hb h.1 h.2⟩, hlt, c0⟩
  have H1 := H0.on (alloc1 w (Obj.cells #[.int .i64 18, .int .i64 A, .string s] 43))
  clear hc hv H0 c0
  simp only [List.length_cons, List.length_nil, Nat.zero_add] at h2
  have d0 : (w.alloc (Obj.cells #[.int .i64 18, .int .i64 A, .string s] 43)).cell? ⟨g, off + 2, none⟩ = some (.string x) := H1.out.2
  go_enter Tryz.func65, Tryz.ntmps65
  go_wp2_with fail
  clear d0
  generalize w.alloc (Obj.cells #[.int .i64 18, .int .i64 A, .string s] 43) = W at H1 ⊢
  refine (ref_number_calls x hx _).mono ?_
  rintro e w5 ⟨rfl, rfl⟩
  go_wp2_with fail
  refine (num_calls _ _).mono ?_
  rintro e w6 ⟨rfl, hb6⟩
  have H6 := H1.on hb6
  go_wp2
  go_ret2
  have HL := H6
  exact ⟨_, rfl, Reads.made encV_len (by decide) 57 [.num (vNum x.data.toList)] _ (by simp), (HL.on (alloc1 _ _)).below⟩

set_option maxHeartbeats 2000000 in
set_option maxRecDepth 100000 in
theorem does_cat (b : Nat) (A : Int) (s : ByteArray) (v : Value) (x y : ByteArray) (w : World) (hv : Vls w v [.text x, .text y]) (hx : x.size ≤ 64) (hy : y.size ≤ 64) :
    Calls Tryz.prog 65 #[.pointer (some ⟨b, 0, none⟩), .agg #[.int .i64 13, .int .i64 A, .string s], v] w (Gives w [.text (x ++ y)]) := by
  obtain ⟨g, off, cap, rfl, h2, hlt, hc⟩ := hv.lie (by simp)
  have c0 : w.cell? ⟨g, off + 2, none⟩ = some (.string x) := by simpa using hc 0 _ rfl 2 _ rfl
  have c1 : w.cell? ⟨g, off + 3 + 2, none⟩ = some (.string y) := by simpa using hc 1 _ rfl 2 _ rfl
  have H0 : Hold w (fun w' => g < w'.heap.size ∧ w'.cell? ⟨g, off + 2, none⟩ = some (.string x) ∧ w'.cell? ⟨g, off + 3 + 2, none⟩ = some (.string y)) w :=
    ⟨Below.refl _ _, fun w1 w2 hb h => ⟨Nat.lt_of_lt_of_le h.1 hb.size, stays_cell hb h.1 h.2.1, stays_cell hb h.1 h.2.2⟩, hlt, c0, c1⟩
  have H1 := H0.on (alloc1 w (Obj.cells #[.int .i64 13, .int .i64 A, .string s] 43))
  clear hc hv H0 c0 c1
  simp only [List.length_cons, List.length_nil, Nat.zero_add, Nat.reduceAdd] at h2
  have hcat : ¬ 9223372036854775807 < x.size + y.size := by omega
  go_enter Tryz.func65, Tryz.ntmps65
  go_wp2_with fail
  generalize w.alloc (Obj.cells #[.int .i64 13, .int .i64 A, .string s] 43) = W at H1 ⊢
  have H2 := H1.on (drew1 W)
  clear H1
  go_region_held3 (fun w' => w'.cell? ⟨g, off + 2, none⟩ = some (.string x) ∧ w'.cell? ⟨g, off + 3 + 2, none⟩ = some (.string y)) (first | exact H5.out.2 | exact (H5.on (alloc1 _ _)).out.2 | exact H2.out.2 | exact (H2.on (alloc1 _ _)).out.2)
    (first | (go_at_call 76; refine (text_calls _ _).mono ?_; rintro e w5 ⟨rfl, hb5⟩; have H5 := Hold.on (by assumption) hb5))
  go_wp2
  go_ret2
  have HL := H5
  exact ⟨_, rfl, Reads.made encV_len (by decide) 57 [.text (x ++ y)] _ (by simp), (HL.on (alloc1 _ _)).below⟩
end Go.Proofs.YtpggfdnpbipckaaGreatDoor
