/- Laid together: RDoes RMac RDoes2 RDoes3 RDoes4 REmit HeldBy REmit2. -/
import Derived.Test.YtpggfdnpbipckaaGreatDoorRVal
import Derived.Deep.RegionHeld3
import Derived.Handy
import Derived.Test.YtpggfdnpbipckaaGreatDoorTPairs
import Derived.Test.YtpggfdnpbipckaaGreatDoorAppAny
import Derived.Test.YtpggfdnpbipckaaGreatDoorGVm
/-! does of chapter 6's own answer, the operations that only read. -/
namespace Go.Proofs.YtpggfdnpbipckaaGreatDoor
open Go.RowKit Go.Lib
set_option linter.unusedVariables false
set_option maxRecDepth 100000

/-- What does answers: what is pushed, no reason; nothing old has turned. -/
def Gives (w : World) (out : List Val) (e : Ending) (w' : World) : Prop := ∃ vo, e = .returned (.tuple #[vo, .int .i64 0]) ∧ Vls w' vo out ∧ Below w.heap.size w w'

set_option maxHeartbeats 2000000 in
set_option maxRecDepth 100000 in
theorem does_int (b : Nat) (A : Int) (s : ByteArray) (v : Value) (w : World) (hv : Vls w v []) :
    Calls Tryz.prog 65 #[.pointer (some ⟨b, 0, none⟩), .agg #[.int .i64 1, .int .i64 A, .string s], v] w (Gives w [.num A]) := by
  clear hv
  have H1 : Hold w (fun _ => True ∧ True) (w.alloc (Obj.cells #[.int .i64 1, .int .i64 A, .string s] 43)) := ⟨alloc1 w _, fun _ _ _ h => h, trivial, trivial⟩
  go_enter Tryz.func65, Tryz.ntmps65
  go_wp2_with fail
  generalize w.alloc (Obj.cells #[.int .i64 1, .int .i64 A, .string s] 43) = W at H1 ⊢
  refine (num_calls A _).mono ?_
  rintro e w5 ⟨rfl, hb5⟩
  have H5 := H1.on hb5
  go_wp2
  go_ret2
  have HL := H5
  exact ⟨_, rfl, Reads.made encV_len (by decide) 57 [.num A] _ (by simp), (HL.on (alloc1 _ _)).below⟩

set_option maxHeartbeats 2000000 in
set_option maxRecDepth 100000 in
theorem does_bytes (b : Nat) (A : Int) (s : ByteArray) (v : Value) (w : World) (hv : Vls w v []) :
    Calls Tryz.prog 65 #[.pointer (some ⟨b, 0, none⟩), .agg #[.int .i64 2, .int .i64 A, .string s], v] w (Gives w [.text s]) := by
  clear hv
  have H1 : Hold w (fun _ => True ∧ True) (w.alloc (Obj.cells #[.int .i64 2, .int .i64 A, .string s] 43)) := ⟨alloc1 w _, fun _ _ _ h => h, trivial, trivial⟩
  go_enter Tryz.func65, Tryz.ntmps65
  go_wp2_with fail
  generalize w.alloc (Obj.cells #[.int .i64 2, .int .i64 A, .string s] 43) = W at H1 ⊢
  refine (text_calls s _).mono ?_
  rintro e w5 ⟨rfl, hb5⟩
  have H5 := H1.on hb5
  go_wp2
  go_ret2
  have HL := H5
  exact ⟨_, rfl, Reads.made encV_len (by decide) 57 [.text s] _ (by simp), (HL.on (alloc1 _ _)).below⟩

set_option maxHeartbeats 2000000 in
set_option maxRecDepth 100000 in
theorem does_add (b : Nat) (A : Int) (s : ByteArray) (v : Value) (x y : Int) (w : World) (hv : Vls w v [.num x, .num y]) :
    Calls Tryz.prog 65 #[.pointer (some ⟨b, 0, none⟩), .agg #[.int .i64 8, .int .i64 A, .string s], v] w (Gives w [.num (wrap64 (x + y))]) := by
  obtain ⟨g, off, cap, rfl, h2, hlt, hc⟩ := hv.lie (by simp)
  have c0 : w.cell? ⟨g, off + 1, none⟩ = some (.int .i64 x) := by simpa using hc 0 _ rfl 1 _ rfl
  have c1 : w.cell? ⟨g, off + 3 + 1, none⟩ = some (.int .i64 y) := by simpa using hc 1 _ rfl 1 _ rfl
  have H0 : Hold w (fun w' => g < w'.heap.size ∧ w'.cell? ⟨g, off + 1, none⟩ = some (.int .i64 x) ∧ w'.cell? ⟨g, off + 3 + 1, none⟩ = some (.int .i64 y)) w :=
    ⟨Below.refl _ _, fun w1 w2 hb h => ⟨Nat.lt_of_lt_of_le h.1 hb.size, stays_cell hb h.1 h.2.1, stays_cell hb h.1 h.2.2⟩, hlt, c0, c1⟩
  have H1 := H0.on (alloc1 w (Obj.cells #[.int .i64 8, .int .i64 A, .string s] 43))
  clear hc hv H0 c0 c1
  simp only [List.length_cons, List.length_nil, Nat.zero_add, Nat.reduceAdd] at h2
  go_enter Tryz.func65, Tryz.ntmps65
  go_wp2_with fail
  generalize w.alloc (Obj.cells #[.int .i64 8, .int .i64 A, .string s] 43) = W at H1 ⊢
  have H2 := H1.on (drew1 W)
  clear H1
  go_region_held3 (fun w' => w'.cell? ⟨g, off + 1, none⟩ = some (.int .i64 x) ∧ w'.cell? ⟨g, off + 3 + 1, none⟩ = some (.int .i64 y)) (first | exact H5.out.2 | exact (H5.on (alloc1 _ _)).out.2 | exact H2.out.2 | exact (H2.on (alloc1 _ _)).out.2)
    (first | (go_at_call 75; refine (num_calls _ _).mono ?_; rintro e w5 ⟨rfl, hb5⟩; have H5 := Hold.on (by assumption) hb5))
  go_wp2
  go_ret2
  have HL := H5
  rw [← wrapI]
  exact ⟨_, rfl, Reads.made encV_len (by decide) 57 [.num (IntKind.i64.wrap (x + y))] _ (by simp), (HL.on (alloc1 _ _)).below⟩

set_option maxHeartbeats 2000000 in
set_option maxRecDepth 100000 in
theorem does_sub (b : Nat) (A : Int) (s : ByteArray) (v : Value) (x y : Int) (w : World) (hv : Vls w v [.num x, .num y]) :
    Calls Tryz.prog 65 #[.pointer (some ⟨b, 0, none⟩), .agg #[.int .i64 9, .int .i64 A, .string s], v] w (Gives w [.num (wrap64 (x - y))]) := by
  obtain ⟨g, off, cap, rfl, h2, hlt, hc⟩ := hv.lie (by simp)
  have c0 : w.cell? ⟨g, off + 1, none⟩ = some (.int .i64 x) := by simpa using hc 0 _ rfl 1 _ rfl
  have c1 : w.cell? ⟨g, off + 3 + 1, none⟩ = some (.int .i64 y) := by simpa using hc 1 _ rfl 1 _ rfl
  have H0 : Hold w (fun w' => g < w'.heap.size ∧ w'.cell? ⟨g, off + 1, none⟩ = some (.int .i64 x) ∧ w'.cell? ⟨g, off + 3 + 1, none⟩ = some (.int .i64 y)) w :=
    ⟨Below.refl _ _, fun w1 w2 hb h => ⟨Nat.lt_of_lt_of_le h.1 hb.size, stays_cell hb h.1 h.2.1, stays_cell hb h.1 h.2.2⟩, hlt, c0, c1⟩
  have H1 := H0.on (alloc1 w (Obj.cells #[.int .i64 9, .int .i64 A, .string s] 43))
  clear hc hv H0 c0 c1
  simp only [List.length_cons, List.length_nil, Nat.zero_add, Nat.reduceAdd] at h2
  go_enter Tryz.func65, Tryz.ntmps65
  go_wp2_with fail
  generalize w.alloc (Obj.cells #[.int .i64 9, .int .i64 A, .string s] 43) = W at H1 ⊢
  have H2 := H1.on (drew1 W)
  clear H1
  go_region_held3 (fun w' => w'.cell? ⟨g, off + 1, none⟩ = some (.int .i64 x) ∧ w'.cell? ⟨g, off + 3 + 1, none⟩ = some (.int .i64 y)) (first | exact H5.out.2 | exact (H5.on (alloc1 _ _)).out.2 | exact H2.out.2 | exact (H2.on (alloc1 _ _)).out.2)
    (first | (go_at_call 75; refine (num_calls _ _).mono ?_; rintro e w5 ⟨rfl, hb5⟩; have H5 := Hold.on (by assumption) hb5))
  go_wp2
  go_ret2
  have HL := H5
  rw [← wrapI]
  exact ⟨_, rfl, Reads.made encV_len (by decide) 57 [.num (IntKind.i64.wrap (x - y))] _ (by simp), (HL.on (alloc1 _ _)).below⟩

set_option maxHeartbeats 2000000 in
set_option maxRecDepth 100000 in
theorem does_mul (b : Nat) (A : Int) (s : ByteArray) (v : Value) (x y : Int) (w : World) (hv : Vls w v [.num x, .num y]) :
    Calls Tryz.prog 65 #[.pointer (some ⟨b, 0, none⟩), .agg #[.int .i64 10, .int .i64 A, .string s], v] w (Gives w [.num (wrap64 (x * y))]) := by
  obtain ⟨g, off, cap, rfl, h2, hlt, hc⟩ := hv.lie (by simp)
  have c0 : w.cell? ⟨g, off + 1, none⟩ = some (.int .i64 x) := by simpa using hc 0 _ rfl 1 _ rfl
  have c1 : w.cell? ⟨g, off + 3 + 1, none⟩ = some (.int .i64 y) := by simpa using hc 1 _ rfl 1 _ rfl
  have H0 : Hold w (fun w' => g < w'.heap.size ∧ w'.cell? ⟨g, off + 1, none⟩ = some (.int .i64 x) ∧ w'.cell? ⟨g, off + 3 + 1, none⟩ = some (.int .i64 y)) w :=
    ⟨Below.refl _ _, fun w1 w2 hb h => ⟨Nat.lt_of_lt_of_le h.1 hb.size, stays_cell hb h.1 h.2.1, stays_cell hb h.1 h.2.2⟩, hlt, c0, c1⟩
  have H1 := H0.on (alloc1 w (Obj.cells #[.int .i64 10, .int .i64 A, .string s] 43))
  clear hc hv H0 c0 c1
  simp only [List.length_cons, List.length_nil, Nat.zero_add, Nat.reduceAdd] at h2
  go_enter Tryz.func65, Tryz.ntmps65
  go_wp2_with fail
  generalize w.alloc (Obj.cells #[.int .i64 10, .int .i64 A, .string s] 43) = W at H1 ⊢
  have H2 := H1.on (drew1 W)
  clear H1
  go_region_held3 (fun w' => w'.cell? ⟨g, off + 1, none⟩ = some (.int .i64 x) ∧ w'.cell? ⟨g, off + 3 + 1, none⟩ = some (.int .i64 y)) (first | exact H5.out.2 | exact (H5.on (alloc1 _ _)).out.2 | exact H2.out.2 | exact (H2.on (alloc1 _ _)).out.2)
    (first | (go_at_call 75; refine (num_calls _ _).mono ?_; rintro e w5 ⟨rfl, hb5⟩; have H5 := Hold.on (by assumption) hb5))
  go_wp2
  go_ret2
  have HL := H5
  rw [← wrapI]
  exact ⟨_, rfl, Reads.made encV_len (by decide) 57 [.num (IntKind.i64.wrap (x * y))] _ (by simp), (HL.on (alloc1 _ _)).below⟩

theorem flag1_calls (w : World) : Calls Tryz.prog 77 #[.bool true] w fun e w' => e = .returned (vV (.num 1)) ∧ Below w.heap.size w w' := flag_calls true w
theorem flag0_calls (w : World) : Calls Tryz.prog 77 #[.bool false] w fun e w' => e = .returned (vV (.num 0)) ∧ Below w.heap.size w w' := flag_calls false w

set_option maxHeartbeats 2000000 in
set_option maxRecDepth 100000 in
theorem does_less1 (b : Nat) (A : Int) (s : ByteArray) (v : Value) (x y : Int) (w : World) (hv : Vls w v [.num x, .num y]) (hd : decide (x < y) = true) :
    Calls Tryz.prog 65 #[.pointer (some ⟨b, 0, none⟩), .agg #[.int .i64 11, .int .i64 A, .string s], v] w (Gives w [.num 1]) := by
  obtain ⟨g, off, cap, rfl, h2, hlt, hc⟩ := hv.lie (by simp)
  have c0 : w.cell? ⟨g, off + 1, none⟩ = some (.int .i64 x) := by simpa using hc 0 _ rfl 1 _ rfl
  have c1 : w.cell? ⟨g, off + 3 + 1, none⟩ = some (.int .i64 y) := by simpa using hc 1 _ rfl 1 _ rfl
  have H0 : Hold w (fun w' => g < w'.heap.size ∧ w'.cell? ⟨g, off + 1, none⟩ = some (.int .i64 x) ∧ w'.cell? ⟨g, off + 3 + 1, none⟩ = some (.int .i64 y)) w :=
    ⟨Below.refl _ _, fun w1 w2 hb h => ⟨Nat.lt_of_lt_of_le h.1 hb.size, stays_cell hb h.1 h.2.1, stays_cell hb h.1 h.2.2⟩, hlt, c0, c1⟩
  have H1 := H0.on (alloc1 w (Obj.cells #[.int .i64 11, .int .i64 A, .string s] 43))
  clear hc hv H0 c0 c1
  simp only [List.length_cons, List.length_nil, Nat.zero_add, Nat.reduceAdd] at h2
  go_enter Tryz.func65, Tryz.ntmps65
  go_wp2_with fail
  generalize w.alloc (Obj.cells #[.int .i64 11, .int .i64 A, .string s] 43) = W at H1 ⊢
  have H2 := H1.on (drew1 W)
  clear H1
  go_region_held3 (fun w' => w'.cell? ⟨g, off + 1, none⟩ = some (.int .i64 x) ∧ w'.cell? ⟨g, off + 3 + 1, none⟩ = some (.int .i64 y)) (first | exact H5.out.2 | exact (H5.on (alloc1 _ _)).out.2 | exact H2.out.2 | exact (H2.on (alloc1 _ _)).out.2)
    (first | (go_at_call 77; refine (flag1_calls _).mono ?_; rintro e w5 ⟨rfl, hb5⟩; have H5 := Hold.on (by assumption) hb5))
  go_wp2
  go_ret2
  have HL := H5
  exact ⟨_, rfl, Reads.made encV_len (by decide) 57 [.num 1] _ (by simp), (HL.on (alloc1 _ _)).below⟩

set_option maxHeartbeats 2000000 in
set_option maxRecDepth 100000 in
theorem does_less0 (b : Nat) (A : Int) (s : ByteArray) (v : Value) (x y : Int) (w : World) (hv : Vls w v [.num x, .num y]) (hd : decide (x < y) = false) :
    Calls Tryz.prog 65 #[.pointer (some ⟨b, 0, none⟩), .agg #[.int .i64 11, .int .i64 A, .string s], v] w (Gives w [.num 0]) := by
  obtain ⟨g, off, cap, rfl, h2, hlt, hc⟩ := hv.lie (by simp)
  have c0 : w.cell? ⟨g, off + 1, none⟩ = some (.int .i64 x) := by simpa using hc 0 _ rfl 1 _ rfl
  have c1 : w.cell? ⟨g, off + 3 + 1, none⟩ = some (.int .i64 y) := by simpa using hc 1 _ rfl 1 _ rfl
  have H0 : Hold w (fun w' => g < w'.heap.size ∧ w'.cell? ⟨g, off + 1, none⟩ = some (.int .i64 x) ∧ w'.cell? ⟨g, off + 3 + 1, none⟩ = some (.int .i64 y)) w :=
    ⟨Below.refl _ _, fun w1 w2 hb h => ⟨Nat.lt_of_lt_of_le h.1 hb.size, stays_cell hb h.1 h.2.1, stays_cell hb h.1 h.2.2⟩, hlt, c0, c1⟩
  have H1 := H0.on (alloc1 w (Obj.cells #[.int .i64 11, .int .i64 A, .string s] 43))
  clear hc hv H0 c0 c1
  simp only [List.length_cons, List.length_nil, Nat.zero_add, Nat.reduceAdd] at h2
  go_enter Tryz.func65, Tryz.ntmps65
  go_wp2_with fail
  generalize w.alloc (Obj.cells #[.int .i64 11, .int .i64 A, .string s] 43) = W at H1 ⊢
  have H2 := H1.on (drew1 W)
  clear H1
  go_region_held3 (fun w' => w'.cell? ⟨g, off + 1, none⟩ = some (.int .i64 x) ∧ w'.cell? ⟨g, off + 3 + 1, none⟩ = some (.int .i64 y)) (first | exact H5.out.2 | exact (H5.on (alloc1 _ _)).out.2 | exact H2.out.2 | exact (H2.on (alloc1 _ _)).out.2)
    (first | (go_at_call 77; refine (flag0_calls _).mono ?_; rintro e w5 ⟨rfl, hb5⟩; have H5 := Hold.on (by assumption) hb5))
  go_wp2
  go_ret2
  have HL := H5
  exact ⟨_, rfl, Reads.made encV_len (by decide) 57 [.num 0] _ (by simp), (HL.on (alloc1 _ _)).below⟩

set_option maxHeartbeats 2000000 in
set_option maxRecDepth 100000 in
theorem does_len (b : Nat) (A : Int) (s : ByteArray) (v : Value) (x : ByteArray) (w : World) (hv : Vls w v [.text x]) (hx : x.size ≤ 64) :
    Calls Tryz.prog 65 #[.pointer (some ⟨b, 0, none⟩), .agg #[.int .i64 14, .int .i64 A, .string s], v] w (Gives w [.num x.size]) := by
  obtain ⟨g, off, cap, rfl, h2, hlt, hc⟩ := hv.lie (by simp)
  have c0 : w.cell? ⟨g, off + 2, none⟩ = some (.string x) := by simpa using hc 0 _ rfl 2 _ rfl
  have H0 : Hold w (fun w' => g < w'.heap.size ∧ w'.cell? ⟨g, off + 2, none⟩ = some (.string x)) w :=
    ⟨Below.refl _ _, fun w1 w2 hb h => ⟨Nat.lt_of_lt_of_le h.1 hb.size, stays_cell hb h.1 h.2⟩, hlt, c0⟩
  have H1 := H0.on (alloc1 w (Obj.cells #[.int .i64 14, .int .i64 A, .string s] 43))
  clear hc hv H0 c0
  simp only [List.length_cons, List.length_nil, Nat.zero_add] at h2
  have d0 : (w.alloc (Obj.cells #[.int .i64 14, .int .i64 A, .string s] 43)).cell? ⟨g, off + 2, none⟩ = some (.string x) := H1.out.2
  go_enter Tryz.func65, Tryz.ntmps65
  go_wp2_with fail
  clear d0
  generalize w.alloc (Obj.cells #[.int .i64 14, .int .i64 A, .string s] 43) = W at H1 ⊢
  refine (num_calls (x.size : Int) _).mono ?_
  rintro e w5 ⟨rfl, hb5⟩
  have H5 := H1.on hb5
  go_wp2
  go_ret2
  have HL := H5
  exact ⟨_, rfl, Reads.made encV_len (by decide) 57 [.num x.size] _ (by simp), (HL.on (alloc1 _ _)).below⟩

set_option maxHeartbeats 2000000 in
set_option maxRecDepth 100000 in
theorem does_at (b : Nat) (A : Int) (s : ByteArray) (v : Value) (x : ByteArray) (y : Int) (w : World) (hv : Vls w v [.text x, .num y]) (hx : x.size ≤ 9223372036854775807) :
    Calls Tryz.prog 65 #[.pointer (some ⟨b, 0, none⟩), .agg #[.int .i64 15, .int .i64 A, .string s], v] w (Gives w [.num (atV x y)]) := by
  obtain ⟨g, off, cap, rfl, h2, hlt, hc⟩ := hv.lie (by simp)
  have c0 : w.cell? ⟨g, off + 2, none⟩ = some (.string x) := by simpa using hc 0 _ rfl 2 _ rfl
  have c1 : w.cell? ⟨g, off + 3 + 1, none⟩ = some (.int .i64 y) := by simpa using hc 1 _ rfl 1 _ rfl
  have H0 : Hold w (fun w' => g < w'.heap.size ∧ w'.cell? ⟨g, off + 2, none⟩ = some (.string x) ∧ w'.cell? ⟨g, off + 3 + 1, none⟩ = some (.int .i64 y)) w :=
    ⟨Below.refl _ _, fun w1 w2 hb h => ⟨Nat.lt_of_lt_of_le h.1 hb.size, stays_cell hb h.1 h.2.1, stays_cell hb h.1 h.2.2⟩, hlt, c0, c1⟩
  have H1 := H0.on (alloc1 w (Obj.cells #[.int .i64 15, .int .i64 A, .string s] 43))
  clear hc hv H0 c0 c1
  simp only [List.length_cons, List.length_nil, Nat.zero_add, Nat.reduceAdd] at h2
  go_enter Tryz.func65, Tryz.ntmps65
  go_wp2_with fail
  generalize w.alloc (Obj.cells #[.int .i64 15, .int .i64 A, .string s] 43) = W at H1 ⊢
  have H2 := H1.on (drew1 W)
  clear H1
  go_region_held3 (fun w' => w'.cell? ⟨g, off + 2, none⟩ = some (.string x) ∧ w'.cell? ⟨g, off + 3 + 1, none⟩ = some (.int .i64 y)) (first | exact H6.out.2 | exact (H6.on (alloc1 _ _)).out.2 | exact H5.out.2 | exact (H5.on (alloc1 _ _)).out.2 | exact H2.out.2 | exact (H2.on (alloc1 _ _)).out.2)
    (first | (go_at_call 79; refine (staitheref4_At_calls _ _ hx _).mono ?_; rintro e w5 ⟨rfl, rfl⟩) | (go_at_call 75; refine (num_calls _ _).mono ?_; rintro e w6 ⟨rfl, hb6⟩; have H6 := Hold.on (by assumption) hb6))
  go_wp2
  go_ret2
  have HL := H6
  exact ⟨_, rfl, Reads.made encV_len (by decide) 57 [.num (atV x y)] _ (by simp), (HL.on (alloc1 _ _)).below⟩

set_option maxHeartbeats 2000000 in
set_option maxRecDepth 100000 in
theorem does_cut (b : Nat) (A : Int) (s : ByteArray) (v : Value) (x : ByteArray) (y z : Int) (w : World) (hv : Vls w v [.text x, .num y, .num z]) (hx : x.size ≤ 9223372036854775807) :
    Calls Tryz.prog 65 #[.pointer (some ⟨b, 0, none⟩), .agg #[.int .i64 16, .int .i64 A, .string s], v] w (Gives w [.text (cutV x y z)]) := by
  obtain ⟨g, off, cap, rfl, h2, hlt, hc⟩ := hv.lie (by simp)
  have c0 : w.cell? ⟨g, off + 2, none⟩ = some (.string x) := by simpa using hc 0 _ rfl 2 _ rfl
  have c1 : w.cell? ⟨g, off + 3 + 1, none⟩ = some (.int .i64 y) := by simpa using hc 1 _ rfl 1 _ rfl
  have c2 : w.cell? ⟨g, off + 6 + 1, none⟩ = some (.int .i64 z) := by simpa using hc 2 _ rfl 1 _ rfl
  have H0 : Hold w (fun w' => g < w'.heap.size ∧ w'.cell? ⟨g, off + 2, none⟩ = some (.string x) ∧ w'.cell? ⟨g, off + 3 + 1, none⟩ = some (.int .i64 y) ∧ w'.cell? ⟨g, off + 6 + 1, none⟩ = some (.int .i64 z)) w :=
    ⟨Below.refl _ _, fun w1 w2 hb h => ⟨Nat.lt_of_lt_of_le h.1 hb.size, stays_cell hb h.1 h.2.1, stays_cell hb h.1 h.2.2.1, stays_cell hb h.1 h.2.2.2⟩, hlt, c0, c1, c2⟩
  have H1 := H0.on (alloc1 w (Obj.cells #[.int .i64 16, .int .i64 A, .string s] 43))
  clear hc hv H0 c0 c1 c2
  simp only [List.length_cons, List.length_nil, Nat.zero_add, Nat.reduceAdd] at h2
  go_enter Tryz.func65, Tryz.ntmps65
  go_wp2_with fail
  generalize w.alloc (Obj.cells #[.int .i64 16, .int .i64 A, .string s] 43) = W at H1 ⊢
  have H2 := H1.on (drew1 W)
  clear H1
  go_region_held3 (fun w' => w'.cell? ⟨g, off + 2, none⟩ = some (.string x) ∧ w'.cell? ⟨g, off + 3 + 1, none⟩ = some (.int .i64 y) ∧ w'.cell? ⟨g, off + 6 + 1, none⟩ = some (.int .i64 z)) (first | exact H6.out.2 | exact (H6.on (alloc1 _ _)).out.2 | exact H5.out.2 | exact (H5.on (alloc1 _ _)).out.2 | exact H2.out.2 | exact (H2.on (alloc1 _ _)).out.2)
    (first | (go_at_call 80; refine (staitheref4_Cut_calls _ _ _ hx _).mono ?_; rintro e w5 ⟨rfl, rfl⟩) | (go_at_call 76; refine (text_calls _ _).mono ?_; rintro e w6 ⟨rfl, hb6⟩; have H6 := Hold.on (by assumption) hb6))
  go_wp2
  go_ret2
  have HL := H6
  exact ⟨_, rfl, Reads.made encV_len (by decide) 57 [.text (cutV x y z)] _ (by simp), (HL.on (alloc1 _ _)).below⟩

set_option maxHeartbeats 2000000 in
set_option maxRecDepth 100000 in
theorem does_text (b : Nat) (A : Int) (s : ByteArray) (v : Value) (x : Int) (w : World) (hv : Vls w v [.num x]) (hx : I64 x) :
    Calls Tryz.prog 65 #[.pointer (some ⟨b, 0, none⟩), .agg #[.int .i64 17, .int .i64 A, .string s], v] w (Gives w [.text (txt (itoa x))]) := by
  obtain ⟨g, off, cap, rfl, h2, hlt, hc⟩ := hv.lie (by simp)
  have c0 : w.cell? ⟨g, off + 1, none⟩ = some (.int .i64 x) := by simpa using hc 0 _ rfl 1 _ rfl
  have H0 : Hold w (fun w' => g < w'.heap.size ∧ w'.cell? ⟨g, off + 1, none⟩ = some (.int .i64 x)) w :=
    ⟨Below.refl _ _, fun w1 w2 hb h => ⟨Nat.lt_of_lt_of_le h.1 hb.size, stays_cell hb h.1 h.2⟩, hlt, c0⟩
  have H1 := H0.on (alloc1 w (Obj.cells #[.int .i64 17, .int .i64 A, .string s] 43))
  clear hc hv H0 c0
  simp only [List.length_cons, List.length_nil, Nat.zero_add] at h2
  have d0 : (w.alloc (Obj.cells #[.int .i64 17, .int .i64 A, .string s] 43)).cell? ⟨g, off + 1, none⟩ = some (.int .i64 x) := H1.out.2
  go_enter Tryz.func65, Tryz.ntmps65
  go_wp2_with fail
  clear d0
  generalize w.alloc (Obj.cells #[.int .i64 17, .int .i64 A, .string s] 43) = W at H1 ⊢
  refine (ref_digits_calls x hx _).mono ?_
  rintro e w5 ⟨rfl, rfl⟩
  go_wp2_with fail
  refine (text_calls _ _).mono ?_
  rintro e w6 ⟨rfl, hb6⟩
  have H6 := H1.on hb6
  go_wp2
  go_ret2
  have HL := H6
  exact ⟨_, rfl, Reads.made encV_len (by decide) 57 [.text (txt (itoa x))] _ (by simp), (HL.on (alloc1 _ _)).below⟩

set_option maxHeartbeats 2000000 in
set_option maxRecDepth 100000 in
theorem does_number (b : Nat) (A : Int) (s : ByteArray) (v : Value) (x : ByteArray) (w : World) (hv : Vls w v [.text x]) (hx : x.size ≤ 9223372036854775807) :
    Calls Tryz.prog 65 #[.pointer (some ⟨b, 0, none⟩), .agg #[.int .i64 18, .int .i64 A, .string s], v] w (Gives w [.num (vNum x.data.toList)]) := by
  obtain ⟨g, off, cap, rfl, h2, hlt, hc⟩ := hv.lie (by simp)
  have c0 : w.cell? ⟨g, off + 2, none⟩ = some (.string x) := by simpa using hc 0 _ rfl 2 _ rfl
  have H0 : Hold w (fun w' => g < w'.heap.size ∧ w'.cell? ⟨g, off + 2, none⟩ = some (.string x)) w :=
    ⟨Below.refl _ _, fun w1 w2 hb h => ⟨Nat.lt_of_lt_of_le h.1 hb.size, stays_cell hb h.1 h.2⟩, hlt, c0⟩
  have H1 := H0.on (alloc1 w (Obj.cells #[.int .i64 18, .int .i64 A, .string s] 43))
  clear hc hv H0 c0
  simp only [List.length_cons, List.length_nil, Nat.zero_add] at h2
  have d0 : (w.alloc (Obj.cells #[.int .i64 18, .int .i64 A, .string s] 43)).cell? ⟨g, off + 2, none⟩ = some (.string x) := H1.out.2
  go_enter Tryz.func65, Tryz.ntmps65
  go_wp2_with fail
  clear d0
  generalize w.alloc (Obj.cells #[.int .i64 18, .int .i64 A, .string s] 43) = W at H1 ⊢
  refine (ref_number_calls x hx _).mono ?_
  rintro e w5 ⟨rfl, rfl⟩
  go_wp2_with fail
  refine (num_calls _ _).mono ?_
  rintro e w6 ⟨rfl, hb6⟩
  have H6 := H1.on hb6
  go_wp2
  go_ret2
  have HL := H6
  exact ⟨_, rfl, Reads.made encV_len (by decide) 57 [.num (vNum x.data.toList)] _ (by simp), (HL.on (alloc1 _ _)).below⟩

set_option maxHeartbeats 2000000 in
set_option maxRecDepth 100000 in
theorem does_cat (b : Nat) (A : Int) (s : ByteArray) (v : Value) (x y : ByteArray) (w : World) (hv : Vls w v [.text x, .text y]) (hx : x.size ≤ 64) (hy : y.size ≤ 64) :
    Calls Tryz.prog 65 #[.pointer (some ⟨b, 0, none⟩), .agg #[.int .i64 13, .int .i64 A, .string s], v] w (Gives w [.text (x ++ y)]) := by
  obtain ⟨g, off, cap, rfl, h2, hlt, hc⟩ := hv.lie (by simp)
  have c0 : w.cell? ⟨g, off + 2, none⟩ = some (.string x) := by simpa using hc 0 _ rfl 2 _ rfl
  have c1 : w.cell? ⟨g, off + 3 + 2, none⟩ = some (.string y) := by simpa using hc 1 _ rfl 2 _ rfl
  have H0 : Hold w (fun w' => g < w'.heap.size ∧ w'.cell? ⟨g, off + 2, none⟩ = some (.string x) ∧ w'.cell? ⟨g, off + 3 + 2, none⟩ = some (.string y)) w :=
    ⟨Below.refl _ _, fun w1 w2 hb h => ⟨Nat.lt_of_lt_of_le h.1 hb.size, stays_cell hb h.1 h.2.1, stays_cell hb h.1 h.2.2⟩, hlt, c0, c1⟩
  have H1 := H0.on (alloc1 w (Obj.cells #[.int .i64 13, .int .i64 A, .string s] 43))
  clear hc hv H0 c0 c1
  simp only [List.length_cons, List.length_nil, Nat.zero_add, Nat.reduceAdd] at h2
  have hcat : ¬ 9223372036854775807 < x.size + y.size := by omega
  go_enter Tryz.func65, Tryz.ntmps65
  go_wp2_with fail
  generalize w.alloc (Obj.cells #[.int .i64 13, .int .i64 A, .string s] 43) = W at H1 ⊢
  have H2 := H1.on (drew1 W)
  clear H1
  go_region_held3 (fun w' => w'.cell? ⟨g, off + 2, none⟩ = some (.string x) ∧ w'.cell? ⟨g, off + 3 + 2, none⟩ = some (.string y)) (first | exact H5.out.2 | exact (H5.on (alloc1 _ _)).out.2 | exact H2.out.2 | exact (H2.on (alloc1 _ _)).out.2)
    (first | (go_at_call 76; refine (text_calls _ _).mono ?_; rintro e w5 ⟨rfl, hb5⟩; have H5 := Hold.on (by assumption) hb5))
  go_wp2
  go_ret2
  have HL := H5
  exact ⟨_, rfl, Reads.made encV_len (by decide) 57 [.text (x ++ y)] _ (by simp), (HL.on (alloc1 _ _)).below⟩
end Go.Proofs.YtpggfdnpbipckaaGreatDoor
/-! The machine of chapter 6's own answer in memory: its block, its stack's row, its pairs' row. -/
namespace Go.Proofs.YtpggfdnpbipckaaGreatDoor
open Go.RowKit Go.Lib
set_option linter.unusedVariables false
set_option maxRecDepth 100000

/-- The machine's own cells. -/
structure Cells (key : ByteArray) (vv vs vt : Value) (m : St) (cs : Array Value) : Prop where
  size : cs.size = 29
  s : cs[0]? = some vs
  r : ∀ k, k < 8 → ∀ i u, (encV (m.regs.getD k (.num 0)))[i]? = some u → cs[1 + k * 3 + i]? = some u
  k : cs[25]? = some (.string key)
  v : cs[26]? = some vv
  t : cs[27]? = some (.int .i64 m.taken)
  p : cs[28]? = some vt
/-- The machine m lies at block b of the world w, which has come from w0: only blocks that are new since have turned. -/
structure Mac (w0 : World) (b : Nat) (key : ByteArray) (vv vs vt : Value) (m : St) (w : World) : Prop where
  bel : Below w0.heap.size w0 w
  base : w0.heap.size ≤ b
  blk : ∃ cs, w.heap[b]? = some (.cells cs 69 (0, 0)) ∧ Cells key vv vs vt m cs
  st : w.ownsRow w0.heap.size 57 3 vs m.stack.length (fl encV m.stack.reverse)
  tl : w.ownsRow w0.heap.size 41 2 vt m.told.length (fl encP m.told)

section
variable {w0 : World} {b : Nat} {key : ByteArray} {vv vs vt : Value} {m : St} {w : World}
theorem Mac.on (h : Mac w0 b key vv vs vt m w) {w' : World} (hb : Below w.heap.size w w') : Mac w0 b key vv vs vt m w' := by
  obtain ⟨cs, hc, hC⟩ := h.blk
  exact ⟨below_then h.bel hb h.bel.size, h.base, ⟨cs, (hb.block b (Array.getElem?_eq_some_iff.1 hc).1).trans hc, hC⟩, owns_below h.st hb, owns_below h.tl hb⟩
theorem Mac.lt (h : Mac w0 b key vv vs vt m w) : b < w.heap.size := by
  obtain ⟨cs, hc, _⟩ := h.blk
  exact (Array.getElem?_eq_some_iff.1 hc).1
theorem Mac.cS (h : Mac w0 b key vv vs vt m w) : w.cell? ⟨b, 0, none⟩ = some vs := by obtain ⟨cs, hc, hC⟩ := h.blk; rw [cell_of_cells hc]; exact hC.s
theorem Mac.cK (h : Mac w0 b key vv vs vt m w) : w.cell? ⟨b, 25, none⟩ = some (.string key) := by obtain ⟨cs, hc, hC⟩ := h.blk; rw [cell_of_cells hc]; exact hC.k
theorem Mac.cV (h : Mac w0 b key vv vs vt m w) : w.cell? ⟨b, 26, none⟩ = some vv := by obtain ⟨cs, hc, hC⟩ := h.blk; rw [cell_of_cells hc]; exact hC.v
theorem Mac.cT (h : Mac w0 b key vv vs vt m w) : w.cell? ⟨b, 27, none⟩ = some (.int .i64 m.taken) := by obtain ⟨cs, hc, hC⟩ := h.blk; rw [cell_of_cells hc]; exact hC.t
theorem Mac.cP (h : Mac w0 b key vv vs vt m w) : w.cell? ⟨b, 28, none⟩ = some vt := by obtain ⟨cs, hc, hC⟩ := h.blk; rw [cell_of_cells hc]; exact hC.p
theorem Mac.cR (h : Mac w0 b key vv vs vt m w) {k : Nat} (hk : k < 8) {i : Nat} {u : Value} (hu : (encV (m.regs.getD k (.num 0)))[i]? = some u) : w.cell? ⟨b, 1 + k * 3 + i, none⟩ = some u := by obtain ⟨cs, hc, hC⟩ := h.blk; rw [cell_of_cells hc]; exact hC.r k hk i u hu
theorem Mac.free (h : Mac w0 b key vv vs vt m w) (i : Nat) : w.frozen? ⟨b, i, none⟩ = false := by obtain ⟨cs, hc, _⟩ := h.blk; exact free_of_cells hc

/-- One of the machine's cells is written: what its rows hold stays. -/
theorem Mac.set (h : Mac w0 b key vv vs vt m w) (i : Nat) (u : Value) {m' : St} {vs' vt' : Value} (hm1 : m'.stack = m.stack) (hm2 : m'.told = m.told) (hs : vs' = vs) (ht : vt' = vt)
    (hC : ∀ cs, Cells key vv vs vt m cs → Cells key vv vs vt m' (cs.setIfInBounds i u)) : Mac w0 b key vv vs' vt' m' (w.setCell ⟨b, i, none⟩ u) := by
  subst hs ht
  obtain ⟨cs, hc, hCs⟩ := h.blk
  exact ⟨below_set h.bel h.base i u, h.base, ⟨_, set_block hc i u, hC cs hCs⟩, by rw [hm1]; exact owns_set h.st hc (by decide) i u, by rw [hm2]; exact owns_set h.tl hc (by decide) i u⟩
theorem Mac.taken (h : Mac w0 b key vv vs vt m w) (n : Nat) : Mac w0 b key vv vs vt { m with taken := n } (w.setCell ⟨b, 27, none⟩ (.int .i64 n)) :=
  h.set 27 _ rfl rfl rfl rfl fun cs hC => ⟨by simpa using hC.size, by rw [Array.getElem?_setIfInBounds_ne (by omega)]; exact hC.s, fun k hk i u hu => by
    have hi : i < 3 := by have := (List.getElem?_eq_some_iff.1 hu).1; rw [encV_len] at this; exact this
    rw [Array.getElem?_setIfInBounds_ne (by omega)]; exact hC.r k hk i u hu, by rw [Array.getElem?_setIfInBounds_ne (by omega)]; exact hC.k, by rw [Array.getElem?_setIfInBounds_ne (by omega)]; exact hC.v, by rw [set_self (by rw [hC.size]; omega)], by rw [Array.getElem?_setIfInBounds_ne (by omega)]; exact hC.p⟩
/-- The stack's slice is written anew. -/
theorem Mac.stack (h : Mac w0 b key vv vs vt m w) {vs' : Value} {l : List Val} (ho : w.ownsRow w0.heap.size 57 3 vs' l.length (fl encV l.reverse)) : Mac w0 b key vv vs' vt { m with stack := l } (w.setCell ⟨b, 0, none⟩ vs') := by
  obtain ⟨cs, hc, hC⟩ := h.blk
  refine ⟨below_set h.bel h.base 0 vs', h.base, ⟨_, set_block hc 0 vs', ?_⟩, owns_set ho hc (by decide) 0 vs', owns_set h.tl hc (by decide) 0 vs'⟩
  exact ⟨by simpa using hC.size, by rw [set_self (by rw [hC.size]; omega)], fun k hk i u hu => by
    rw [Array.getElem?_setIfInBounds_ne (by omega)]; exact hC.r k hk i u hu, by rw [Array.getElem?_setIfInBounds_ne (by omega)]; exact hC.k, by rw [Array.getElem?_setIfInBounds_ne (by omega)]; exact hC.v, by rw [Array.getElem?_setIfInBounds_ne (by omega)]; exact hC.t, by rw [Array.getElem?_setIfInBounds_ne (by omega)]; exact hC.p⟩
/-- The pairs' slice is written anew. -/
theorem Mac.tells (h : Mac w0 b key vv vs vt m w) {vt' : Value} {l : List Pr} (ho : w.ownsRow w0.heap.size 41 2 vt' l.length (fl encP l)) : Mac w0 b key vv vs vt' { m with told := l } (w.setCell ⟨b, 28, none⟩ vt') := by
  obtain ⟨cs, hc, hC⟩ := h.blk
  refine ⟨below_set h.bel h.base 28 vt', h.base, ⟨_, set_block hc 28 vt', ?_⟩, owns_set h.st hc (by decide) 28 vt', owns_set ho hc (by decide) 28 vt'⟩
  exact ⟨by simpa using hC.size, by rw [Array.getElem?_setIfInBounds_ne (by omega)]; exact hC.s, fun k hk i u hu => by
    have hi : i < 3 := by have := (List.getElem?_eq_some_iff.1 hu).1; rw [encV_len] at this; exact this
    rw [Array.getElem?_setIfInBounds_ne (by omega)]; exact hC.r k hk i u hu, by rw [Array.getElem?_setIfInBounds_ne (by omega)]; exact hC.k, by rw [Array.getElem?_setIfInBounds_ne (by omega)]; exact hC.v, by rw [Array.getElem?_setIfInBounds_ne (by omega)]; exact hC.t, by rw [set_self (by rw [hC.size]; omega)]⟩
/-- A register is written: its three cells, one behind the other. -/
theorem Mac.reg (h : Mac w0 b key vv vs vt m w) (h8 : m.regs.length = 8) {k : Nat} (hk : k < 8) {a : Val} {x y z : Value} (ha : encV a = [x, y, z]) :
    Mac w0 b key vv vs vt { m with regs := m.regs.set k a } (((w.setCell ⟨b, 1 + k * 3, none⟩ x).setCell ⟨b, 1 + k * 3 + 1, none⟩ y).setCell ⟨b, 1 + k * 3 + 2, none⟩ z) := by
  obtain ⟨cs, hc, hC⟩ := h.blk
  have hc1 := set_block hc (1 + k * 3) x
  have hc2 := set_block hc1 (1 + k * 3 + 1) y
  have hc3 := set_block hc2 (1 + k * 3 + 2) z
  refine ⟨below_set (below_set (below_set h.bel h.base _ _) h.base _ _) h.base _ _, h.base, ⟨_, hc3, ?_⟩, owns_set (owns_set (owns_set h.st hc (by decide) _ _) hc1 (by decide) _ _) hc2 (by decide) _ _, owns_set (owns_set (owns_set h.tl hc (by decide) _ _) hc1 (by decide) _ _) hc2 (by decide) _ _⟩
  have off : ∀ j, (j < 1 + k * 3 ∨ 1 + k * 3 + 2 < j) → (((cs.setIfInBounds (1 + k * 3) x).setIfInBounds (1 + k * 3 + 1) y).setIfInBounds (1 + k * 3 + 2) z)[j]? = cs[j]? := by
    intro j hj
    rw [Array.getElem?_setIfInBounds_ne (by omega), Array.getElem?_setIfInBounds_ne (by omega), Array.getElem?_setIfInBounds_ne (by omega)]
  have hz := hC.size
  refine ⟨by simpa using hz, by rw [off _ (by omega)]; exact hC.s, fun j hj i u hu => ?_, by rw [off _ (by omega)]; exact hC.k, by rw [off _ (by omega)]; exact hC.v, by rw [off _ (by omega)]; exact hC.t, by rw [off _ (by omega)]; exact hC.p⟩
  by_cases e : j = k
  · subst e
    have e2 : (m.regs.set j a).getD j (.num 0) = a := by simp [List.getD, h8, hk]
    simp only [e2, ha] at hu
    have hi : i = 0 ∨ i = 1 ∨ i = 2 := by have := (List.getElem?_eq_some_iff.1 hu).1; simp at this; omega
    rcases hi with rfl | rfl | rfl
    · simp at hu
      rw [Array.getElem?_setIfInBounds_ne (by omega), Array.getElem?_setIfInBounds_ne (by omega), Nat.add_zero, set_self (by omega), hu]
    · simp at hu
      rw [Array.getElem?_setIfInBounds_ne (by omega), set_self (by simp; omega), hu]
    · simp at hu
      rw [set_self (by simp; omega), hu]
  · have hi : i < 3 := by have := (List.getElem?_eq_some_iff.1 hu).1; rw [encV_len] at this; exact this
    have e2 : (m.regs.set k a).getD j (.num 0) = m.regs.getD j (.num 0) := by simp [List.getD, Ne.symm e]
    simp only [e2] at hu
    rw [off _ (by omega)]
    exact hC.r j hj i u hu
end
end Go.Proofs.YtpggfdnpbipckaaGreatDoor
/-! does of chapter 6's own answer: the rest of the operations that only read. -/
namespace Go.Proofs.YtpggfdnpbipckaaGreatDoor
open Go.RowKit Go.Lib
set_option linter.unusedVariables false
set_option maxRecDepth 100000

set_option maxHeartbeats 2000000 in
set_option maxRecDepth 100000 in
theorem does_dup (b : Nat) (A : Int) (s : ByteArray) (v : Value) (a : Val) (w : World) (hv : Vls w v [a]) :
    Calls Tryz.prog 65 #[.pointer (some ⟨b, 0, none⟩), .agg #[.int .i64 3, .int .i64 A, .string s], v] w (Gives w [a, a]) := by
  obtain ⟨g, off, cap, rfl, h2, hlt, hc⟩ := hv.lie (by simp)
  obtain ⟨t0, n0, s0, e0⟩ := a.three
  have c0 : w.cell? ⟨g, off, none⟩ = some (.bool t0) := by simpa using hc 0 _ rfl 0 _ (by rw [e0]; rfl)
  have c1 : w.cell? ⟨g, off + 1, none⟩ = some (.int .i64 n0) := by simpa using hc 0 _ rfl 1 _ (by rw [e0]; rfl)
  have c2 : w.cell? ⟨g, off + 2, none⟩ = some (.string s0) := by simpa using hc 0 _ rfl 2 _ (by rw [e0]; rfl)
  have H0 : Hold w (fun w' => g < w'.heap.size ∧ w'.cell? ⟨g, off, none⟩ = some (.bool t0) ∧ w'.cell? ⟨g, off + 1, none⟩ = some (.int .i64 n0) ∧ w'.cell? ⟨g, off + 2, none⟩ = some (.string s0)) w :=
    ⟨Below.refl _ _, fun w1 w2 hb h => ⟨Nat.lt_of_lt_of_le h.1 hb.size, stays_cell hb h.1 h.2.1, stays_cell hb h.1 h.2.2.1, stays_cell hb h.1 h.2.2.2⟩, hlt, c0, c1, c2⟩
  have H1 := H0.on (alloc1 w (Obj.cells #[.int .i64 3, .int .i64 A, .string s] 43))
  clear hc hv H0 c0 c1 c2
  simp only [List.length_cons, List.length_nil, Nat.zero_add] at h2
  go_enter Tryz.func65, Tryz.ntmps65
  go_wp2_with fail
  generalize w.alloc (Obj.cells #[.int .i64 3, .int .i64 A, .string s] 43) = W at H1 ⊢
  have H2 := H1.on (drew1 W)
  clear H1
  go_region_held3 (fun w' => w'.cell? ⟨g, off, none⟩ = some (.bool t0) ∧ w'.cell? ⟨g, off + 1, none⟩ = some (.int .i64 n0) ∧ w'.cell? ⟨g, off + 2, none⟩ = some (.string s0)) (first | exact H2.out.2 | exact (H2.on (alloc1 _ _)).out.2)
    (fail)
  go_wp2
  go_ret2
  have HL := H2
  have ef : (fl encV [a, a]).toArray = #[Value.bool t0, .int .i64 n0, .string s0, Value.bool t0, .int .i64 n0, .string s0] := by simp [fl, e0]
  refine ⟨_, rfl, ?_, (HL.on (alloc1 _ _)).below⟩
  rw [← ef]
  exact Reads.made encV_len (by decide) 57 [a, a] _ (by simp)

set_option maxHeartbeats 2000000 in
set_option maxRecDepth 100000 in
theorem does_swap (b : Nat) (A : Int) (s : ByteArray) (v : Value) (a c : Val) (w : World) (hv : Vls w v [a, c]) :
    Calls Tryz.prog 65 #[.pointer (some ⟨b, 0, none⟩), .agg #[.int .i64 5, .int .i64 A, .string s], v] w (Gives w [c, a]) := by
  obtain ⟨g, off, cap, rfl, h2, hlt, hc⟩ := hv.lie (by simp)
  obtain ⟨t0, n0, s0, e0⟩ := a.three
  obtain ⟨t1, n1, s1, e1⟩ := c.three
  have c0 : w.cell? ⟨g, off, none⟩ = some (.bool t0) := by simpa using hc 0 _ rfl 0 _ (by rw [e0]; rfl)
  have c1 : w.cell? ⟨g, off + 1, none⟩ = some (.int .i64 n0) := by simpa using hc 0 _ rfl 1 _ (by rw [e0]; rfl)
  have c2 : w.cell? ⟨g, off + 2, none⟩ = some (.string s0) := by simpa using hc 0 _ rfl 2 _ (by rw [e0]; rfl)
  have c3 : w.cell? ⟨g, off + 3, none⟩ = some (.bool t1) := by simpa using hc 1 _ rfl 0 _ (by rw [e1]; rfl)
  have c4 : w.cell? ⟨g, off + 3 + 1, none⟩ = some (.int .i64 n1) := by simpa using hc 1 _ rfl 1 _ (by rw [e1]; rfl)
  have c5 : w.cell? ⟨g, off + 3 + 2, none⟩ = some (.string s1) := by simpa using hc 1 _ rfl 2 _ (by rw [e1]; rfl)
  have H0 : Hold w (fun w' => g < w'.heap.size ∧ w'.cell? ⟨g, off, none⟩ = some (.bool t0) ∧ w'.cell? ⟨g, off + 1, none⟩ = some (.int .i64 n0) ∧ w'.cell? ⟨g, off + 2, none⟩ = some (.string s0) ∧ w'.cell? ⟨g, off + 3, none⟩ = some (.bool t1) ∧ w'.cell? ⟨g, off + 3 + 1, none⟩ = some (.int .i64 n1) ∧ w'.cell? ⟨g, off + 3 + 2, none⟩ = some (.string s1)) w :=
    ⟨Below.refl _ _, fun w1 w2 hb h => ⟨Nat.lt_of_lt_of_le h.1 hb.size, stays_cell hb h.1 h.2.1, stays_cell hb h.1 h.2.2.1, stays_cell hb h.1 h.2.2.2.1, stays_cell hb h.1 h.2.2.2.2.1, stays_cell hb h.1 h.2.2.2.2.2.1, stays_cell hb h.1 h.2.2.2.2.2.2⟩, hlt, c0, c1, c2, c3, c4, c5⟩
  have H1 := H0.on (alloc1 w (Obj.cells #[.int .i64 5, .int .i64 A, .string s] 43))
  clear hc hv H0 c0 c1 c2 c3 c4 c5
  simp only [List.length_cons, List.length_nil, Nat.zero_add, Nat.reduceAdd] at h2
  go_enter Tryz.func65, Tryz.ntmps65
  go_wp2_with fail
  generalize w.alloc (Obj.cells #[.int .i64 5, .int .i64 A, .string s] 43) = W at H1 ⊢
  have H2 := H1.on (drew1 W)
  clear H1
  go_region_held3 (fun w' => w'.cell? ⟨g, off, none⟩ = some (.bool t0) ∧ w'.cell? ⟨g, off + 1, none⟩ = some (.int .i64 n0) ∧ w'.cell? ⟨g, off + 2, none⟩ = some (.string s0) ∧ w'.cell? ⟨g, off + 3, none⟩ = some (.bool t1) ∧ w'.cell? ⟨g, off + 3 + 1, none⟩ = some (.int .i64 n1) ∧ w'.cell? ⟨g, off + 3 + 2, none⟩ = some (.string s1)) (first | exact H2.out.2 | exact (H2.on (alloc1 _ _)).out.2)
    (fail)
  go_wp2
  go_ret2
  have HL := H2
  have ef : (fl encV [c, a]).toArray = #[Value.bool t1, .int .i64 n1, .string s1, Value.bool t0, .int .i64 n0, .string s0] := by simp [fl, e0, e1]
  refine ⟨_, rfl, ?_, (HL.on (alloc1 _ _)).below⟩
  rw [← ef]
  exact Reads.made encV_len (by decide) 57 [c, a] _ (by simp)

theorem same_three {a c : Val} {t u : Bool} {n m : Int} {x y : ByteArray} (h : encV a = [.bool t, .int .i64 n, .string x]) (k : encV c = [.bool u, .int .i64 m, .string y]) : sameOf t u n m x y = sameV a c := by
  cases a <;> cases c <;> simp [encV] at h k <;> obtain ⟨rfl, rfl, rfl⟩ := h <;> obtain ⟨rfl, rfl, rfl⟩ := k <;> simp [sameOf, sameV]

set_option maxHeartbeats 2000000 in
set_option maxRecDepth 100000 in
theorem does_eq1 (b : Nat) (A : Int) (s : ByteArray) (v : Value) (a c : Val) (w : World) (hv : Vls w v [a, c]) (hs : sameV a c = true) :
    Calls Tryz.prog 65 #[.pointer (some ⟨b, 0, none⟩), .agg #[.int .i64 12, .int .i64 A, .string s], v] w (Gives w [.num 1]) := by
  obtain ⟨g, off, cap, rfl, h2, hlt, hc⟩ := hv.lie (by simp)
  obtain ⟨t0, n0, s0, e0⟩ := a.three
  obtain ⟨t1, n1, s1, e1⟩ := c.three
  have hd : sameOf t0 t1 n0 n1 s0 s1 = true := (same_three e0 e1).trans hs
  have c0 : w.cell? ⟨g, off, none⟩ = some (.bool t0) := by simpa using hc 0 _ rfl 0 _ (by rw [e0]; rfl)
  have c1 : w.cell? ⟨g, off + 1, none⟩ = some (.int .i64 n0) := by simpa using hc 0 _ rfl 1 _ (by rw [e0]; rfl)
  have c2 : w.cell? ⟨g, off + 2, none⟩ = some (.string s0) := by simpa using hc 0 _ rfl 2 _ (by rw [e0]; rfl)
  have c3 : w.cell? ⟨g, off + 3, none⟩ = some (.bool t1) := by simpa using hc 1 _ rfl 0 _ (by rw [e1]; rfl)
  have c4 : w.cell? ⟨g, off + 3 + 1, none⟩ = some (.int .i64 n1) := by simpa using hc 1 _ rfl 1 _ (by rw [e1]; rfl)
  have c5 : w.cell? ⟨g, off + 3 + 2, none⟩ = some (.string s1) := by simpa using hc 1 _ rfl 2 _ (by rw [e1]; rfl)
  have H0 : Hold w (fun w' => g < w'.heap.size ∧ w'.cell? ⟨g, off, none⟩ = some (.bool t0) ∧ w'.cell? ⟨g, off + 1, none⟩ = some (.int .i64 n0) ∧ w'.cell? ⟨g, off + 2, none⟩ = some (.string s0) ∧ w'.cell? ⟨g, off + 3, none⟩ = some (.bool t1) ∧ w'.cell? ⟨g, off + 3 + 1, none⟩ = some (.int .i64 n1) ∧ w'.cell? ⟨g, off + 3 + 2, none⟩ = some (.string s1)) w :=
    ⟨Below.refl _ _, fun w1 w2 hb h => ⟨Nat.lt_of_lt_of_le h.1 hb.size, stays_cell hb h.1 h.2.1, stays_cell hb h.1 h.2.2.1, stays_cell hb h.1 h.2.2.2.1, stays_cell hb h.1 h.2.2.2.2.1, stays_cell hb h.1 h.2.2.2.2.2.1, stays_cell hb h.1 h.2.2.2.2.2.2⟩, hlt, c0, c1, c2, c3, c4, c5⟩
  have H1 := H0.on (alloc1 w (Obj.cells #[.int .i64 12, .int .i64 A, .string s] 43))
  clear hc hv H0 c0 c1 c2 c3 c4 c5
  simp only [List.length_cons, List.length_nil, Nat.zero_add, Nat.reduceAdd] at h2
  go_enter Tryz.func65, Tryz.ntmps65
  go_wp2_with fail
  generalize w.alloc (Obj.cells #[.int .i64 12, .int .i64 A, .string s] 43) = W at H1 ⊢
  have H2 := H1.on (drew1 W)
  clear H1
  go_region_held3 (fun w' => w'.cell? ⟨g, off, none⟩ = some (.bool t0) ∧ w'.cell? ⟨g, off + 1, none⟩ = some (.int .i64 n0) ∧ w'.cell? ⟨g, off + 2, none⟩ = some (.string s0) ∧ w'.cell? ⟨g, off + 3, none⟩ = some (.bool t1) ∧ w'.cell? ⟨g, off + 3 + 1, none⟩ = some (.int .i64 n1) ∧ w'.cell? ⟨g, off + 3 + 2, none⟩ = some (.string s1)) (first | exact H6.out.2 | exact (H6.on (alloc1 _ _)).out.2 | exact H5.out.2 | exact (H5.on (alloc1 _ _)).out.2 | exact H2.out.2 | exact (H2.on (alloc1 _ _)).out.2)
    (first | (go_at_call 78; refine (staitheref4_Same_calls _ _ _ _ _ _ _).mono ?_; rintro e w5 ⟨rfl, hb5⟩; have H5 := Hold.on (by assumption) hb5; rw [hd]) | (go_at_call 77; refine (flag1_calls _).mono ?_; rintro e w6 ⟨rfl, hb6⟩; have H6 := Hold.on (by assumption) hb6))
  go_wp2
  go_ret2
  have HL := H6
  exact ⟨_, rfl, Reads.made encV_len (by decide) 57 [.num 1] _ (by simp), (HL.on (alloc1 _ _)).below⟩

set_option maxHeartbeats 2000000 in
set_option maxRecDepth 100000 in
theorem does_eq0 (b : Nat) (A : Int) (s : ByteArray) (v : Value) (a c : Val) (w : World) (hv : Vls w v [a, c]) (hs : sameV a c = false) :
    Calls Tryz.prog 65 #[.pointer (some ⟨b, 0, none⟩), .agg #[.int .i64 12, .int .i64 A, .string s], v] w (Gives w [.num 0]) := by
  obtain ⟨g, off, cap, rfl, h2, hlt, hc⟩ := hv.lie (by simp)
  obtain ⟨t0, n0, s0, e0⟩ := a.three
  obtain ⟨t1, n1, s1, e1⟩ := c.three
  have hd : sameOf t0 t1 n0 n1 s0 s1 = false := (same_three e0 e1).trans hs
  have c0 : w.cell? ⟨g, off, none⟩ = some (.bool t0) := by simpa using hc 0 _ rfl 0 _ (by rw [e0]; rfl)
  have c1 : w.cell? ⟨g, off + 1, none⟩ = some (.int .i64 n0) := by simpa using hc 0 _ rfl 1 _ (by rw [e0]; rfl)
  have c2 : w.cell? ⟨g, off + 2, none⟩ = some (.string s0) := by simpa using hc 0 _ rfl 2 _ (by rw [e0]; rfl)
  have c3 : w.cell? ⟨g, off + 3, none⟩ = some (.bool t1) := by simpa using hc 1 _ rfl 0 _ (by rw [e1]; rfl)
  have c4 : w.cell? ⟨g, off + 3 + 1, none⟩ = some (.int .i64 n1) := by simpa using hc 1 _ rfl 1 _ (by rw [e1]; rfl)
  have c5 : w.cell? ⟨g, off + 3 + 2, none⟩ = some (.string s1) := by simpa using hc 1 _ rfl 2 _ (by rw [e1]; rfl)
  have H0 : Hold w (fun w' => g < w'.heap.size ∧ w'.cell? ⟨g, off, none⟩ = some (.bool t0) ∧ w'.cell? ⟨g, off + 1, none⟩ = some (.int .i64 n0) ∧ w'.cell? ⟨g, off + 2, none⟩ = some (.string s0) ∧ w'.cell? ⟨g, off + 3, none⟩ = some (.bool t1) ∧ w'.cell? ⟨g, off + 3 + 1, none⟩ = some (.int .i64 n1) ∧ w'.cell? ⟨g, off + 3 + 2, none⟩ = some (.string s1)) w :=
    ⟨Below.refl _ _, fun w1 w2 hb h => ⟨Nat.lt_of_lt_of_le h.1 hb.size, stays_cell hb h.1 h.2.1, stays_cell hb h.1 h.2.2.1, stays_cell hb h.1 h.2.2.2.1, stays_cell hb h.1 h.2.2.2.2.1, stays_cell hb h.1 h.2.2.2.2.2.1, stays_cell hb h.1 h.2.2.2.2.2.2⟩, hlt, c0, c1, c2, c3, c4, c5⟩
  have H1 := H0.on (alloc1 w (Obj.cells #[.int .i64 12, .int .i64 A, .string s] 43))
  clear hc hv H0 c0 c1 c2 c3 c4 c5
  simp only [List.length_cons, List.length_nil, Nat.zero_add, Nat.reduceAdd] at h2
  go_enter Tryz.func65, Tryz.ntmps65
  go_wp2_with fail
  generalize w.alloc (Obj.cells #[.int .i64 12, .int .i64 A, .string s] 43) = W at H1 ⊢
  have H2 := H1.on (drew1 W)
  clear H1
  go_region_held3 (fun w' => w'.cell? ⟨g, off, none⟩ = some (.bool t0) ∧ w'.cell? ⟨g, off + 1, none⟩ = some (.int .i64 n0) ∧ w'.cell? ⟨g, off + 2, none⟩ = some (.string s0) ∧ w'.cell? ⟨g, off + 3, none⟩ = some (.bool t1) ∧ w'.cell? ⟨g, off + 3 + 1, none⟩ = some (.int .i64 n1) ∧ w'.cell? ⟨g, off + 3 + 2, none⟩ = some (.string s1)) (first | exact H6.out.2 | exact (H6.on (alloc1 _ _)).out.2 | exact H5.out.2 | exact (H5.on (alloc1 _ _)).out.2 | exact H2.out.2 | exact (H2.on (alloc1 _ _)).out.2)
    (first | (go_at_call 78; refine (staitheref4_Same_calls _ _ _ _ _ _ _).mono ?_; rintro e w5 ⟨rfl, hb5⟩; have H5 := Hold.on (by assumption) hb5; rw [hd]) | (go_at_call 77; refine (flag0_calls _).mono ?_; rintro e w6 ⟨rfl, hb6⟩; have H6 := Hold.on (by assumption) hb6))
  go_wp2
  go_ret2
  have HL := H6
  exact ⟨_, rfl, Reads.made encV_len (by decide) 57 [.num 0] _ (by simp), (HL.on (alloc1 _ _)).below⟩

set_option maxHeartbeats 2000000 in
set_option maxRecDepth 100000 in
theorem does_none4 (b : Nat) (A : Int) (s : ByteArray) (v : Value) (w : World) : Calls Tryz.prog 65 #[.pointer (some ⟨b, 0, none⟩), .agg #[.int .i64 4, .int .i64 A, .string s], v] w (Gives w []) := by
  have H1 := alloc1 w (Obj.cells #[.int .i64 4, .int .i64 A, .string s] 43)
  go_enter Tryz.func65, Tryz.ntmps65
  go_wp2
  go_ret2
  exact ⟨_, rfl, Reads.nil _, H1⟩

set_option maxHeartbeats 2000000 in
set_option maxRecDepth 100000 in
theorem does_none20 (b : Nat) (A : Int) (s : ByteArray) (v : Value) (w : World) : Calls Tryz.prog 65 #[.pointer (some ⟨b, 0, none⟩), .agg #[.int .i64 20, .int .i64 A, .string s], v] w (Gives w []) := by
  have H1 := alloc1 w (Obj.cells #[.int .i64 20, .int .i64 A, .string s] 43)
  go_enter Tryz.func65, Tryz.ntmps65
  go_wp2
  go_ret2
  exact ⟨_, rfl, Reads.nil _, H1⟩

set_option maxHeartbeats 2000000 in
set_option maxRecDepth 100000 in
theorem does_key {w0 : World} {b : Nat} {key : ByteArray} {vv vs vt : Value} {m : St} {w : World} (h : Mac w0 b key vv vs vt m w) (A : Int) (s : ByteArray) (v : Value) : Calls Tryz.prog 65 #[.pointer (some ⟨b, 0, none⟩), .agg #[.int .i64 6, .int .i64 A, .string s], v] w (Gives w [.text key]) := by
  have H1 := alloc1 w (Obj.cells #[.int .i64 6, .int .i64 A, .string s] 43)
  have c0 := (h.on H1).cK
  go_enter Tryz.func65, Tryz.ntmps65
  go_wp2_with fail
  refine (text_calls key _).mono ?_
  rintro e w5 ⟨rfl, hb5⟩
  go_wp2
  go_ret2
  exact ⟨_, rfl, Reads.made encV_len (by decide) 57 [.text key] w5 (by simp), below_then (below_then H1 hb5 H1.size) (alloc1 _ _) (by have := hb5.size; simp at this; omega)⟩

set_option maxHeartbeats 2000000 in
set_option maxRecDepth 100000 in
theorem does_load {w0 : World} {b : Nat} {key : ByteArray} {vv vs vt : Value} {m : St} {w : World} (h : Mac w0 b key vv vs vt m w) (k : Nat) (hk : k < 8) (s : ByteArray) (v : Value) : Calls Tryz.prog 65 #[.pointer (some ⟨b, 0, none⟩), .agg #[.int .i64 21, .int .i64 (k : Int), .string s], v] w (Gives w [m.regs.getD k (.num 0)]) := by
  have H1 := alloc1 w (Obj.cells #[.int .i64 21, .int .i64 (k : Int), .string s] 43)
  obtain ⟨t0, n0, s0, e0⟩ := (m.regs.getD k (.num 0)).three
  have c0 := (h.on H1).cR hk (i := 0) (by rw [e0]; rfl)
  have c1 := (h.on H1).cR hk (i := 1) (by rw [e0]; rfl)
  have c2 := (h.on H1).cR hk (i := 2) (by rw [e0]; rfl)
  have a0 : (w.alloc (Obj.cells #[.int .i64 21, .int .i64 (k : Int), .string s] 43)).cell? ⟨w.heap.size, 1, none⟩ = some (.int .i64 k) := by simp [go_sem]
  have hb := (h.on H1).lt
  have hk' : (k : Int) < 8 := by omega
  have H2 : Hold w (fun w' => (b < w'.heap.size ∧ w.heap.size < w'.heap.size) ∧ w'.cell? ⟨w.heap.size, 1, none⟩ = some (.int .i64 k) ∧ w'.cell? ⟨b, 1 + k * 3, none⟩ = some (.bool t0) ∧ w'.cell? ⟨b, 1 + k * 3 + 1, none⟩ = some (.int .i64 n0) ∧ w'.cell? ⟨b, 1 + k * 3 + 2, none⟩ = some (.string s0)) (w.alloc (Obj.cells #[.int .i64 21, .int .i64 (k : Int), .string s] 43)) :=
    ⟨H1, fun w1 w2 hb h => ⟨⟨Nat.lt_of_lt_of_le h.1.1 hb.size, Nat.lt_of_lt_of_le h.1.2 hb.size⟩, stays_cell hb h.1.2 h.2.1, stays_cell hb h.1.1 h.2.2.1, stays_cell hb h.1.1 h.2.2.2.1, stays_cell hb h.1.1 h.2.2.2.2⟩, ⟨hb, by simp⟩, a0, c0, c1, c2⟩
  clear c0 c1 c2 a0 hb
  go_enter Tryz.func65, Tryz.ntmps65
  go_wp2_with fail
  generalize w.alloc (Obj.cells #[.int .i64 21, .int .i64 (k : Int), .string s] 43) = W at H2 ⊢
  generalize w.heap.size = i at H2 ⊢
  have H3 := H2.on (drew1 W)
  clear H2
  go_region_held3 (fun w' => w'.cell? ⟨i, 1, none⟩ = some (.int .i64 k) ∧ w'.cell? ⟨b, 1 + k * 3, none⟩ = some (.bool t0) ∧ w'.cell? ⟨b, 1 + k * 3 + 1, none⟩ = some (.int .i64 n0) ∧ w'.cell? ⟨b, 1 + k * 3 + 2, none⟩ = some (.string s0)) (first | exact H3.out.2 | exact (H3.on (alloc1 _ _)).out.2) (fail)
  go_wp2
  go_ret2
  have ef : (fl encV [m.regs.getD k (.num 0)]).toArray = #[Value.bool t0, .int .i64 n0, .string s0] := by show (encV (m.regs.getD k (.num 0)) ++ []).toArray = _; rw [e0]; rfl
  refine ⟨_, rfl, ?_, (H3.on (alloc1 _ _)).below⟩
  rw [← ef]
  exact Reads.made encV_len (by decide) 57 [m.regs.getD k (.num 0)] _ (by simp)
end Go.Proofs.YtpggfdnpbipckaaGreatDoor
/-! does of chapter 6's own answer: OpNext, OpStore, OpEmit. -/
namespace Go.Proofs.YtpggfdnpbipckaaGreatDoor
open Go.RowKit Go.Lib
set_option linter.unusedVariables false
set_option maxRecDepth 100000

/-- What does leaves: what is pushed, and the machine. -/
def Leaves (w0 : World) (b : Nat) (key : ByteArray) (vv : Value) (m : St) (out : List Val) (e : Ending) (w' : World) : Prop := ∃ vo vs vt, e = .returned (.tuple #[vo, .int .i64 0]) ∧ Vls w' vo out ∧ Mac w0 b key vv vs vt m w'
theorem Gives.leaves {w0 : World} {b : Nat} {key : ByteArray} {vv vs vt : Value} {m : St} {w : World} (h : Mac w0 b key vv vs vt m w) {out : List Val} {e : Ending} {w' : World} (hg : Gives w out e w') : Leaves w0 b key vv m out e w' := by
  obtain ⟨vo, he, hv, hb⟩ := hg
  exact ⟨vo, vs, vt, he, hv, h.on hb⟩

variable {w0 : World} {b : Nat} {key : ByteArray} {vs vt : Value} {m : St} {w : World} {ao : Option Addr} {n cap : Nat}
set_option maxHeartbeats 2000000 in
set_option maxRecDepth 100000 in
theorem does_next0 (h : Mac w0 b key (.slice ao n cap) vs vt m w) (hn : n ≤ m.taken) (ht : m.taken ≤ 4294967296) (A : Int) (s : ByteArray) (v : Value) :
    Calls Tryz.prog 65 #[.pointer (some ⟨b, 0, none⟩), .agg #[.int .i64 7, .int .i64 A, .string s], v] w (Gives w [.num 0]) := by
  have H1 := alloc1 w (Obj.cells #[.int .i64 7, .int .i64 A, .string s] 43)
  have c0 := (h.on H1).cV
  have c1 := (h.on H1).cT
  have hd : decide ((n : Int) ≤ (m.taken : Int)) = true := by simp; omega
  clear h
  generalize m.taken = t at c1 hd hn
  go_enter Tryz.func65, Tryz.ntmps65
  go_wp2_with fail
  generalize w.alloc (Obj.cells #[.int .i64 7, .int .i64 A, .string s] 43) = W at H1 c0 c1 ⊢
  go_quiet (fail)
  go_wp2_with fail
  refine (num_calls 0 _).mono ?_
  rintro e w5 ⟨rfl, hb5⟩
  go_wp2
  go_ret2
  have k1 := below_then H1 (below_drew W nq) H1.size
  have k2 := below_then k1 hb5 k1.size
  exact ⟨_, rfl, Reads.made encV_len (by decide) 57 [.num 0] w5 (by simp), below_then k2 (alloc1 _ _) k2.size⟩

set_option maxHeartbeats 2000000 in
set_option maxRecDepth 100000 in
theorem does_next1 {n0 off : Nat} (h : Mac w0 b key (.slice (some ⟨n0, off, none⟩) n cap) vs vt m w) {x : ByteArray} (hx : w.cell? ⟨n0, off + m.taken, none⟩ = some (.string x)) (hg : n0 < w0.heap.size) (hn : m.taken < n) (ht : n ≤ 4294967296) (A : Int) (s : ByteArray) (v : Value) :
    Calls Tryz.prog 65 #[.pointer (some ⟨b, 0, none⟩), .agg #[.int .i64 7, .int .i64 A, .string s], v] w (Leaves w0 b key (.slice (some ⟨n0, off, none⟩) n cap) { m with taken := m.taken + 1 } [.text x, .num 1]) := by
  have H1 := alloc1 w (Obj.cells #[.int .i64 7, .int .i64 A, .string s] 43)
  have HM := hid (h.on H1)
  have c0 := HM.out.cV
  have c1 := HM.out.cT
  have f1 := HM.out.free 27
  have hd : decide ((n : Int) ≤ (m.taken : Int)) = false := by simp; omega
  have hlt := h.bel.size
  have x0 : (w.alloc (Obj.cells #[.int .i64 7, .int .i64 A, .string s] 43)).cell? ⟨n0, off + m.taken, none⟩ = some (.string x) := (H1.cell (p := ⟨n0, off + m.taken, none⟩) (by simp only; omega)).trans hx
  have hbase := h.base
  clear h hx
  obtain ⟨t, et⟩ : ∃ t, m.taken = t := ⟨_, rfl⟩
  rw [et] at c1 hd hn x0 ⊢
  have HT := hid et
  clear et
  go_enter Tryz.func65, Tryz.ntmps65
  go_wp2_with fail
  generalize w.alloc (Obj.cells #[.int .i64 7, .int .i64 A, .string s] 43) = W at H1 HM c0 c1 f1 x0 ⊢
  go_quiet (fail)
  have HM2 := hid (HM.out.on (below_drew W nq))
  have x1 : (W.drewN nq).cell? ⟨n0, off + t, none⟩ = some (.string x) := x0
  generalize W.drewN nq = W2 at HM2 x1 ⊢
  clear c0 c1 f1 x0 HM H1
  have d1 := HM2.out.cT
  have f2 := HM2.out.free 27
  rw [HT.out] at d1
  have HM3 := hid (show Mac w0 b key (.slice (some ⟨n0, off, none⟩) n cap) vs vt { m with taken := t + 1 } (W2.setCell ⟨b, 27, none⟩ (.int .i64 ((t : Int) + 1))) from HM2.out.taken (t + 1))
  have x2 : (W2.setCell ⟨b, 27, none⟩ (.int .i64 ((t : Int) + 1))).cell? ⟨n0, off + t, none⟩ = some (.string x) := (World.cell?_of_block (w := W2) (Below.heap_setCell _ _ _ _ (by simp only; omega))).trans x1
  clear HM2 x1
  go_wp2_with fail
  generalize W2.setCell ⟨b, 27, none⟩ (.int .i64 ((t : Int) + 1)) = W3 at HM3 x2 ⊢
  have HQ : Hold W3 (fun w' => (b < w'.heap.size ∧ n0 < w'.heap.size) ∧ w'.cell? ⟨b, 26, none⟩ = some (.slice (some ⟨n0, off, none⟩) n cap) ∧ w'.cell? ⟨b, 27, none⟩ = some (.int .i64 ((t : Int) + 1)) ∧ w'.cell? ⟨n0, off + t, none⟩ = some (.string x)) W3 :=
    ⟨Below.refl _ _, fun w1 w2 hb h => ⟨⟨Nat.lt_of_lt_of_le h.1.1 hb.size, Nat.lt_of_lt_of_le h.1.2 hb.size⟩, stays_cell hb h.1.1 h.2.1, stays_cell hb h.1.1 h.2.2.1, stays_cell hb h.1.2 h.2.2.2⟩, ⟨HM3.out.lt, by have := HM3.out.lt; omega⟩, HM3.out.cV, HM3.out.cT, x2⟩
  have H2 := HQ.on (drew1 W3)
  clear HQ x2 d1 f2
  have hw1 : IntKind.i64.wrap ((t : Int) + 1 - 1) = (t : Int) := by rw [IntKind.wrap_i64]; omega
  have hw2 : IntKind.i64.wrap (t : Int) = (t : Int) := by rw [IntKind.wrap_i64]; omega
  have ht1 : (0 : Int) ≤ (t : Int) := by omega
  have ht2 : (t : Int) < (n : Int) := by omega
  go_region_held3 (fun w' => w'.cell? ⟨b, 26, none⟩ = some (.slice (some ⟨n0, off, none⟩) n cap) ∧ w'.cell? ⟨b, 27, none⟩ = some (.int .i64 ((t : Int) + 1)) ∧ w'.cell? ⟨n0, off + t, none⟩ = some (.string x)) (first | exact H6.out.2 | exact (H6.on (alloc1 _ _)).out.2 | exact H5.out.2 | exact H2.out.2)
    (first | (go_at_call 76; refine (text_calls _ _).mono ?_; rintro e w5 ⟨rfl, hb5⟩; have H5 := Hold.on (by assumption) hb5) | (go_at_call 75; refine (num_calls _ _).mono ?_; rintro e w6 ⟨rfl, hb6⟩; have H6 := Hold.on (by assumption) hb6))
  go_wp2
  go_ret2
  exact ⟨_, _, _, rfl, Reads.made encV_len (by decide) 57 [.text x, .num 1] _ (by simp), HM3.out.on (H6.on (alloc1 _ _)).below⟩
end Go.Proofs.YtpggfdnpbipckaaGreatDoor
/-! does of chapter 6's own answer: OpStore, OpEmit. -/
namespace Go.Proofs.YtpggfdnpbipckaaGreatDoor
open Go.RowKit Go.Lib
set_option linter.unusedVariables false
set_option maxRecDepth 100000

theorem set_cell_off {w : World} {b i g j : Nat} {u : Value} (hne : g ≠ b) : (w.setCell ⟨b, i, none⟩ u).cell? ⟨g, j, none⟩ = w.cell? ⟨g, j, none⟩ := World.cell?_of_block (w := w) (Below.heap_setCell _ _ _ _ (by simp only; exact hne))
theorem set3_cell {w : World} {b i1 i2 i3 g j : Nat} {x y z : Value} (hne : g ≠ b) : (((w.setCell ⟨b, i1, none⟩ x).setCell ⟨b, i2, none⟩ y).setCell ⟨b, i3, none⟩ z).cell? ⟨g, j, none⟩ = w.cell? ⟨g, j, none⟩ := by
  rw [set_cell_off hne, set_cell_off hne, set_cell_off hne]

variable {w0 : World} {b : Nat} {key : ByteArray} {vv vs vt : Value} {m : St} {w : World}
set_option maxHeartbeats 4000000 in
set_option maxRecDepth 100000 in
theorem does_store (h : Mac w0 b key vv vs vt m w) (h8 : m.regs.length = 8) (k : Nat) (hk : k < 8) (s : ByteArray) (v : Value) (a : Val) (hv : Vls w v [a]) (hne : v.ownBlock ≠ some b) :
    Calls Tryz.prog 65 #[.pointer (some ⟨b, 0, none⟩), .agg #[.int .i64 22, .int .i64 (k : Int), .string s], v] w (Leaves w0 b key vv { m with regs := m.regs.set k a } []) := by
  obtain ⟨g, off, cap, rfl, h2, hlt, hc⟩ := hv.lie (by simp)
  obtain ⟨t0, n0, s0, e0⟩ := a.three
  have hgb : g ≠ b := fun e => hne (by rw [e]; rfl)
  have c0 : w.cell? ⟨g, off, none⟩ = some (.bool t0) := by simpa using hc 0 _ rfl 0 _ (by rw [e0]; rfl)
  have c1 : w.cell? ⟨g, off + 1, none⟩ = some (.int .i64 n0) := by simpa using hc 0 _ rfl 1 _ (by rw [e0]; rfl)
  have c2 : w.cell? ⟨g, off + 2, none⟩ = some (.string s0) := by simpa using hc 0 _ rfl 2 _ (by rw [e0]; rfl)
  have H1 := alloc1 w (Obj.cells #[.int .i64 22, .int .i64 (k : Int), .string s] 43)
  have a0 : (w.alloc (Obj.cells #[.int .i64 22, .int .i64 (k : Int), .string s] 43)).cell? ⟨w.heap.size, 1, none⟩ = some (.int .i64 k) := by simp [go_sem]
  have hib : w.heap.size ≠ b := by have := h.lt; omega
  have HM := hid ((h.on H1).on (drew1 _))
  have HR := hid ((h.on H1).on (drew1 _) |>.reg h8 hk e0)
  have hk' : (k : Int) < 8 := by omega
  have H2 : Hold w (fun w' => (g < w'.heap.size ∧ w.heap.size < w'.heap.size) ∧ w'.cell? ⟨w.heap.size, 1, none⟩ = some (.int .i64 k) ∧ w'.cell? ⟨g, off, none⟩ = some (.bool t0) ∧ w'.cell? ⟨g, off + 1, none⟩ = some (.int .i64 n0) ∧ w'.cell? ⟨g, off + 2, none⟩ = some (.string s0)) (w.alloc (Obj.cells #[.int .i64 22, .int .i64 (k : Int), .string s] 43)) :=
    ⟨H1, fun w1 w2 hb h => ⟨⟨Nat.lt_of_lt_of_le h.1.1 hb.size, Nat.lt_of_lt_of_le h.1.2 hb.size⟩, stays_cell hb h.1.2 h.2.1, stays_cell hb h.1.1 h.2.2.1, stays_cell hb h.1.1 h.2.2.2.1, stays_cell hb h.1.1 h.2.2.2.2⟩, ⟨by simp; omega, by simp⟩, a0, (H1.cell (p := ⟨g, off, none⟩) hlt).trans c0, (H1.cell (p := ⟨g, off + 1, none⟩) hlt).trans c1, (H1.cell (p := ⟨g, off + 2, none⟩) hlt).trans c2⟩
  clear c0 c1 c2 a0 hc hv
  have H3 := H2.on (drew1 _)
  obtain ⟨y0, z0⟩ : ∃ y, y = m.regs.getD k (.num 0) := ⟨_, rfl⟩
  obtain ⟨t1, n1, s1, e1⟩ := y0.three
  have b0 := HM.out.cR hk (i := 0) (by rw [← z0, e1]; rfl)
  have b1 := HM.out.cR hk (i := 1) (by rw [← z0, e1]; rfl)
  have b2 := HM.out.cR hk (i := 2) (by rw [← z0, e1]; rfl)
  have f0 := HM.out.free (1 + k * 3)
  have f1 := HM.out.free (1 + k * 3 + 1)
  have f2 := HM.out.free (1 + k * 3 + 2)
  clear H2 H1 h
  go_enter Tryz.func65, Tryz.ntmps65
  go_wp2_with fail
  generalize w.alloc (Obj.cells #[.int .i64 22, .int .i64 (k : Int), .string s] 43) = W at HM HR H3 b0 b1 b2 f0 f1 f2 ⊢
  generalize w.heap.size = i at hib H3 ⊢
  simp only [Nat.add_zero] at b0
  have b0' : W.cell? ⟨b, 1 + k * 3, none⟩ = some (.bool t1) := b0
  have b1' : W.cell? ⟨b, 1 + k * 3 + 1, none⟩ = some (.int .i64 n1) := b1
  have b2' : W.cell? ⟨b, 1 + k * 3 + 2, none⟩ = some (.string s1) := b2
  have f0' : W.frozen? ⟨b, 1 + k * 3, none⟩ = false := f0
  have f1' : W.frozen? ⟨b, 1 + k * 3 + 1, none⟩ = false := f1
  have f2' : W.frozen? ⟨b, 1 + k * 3 + 2, none⟩ = false := f2
  go_region_held3 (fun w' => w'.cell? ⟨i, 1, none⟩ = some (.int .i64 k) ∧ w'.cell? ⟨g, off, none⟩ = some (.bool t0) ∧ w'.cell? ⟨g, off + 1, none⟩ = some (.int .i64 n0) ∧ w'.cell? ⟨g, off + 2, none⟩ = some (.string s0)) (first | exact H3.out.2 | exact ⟨(set3_cell hib).trans H3.out.2.1, (set3_cell hgb).trans H3.out.2.2.1, (set3_cell hgb).trans H3.out.2.2.2.1, (set3_cell hgb).trans H3.out.2.2.2.2⟩) (fail)
  go_wp2
  go_ret2
  exact ⟨_, _, _, rfl, Reads.nil _, HR.out⟩
end Go.Proofs.YtpggfdnpbipckaaGreatDoor
/-! does of chapter 6's own answer: OpEmit. -/
namespace Go.Proofs.YtpggfdnpbipckaaGreatDoor
open Go.RowKit Go.Lib
set_option linter.unusedVariables false
set_option maxRecDepth 100000

/-- What does answers with a reason. -/
def Fails (w : World) (r : Int) (e : Ending) (w' : World) : Prop := ∃ vo, e = .returned (.tuple #[vo, .int .i64 r]) ∧ Below w.heap.size w w'

variable {w0 : World} {b : Nat} {key : ByteArray} {vv vs vt : Value} {m : St} {w : World}
set_option maxHeartbeats 4000000 in
set_option maxRecDepth 100000 in
theorem does_big (A : Int) (s : ByteArray) (v : Value) (k x : ByteArray) (hv : Vls w v [.text k, .text x]) (hk : 16 < k.size) :
    Calls Tryz.prog 65 #[.pointer (some ⟨b, 0, none⟩), .agg #[.int .i64 23, .int .i64 A, .string s], v] w (Fails w 4) := by
  obtain ⟨g, off, cap, rfl, h2, hlt, hc⟩ := hv.lie (by simp)
  have H1 := alloc1 w (Obj.cells #[.int .i64 23, .int .i64 A, .string s] 43)
  have c2 : (w.alloc (Obj.cells #[.int .i64 23, .int .i64 A, .string s] 43)).cell? ⟨g, off + 2, none⟩ = some (.string k) := (H1.cell (p := ⟨g, off + 2, none⟩) hlt).trans (by simpa using hc 0 _ rfl 2 _ rfl)
  have hd : decide ((16 : Int) < (k.size : Int)) = true := by simp; omega
  clear hc hv
  simp only [List.length_cons, List.length_nil, Nat.zero_add, Nat.reduceAdd] at h2
  go_enter Tryz.func65, Tryz.ntmps65
  go_wp2
  go_ret2
  exact ⟨_, rfl, H1⟩

set_option maxHeartbeats 4000000 in
set_option maxRecDepth 100000 in
theorem does_many (h : Mac w0 b key vv vs vt m w) (A : Int) (s : ByteArray) (v : Value) (k x : ByteArray) (hv : Vls w v [.text k, .text x]) (hk : k.size ≤ 16) (hm : 40 ≤ m.told.length) :
    Calls Tryz.prog 65 #[.pointer (some ⟨b, 0, none⟩), .agg #[.int .i64 23, .int .i64 A, .string s], v] w (Fails w 5) := by
  obtain ⟨g, off, cap, rfl, h2, hlt, hc⟩ := hv.lie (by simp)
  obtain ⟨o0, o2, rfl⟩ := own_slice h.tl
  have H1 := alloc1 w (Obj.cells #[.int .i64 23, .int .i64 A, .string s] 43)
  have c2 : (w.alloc (Obj.cells #[.int .i64 23, .int .i64 A, .string s] 43)).cell? ⟨g, off + 2, none⟩ = some (.string k) := (H1.cell (p := ⟨g, off + 2, none⟩) hlt).trans (by simpa using hc 0 _ rfl 2 _ rfl)
  have c28 : (w.alloc (Obj.cells #[.int .i64 23, .int .i64 A, .string s] 43)).cell? ⟨b, 28, none⟩ = some (.slice o0 m.told.length o2) := (h.on H1).cP
  have hd : decide ((16 : Int) < (k.size : Int)) = false := by simp; omega
  have hd2 : decide ((40 : Int) ≤ (m.told.length : Int)) = true := by simp; omega
  clear hc hv h
  simp only [List.length_cons, List.length_nil, Nat.zero_add, Nat.reduceAdd] at h2
  go_enter Tryz.func65, Tryz.ntmps65
  go_wp2
  go_ret2
  exact ⟨_, rfl, H1⟩
end Go.Proofs.YtpggfdnpbipckaaGreatDoor
/-! The moves of a drawn region under a condition, one by one, with the slot written out. No program in this text. -/
namespace Go.Proofs.YtpggfdnpbipckaaGreatDoor

section
variable {P : Program} {ops : Array Oper} {Q : Exit → Act → World → Prop} {md : Region.Mode} {S : World → Prop}
/-- Number i is taken first; its value goes into slot d. -/
theorem takeH (i : Nat) (d : Nat) (v : Value) {oi : Oper} {fuel : Nat} {listed : Array Bool} {a : Act} {w : World} (hi : ops[i]? = some oi) (hd : oi.dst = some d)
    (hs : Region.noSelect ops = true) (hf : Region.free md ops listed i = true) (hr : (Region.ready md ops listed).contains i = true)
    (hQ : ∀ c a w, Q (.panic c) (a.put oi.dst v) w → Q (.panic c) a w) (hw : Region.wanted oi (yielded ops a.tmps) = true) (hy : ∀ w, S w → (execOp a.eval oi).run P w = .ok (.value v) w) (hS : S w)
    (h : wpAnyH P md ops Q S fuel (listed.setIfInBounds i true) (a.put (some d) v) w) : wpAnyH P md ops Q S (fuel + 1) listed a w :=
  wpAnyH_take hi hs hf hr hQ (.inl ⟨hw, hy⟩) hS (by rw [hd]; exact h)
/-- Number i comes up next, and S stays. -/
theorem nextH (i : Nat) {o : Oper} {fuel : Nat} {listed : Array Bool} {a : Act} {w : World} {rs : List Nat} (ho : ops[i]? = some o) (hw : Region.wanted o (yielded ops a.tmps) = true)
    (h : ∀ K' : Act → World → Prop, Shut (∀ a w, S w → (S w → wpAnyH P md ops Q S fuel (listed.setIfInBounds i true) a w) → K' a w) → Oper.wp P o a w K' Q)
    (hs : AllReadyH P md ops Q S fuel listed a w rs) : AllReadyH P md ops Q S fuel listed a w (i :: rs) :=
  AllReadyH.cons ho (fun K' hK => by rw [if_pos hw]; exact h K' hK) hs
end
end Go.Proofs.YtpggfdnpbipckaaGreatDoor
/-! does of chapter 6's own answer: OpEmit, where it tells a pair. -/
namespace Go.Proofs.YtpggfdnpbipckaaGreatDoor
open Go.RowKit Go.Lib
set_option linter.unusedVariables false
set_option maxRecDepth 100000

variable {w0 : World} {b : Nat} {key : ByteArray} {vv vs vt : Value} {m : St} {w : World}
/-- append onto what the call owns, as one step of a region that draws its order; the slot is written out. -/
theorem step_append_at {P : Program} {ops : Array Oper} {o : Oper} {a : Act} {w : World} {K : Act → World → Prop} {Q : Exit → Act → World → Prop} {C : Prop}
    (d : Nat) (hdst : o.dst = some d) (hg : o.guard = none) (s x : Operand) (t : TypeId) (hop : o.op = Op.call { callee := Callee.builtin Builtin.append, args := #[s, x], argTypes := #[t, t] })
    (base : Nat) (e : TypeId) (i : TypeInfo) (z : Value) (size bytes : Nat) (h1 : P.underlying t = some (.slice e)) (h2 : P.info? e = some i) (h3 : i.zero = some z) (h4 : i.size = size) (h5 : i.bytes = bytes) (h6 : z.cells.size = size) (h7 : 0 < size)
    (v : Value) (n : Nat) (xs : List Value) (hs : a.eval s = v) (hown : w.ownsRow base e size v n xs)
    (ad : Addr) (m c : Nat) (news : List Value) (hx : a.eval x = .slice (some ad) m c) (hn : news.length = m * size) (hc : ∀ j u, news[j]? = some u → w.cell? (ad.add j) = some u) (h1c : ∀ u ∈ news, u.oneCell' = true)
    (b1 : n + m ≤ maxLen) (b2 : (n + m) * bytes ≤ 140737488355328) (hb : base ≤ w.heap.size)
    (hK : ∀ v' w', w'.ownsRow base e size v' (n + m) (xs ++ news) → w.grownBy w' v.ownBlock → K (a.put (some d) v') w') :
    if Region.wanted o (yielded ops a.tmps) = true then Oper.wp P o a w K Q else C :=
  step_append_own hg s x t hop base e i z size bytes h1 h2 h3 h4 h5 h6 h7 v n xs hs hown ad m c news hx hn hc h1c b1 b2 hb (by rw [hdst]; exact hK)
/-- The pairs' row has grown, and its slice is written anew. -/
theorem Mac.emitted (h : Mac w0 b key vv vs vt m w) {w' : World} {vt' : Value} {l : List Pr} (ho : w'.ownsRow w0.heap.size 41 2 vt' l.length (fl encP l)) (hg : w.grownBy w' vt.ownBlock) : Mac w0 b key vv vs vt' { m with told := l } (w'.setCell ⟨b, 28, none⟩ vt') := by
  obtain ⟨cs, hc, hC⟩ := h.blk
  have hb : w'.heap[b]? = some (.cells cs 69 (0, 0)) := (hg.block _ (Array.getElem?_eq_some_iff.1 hc).1 (fun e => owns_off h.tl hc (by decide) e.symm)).trans hc
  have hbel : Below w0.heap.size w0 w' := h.bel.grown hg h.bel.size (fun q hq => owns_base h.tl hq)
  refine ⟨below_set hbel h.base 28 vt', h.base, ⟨_, set_block hb 28 vt', ?_⟩, owns_set (owns_grown h.st h.tl (by decide) hg) hb (by decide) 28 vt', owns_set ho hb (by decide) 28 vt'⟩
  exact ⟨by simpa using hC.size, by rw [Array.getElem?_setIfInBounds_ne (by omega)]; exact hC.s, fun k hk i u hu => by
    have hi : i < 3 := by have := (List.getElem?_eq_some_iff.1 hu).1; rw [encV_len] at this; exact this
    rw [Array.getElem?_setIfInBounds_ne (by omega)]; exact hC.r k hk i u hu, by rw [Array.getElem?_setIfInBounds_ne (by omega)]; exact hC.k, by rw [Array.getElem?_setIfInBounds_ne (by omega)]; exact hC.v, by rw [Array.getElem?_setIfInBounds_ne (by omega)]; exact hC.t, by rw [set_self (by rw [hC.size]; omega)]⟩
theorem Mac.heldP (h : Mac w0 b key vv vs vt m w) {w' : World} (hg : w.grownBy w' vt.ownBlock) : w'.heap[b]? = w.heap[b]? := by
  obtain ⟨cs, hc, hC⟩ := h.blk
  exact hg.block _ (Array.getElem?_eq_some_iff.1 hc).1 (fun e => owns_off h.tl hc (by decide) e.symm)
theorem Mac.heldS (h : Mac w0 b key vv vs vt m w) {w' : World} (hg : w.grownBy w' vs.ownBlock) : w'.heap[b]? = w.heap[b]? := by
  obtain ⟨cs, hc, hC⟩ := h.blk
  exact hg.block _ (Array.getElem?_eq_some_iff.1 hc).1 (fun e => owns_off h.st hc (by decide) e.symm)
theorem Mac.freeAt (h : Mac w0 b key vv vs vt m w) {w' : World} (he : w'.heap[b]? = w.heap[b]?) (j : Nat) : w'.frozen? ⟨b, j, none⟩ = false := by
  obtain ⟨cs, hc, hC⟩ := h.blk
  exact free_of_cells (he.trans hc)
set_option maxHeartbeats 4000000 in
set_option maxRecDepth 100000 in
theorem does_emit (h : Mac w0 b key vv vs vt m w) (A : Int) (s : ByteArray) (v : Value) (k x : ByteArray) (hv : Vls w v [.text k, .text x]) (hk : k.size ≤ 16) (hm : m.told.length < 40) (hne : v.ownBlock ≠ some b) (hne2 : ∀ g, v.ownBlock = some g → vt.ownBlock ≠ some g) :
    Calls Tryz.prog 65 #[.pointer (some ⟨b, 0, none⟩), .agg #[.int .i64 23, .int .i64 A, .string s], v] w (Leaves w0 b key vv { m with told := m.told ++ [(k, x)] } []) := by
  obtain ⟨g, off, cap, rfl, h2, hlt, hc⟩ := hv.lie (by simp)
  obtain ⟨o0, o2, rfl⟩ := own_slice h.tl
  have hgb : g ≠ b := fun e => hne (by rw [e]; rfl)
  have hgt := hne2 g rfl
  have H1 := alloc1 w (Obj.cells #[.int .i64 23, .int .i64 A, .string s] 43)
  have c2 : (w.alloc (Obj.cells #[.int .i64 23, .int .i64 A, .string s] 43)).cell? ⟨g, off + 2, none⟩ = some (.string k) := (H1.cell (p := ⟨g, off + 2, none⟩) hlt).trans (by simpa using hc 0 _ rfl 2 _ rfl)
  have c5 : (w.alloc (Obj.cells #[.int .i64 23, .int .i64 A, .string s] 43)).cell? ⟨g, off + 3 + 2, none⟩ = some (.string x) := (H1.cell (p := ⟨g, off + 3 + 2, none⟩) hlt).trans (by simpa using hc 1 _ rfl 2 _ rfl)
  have HM := hid (h.on H1)
  have c28 : (w.alloc (Obj.cells #[.int .i64 23, .int .i64 A, .string s] 43)).cell? ⟨b, 28, none⟩ = some (.slice o0 m.told.length o2) := HM.out.cP
  have f28 := HM.out.free 28
  have hd : decide ((16 : Int) < (k.size : Int)) = false := by simp; omega
  have hd2 : decide ((40 : Int) ≤ (m.told.length : Int)) = false := by simp; omega
  have hlt2 : g < (w.alloc (Obj.cells #[.int .i64 23, .int .i64 A, .string s] 43)).heap.size := by simp; omega
  clear hc hv h hne hne2 H1 hlt
  simp only [List.length_cons, List.length_nil, Nat.zero_add, Nat.reduceAdd] at h2
  go_enter Tryz.func65, Tryz.ntmps65
  go_wp2_with fail
  generalize w.alloc (Obj.cells #[.int .i64 23, .int .i64 A, .string s] 43) = W at HM c2 c5 c28 f28 hlt2 ⊢
  have HA := below_then (alloc1 W (Obj.cells #[.string k, .string x] 41)) (drew1 _) (alloc1 W _).size
  have HX := hid (HM.out.on HA)
  have d28 : (W.alloc (Obj.cells #[.string k, .string x] 41)).cell? ⟨b, 28, none⟩ = some (.slice o0 m.told.length o2) := (HM.out.on (alloc1 W _)).cP
  obtain ⟨i0, hi, hz0, hz1, hz2⟩ := info_parts Tryz.infoP
  refine wp_region_held_drew (S := fun w' => w'.cell? ⟨g, off + 2, none⟩ = some (.string k) ∧ w'.cell? ⟨g, off + 3 + 2, none⟩ = some (.string x)) (by kernel_rfl) ⟨c2, c5⟩ (fun hHeld => ?_)
  refine takeH 0 251 (.pointer (some ⟨b, 0, none⟩)) rfl rfl (by kernel_rfl) (by kernel_rfl) (by kernel_rfl) (fun _ _ _ h => h) (by rfl) ?_ (by assumption) ?_
  · intro w' hSw
    go_simp
  simp only [Act.put, List.setIfInBounds_toArray, List.set_cons_zero, List.set_cons_succ]
  refine takeH 1 252 (.pointer (some ⟨b, 0, none⟩)) rfl rfl (by kernel_rfl) (by kernel_rfl) (by kernel_rfl) (fun _ _ _ h => h) (by rfl) ?_ (by assumption) ?_
  · intro w' hSw
    go_simp
  simp only [Act.put, List.setIfInBounds_toArray, List.set_cons_zero, List.set_cons_succ]
  refine takeH 2 253 (.pointer (some ⟨b, 0, none⟩)) rfl rfl (by kernel_rfl) (by kernel_rfl) (by kernel_rfl) (fun _ _ _ h => h) (by rfl) ?_ (by assumption) ?_
  · intro w' hSw
    go_simp
  simp only [Act.put, List.setIfInBounds_toArray, List.set_cons_zero, List.set_cons_succ]
  refine takeH 3 254 (.pointer (some ⟨b, 28, none⟩)) rfl rfl (by kernel_rfl) (by kernel_rfl) (by kernel_rfl) (fun _ _ _ h => h) (by rfl) ?_ (by assumption) ?_
  · intro w' hSw
    go_simp
  simp only [Act.put, List.setIfInBounds_toArray, List.set_cons_zero, List.set_cons_succ]
  refine takeH 5 256 (.slice (some ⟨g, off, none⟩) 2 cap) rfl rfl (by kernel_rfl) (by kernel_rfl) (by kernel_rfl) (fun _ _ _ h => h) (by rfl) ?_ (by assumption) ?_
  · intro w' hSw
    go_simp
  simp only [Act.put, List.setIfInBounds_toArray, List.set_cons_zero, List.set_cons_succ]
  refine takeH 6 257 (.pointer (some ⟨g, off, none⟩)) rfl rfl (by kernel_rfl) (by kernel_rfl) (by kernel_rfl) (fun _ _ _ h => h) (by rfl) ?_ (by assumption) ?_
  · intro w' hSw
    go_simp
  simp only [Act.put, List.setIfInBounds_toArray, List.set_cons_zero, List.set_cons_succ]
  refine takeH 7 258 (.pointer (some ⟨g, off + 2, none⟩)) rfl rfl (by kernel_rfl) (by kernel_rfl) (by kernel_rfl) (fun _ _ _ h => h) (by rfl) ?_ (by assumption) ?_
  · intro w' hSw
    go_simp
  simp only [Act.put, List.setIfInBounds_toArray, List.set_cons_zero, List.set_cons_succ]
  refine takeH 8 259 (.string k) rfl rfl (by kernel_rfl) (by kernel_rfl) (by kernel_rfl) (fun _ _ _ h => h) (by rfl) ?_ (by assumption) ?_
  · intro w' hSw
    go_simp
  simp only [Act.put, List.setIfInBounds_toArray, List.set_cons_zero, List.set_cons_succ]
  refine takeH 9 260 (.slice (some ⟨g, off, none⟩) 2 cap) rfl rfl (by kernel_rfl) (by kernel_rfl) (by kernel_rfl) (fun _ _ _ h => h) (by rfl) ?_ (by assumption) ?_
  · intro w' hSw
    go_simp
  simp only [Act.put, List.setIfInBounds_toArray, List.set_cons_zero, List.set_cons_succ]
  refine takeH 10 261 (.pointer (some ⟨g, off + 3, none⟩)) rfl rfl (by kernel_rfl) (by kernel_rfl) (by kernel_rfl) (fun _ _ _ h => h) (by rfl) ?_ (by assumption) ?_
  · intro w' hSw
    go_simp
  simp only [Act.put, List.setIfInBounds_toArray, List.set_cons_zero, List.set_cons_succ]
  refine takeH 11 262 (.pointer (some ⟨g, off + 3 + 2, none⟩)) rfl rfl (by kernel_rfl) (by kernel_rfl) (by kernel_rfl) (fun _ _ _ h => h) (by rfl) ?_ (by assumption) ?_
  · intro w' hSw
    go_simp
  simp only [Act.put, List.setIfInBounds_toArray, List.set_cons_zero, List.set_cons_succ]
  refine takeH 12 263 (.string x) rfl rfl (by kernel_rfl) (by kernel_rfl) (by kernel_rfl) (fun _ _ _ h => h) (by rfl) ?_ (by assumption) ?_
  · intro w' hSw
    go_simp
  simp only [Act.put, List.setIfInBounds_toArray, List.set_cons_zero, List.set_cons_succ]
  refine takeH 13 264 (.agg #[.string k, .string x]) rfl rfl (by kernel_rfl) (by kernel_rfl) (by kernel_rfl) (fun _ _ _ h => h) (by rfl) ?_ (by assumption) ?_
  · intro w' hSw
    go_simp
  simp only [Act.put, List.setIfInBounds_toArray, List.set_cons_zero, List.set_cons_succ]
  refine wpAnyH_ready (rs := [4, 14]) (by kernel_rfl) (by simp) (nextH 4 rfl (by rfl) (fun K hK => ?_) (nextH 14 rfl (by rfl) (fun K hK => ?_) AllReadyH.nil))
  · go_simp
    refine hK.out _ _ hHeld (fun hHeld => ?_)
    clear hK K
    refine wpAnyH_ready (rs := [14]) (by kernel_rfl) (by simp) (nextH 14 rfl (by rfl) (fun K hK => ?_) AllReadyH.nil)
    go_simp
    refine hK.out _ _ ⟨stays_cell HA hlt2 c2, stays_cell HA hlt2 c5⟩ (fun hHeld => ?_)
    clear hK K
    refine wpAnyH_ready (rs := [15]) (by kernel_rfl) (by simp) (AllReadyH.cons rfl (fun K hK => ?_) AllReadyH.nil)
    refine step_append_at 266 rfl rfl (.tmp 255) (.tmp 265) 28 rfl w0.heap.size 41 i0 _ 2 32 Tryz.underlying28 hi hz0 hz1 hz2 rfl (by decide) (.slice o0 m.told.length o2) m.told.length (fl encP m.told) (by simp [Act.eval]) HX.out.tl ⟨W.heap.size, 0, none⟩ 1 1 [.string k, .string x] (by simp [Act.eval]) rfl (two_new W _ _ _) (by intro u hu; simp at hu; rcases hu with rfl | rfl <;> rfl) (by unfold maxLen; omega) (by omega) (HX.out.bel.size) ?_
    intro v1 w2 ho1 hg1
    have HO := hid ho1
    have HG := hid hg1
    have hg2 : w2.heap[g]? = ((W.alloc (Obj.cells #[.string k, .string x] 41)).drew).heap[g]? := hg1.block g (Nat.lt_of_lt_of_le hlt2 HA.size) (fun e => hgt e.symm)
    have e2 := (World.cell?_of_block (a := ⟨g, off + 2, none⟩) hg2).trans (stays_cell HA hlt2 c2)
    have e5 := (World.cell?_of_block (a := ⟨g, off + 3 + 2, none⟩) hg2).trans (stays_cell HA hlt2 c5)
    have e28 : w2.cell? ⟨b, 28, none⟩ = some (.slice o0 m.told.length o2) := (World.cell?_of_block (a := ⟨b, 28, none⟩) (HX.out.heldP hg1)).trans HX.out.cP
    have g28 : w2.frozen? ⟨b, 28, none⟩ = false := HX.out.freeAt (HX.out.heldP hg1) 28
    obtain ⟨ao1, cc1, rfl⟩ := own_slice ho1
    clear ho1 hg1
    refine hK.out _ _ ⟨e2, e5⟩ (fun hHeld => ?_)
    clear hK K
    simp only [Act.put, List.setIfInBounds_toArray, List.set_cons_zero, List.set_cons_succ]
    refine takeH 16 267 (.pointer (some ⟨b, 0, none⟩)) rfl rfl (by kernel_rfl) (by kernel_rfl) (by kernel_rfl) (fun _ _ _ h => h) (by rfl) ?_ (by assumption) ?_
    · intro w' hSw
      go_simp
    simp only [Act.put, List.setIfInBounds_toArray, List.set_cons_zero, List.set_cons_succ]
    refine takeH 17 268 (.pointer (some ⟨b, 28, none⟩)) rfl rfl (by kernel_rfl) (by kernel_rfl) (by kernel_rfl) (fun _ _ _ h => h) (by rfl) ?_ (by assumption) ?_
    · intro w' hSw
      go_simp
    simp only [Act.put, List.setIfInBounds_toArray, List.set_cons_zero, List.set_cons_succ]
    refine wpAnyH_ready (rs := [18]) (by kernel_rfl) (by simp) (nextH 18 rfl (by rfl) (fun K hK => ?_) AllReadyH.nil)
    go_simp
    refine hK.out _ _ ⟨(set_cell_off hgb).trans e2, (set_cell_off hgb).trans e5⟩ (fun hHeld => ?_)
    clear hK K
    refine wpAnyH_done (by kernel_rfl) ?_ _
    go_wp2
    go_ret2
    exact ⟨_, _, _, rfl, Reads.nil _, HX.out.emitted (told_row HO.out) HG.out⟩
  · go_simp
    refine hK.out _ _ ⟨stays_cell HA hlt2 c2, stays_cell HA hlt2 c5⟩ (fun hHeld => ?_)
    clear hK K
    refine wpAnyH_ready (rs := [4]) (by kernel_rfl) (by simp) (nextH 4 rfl (by rfl) (fun K hK => ?_) AllReadyH.nil)
    go_simp
    refine hK.out _ _ hHeld (fun hHeld => ?_)
    clear hK K
    refine wpAnyH_ready (rs := [15]) (by kernel_rfl) (by simp) (AllReadyH.cons rfl (fun K hK => ?_) AllReadyH.nil)
    refine step_append_at 266 rfl rfl (.tmp 255) (.tmp 265) 28 rfl w0.heap.size 41 i0 _ 2 32 Tryz.underlying28 hi hz0 hz1 hz2 rfl (by decide) (.slice o0 m.told.length o2) m.told.length (fl encP m.told) (by simp [Act.eval]) HX.out.tl ⟨W.heap.size, 0, none⟩ 1 1 [.string k, .string x] (by simp [Act.eval]) rfl (two_new W _ _ _) (by intro u hu; simp at hu; rcases hu with rfl | rfl <;> rfl) (by unfold maxLen; omega) (by omega) (HX.out.bel.size) ?_
    intro v1 w2 ho1 hg1
    have HO := hid ho1
    have HG := hid hg1
    have hg2 : w2.heap[g]? = ((W.alloc (Obj.cells #[.string k, .string x] 41)).drew).heap[g]? := hg1.block g (Nat.lt_of_lt_of_le hlt2 HA.size) (fun e => hgt e.symm)
    have e2 := (World.cell?_of_block (a := ⟨g, off + 2, none⟩) hg2).trans (stays_cell HA hlt2 c2)
    have e5 := (World.cell?_of_block (a := ⟨g, off + 3 + 2, none⟩) hg2).trans (stays_cell HA hlt2 c5)
    have e28 : w2.cell? ⟨b, 28, none⟩ = some (.slice o0 m.told.length o2) := (World.cell?_of_block (a := ⟨b, 28, none⟩) (HX.out.heldP hg1)).trans HX.out.cP
    have g28 : w2.frozen? ⟨b, 28, none⟩ = false := HX.out.freeAt (HX.out.heldP hg1) 28
    obtain ⟨ao1, cc1, rfl⟩ := own_slice ho1
    clear ho1 hg1
    refine hK.out _ _ ⟨e2, e5⟩ (fun hHeld => ?_)
    clear hK K
    simp only [Act.put, List.setIfInBounds_toArray, List.set_cons_zero, List.set_cons_succ]
    refine takeH 16 267 (.pointer (some ⟨b, 0, none⟩)) rfl rfl (by kernel_rfl) (by kernel_rfl) (by kernel_rfl) (fun _ _ _ h => h) (by rfl) ?_ (by assumption) ?_
    · intro w' hSw
      go_simp
    simp only [Act.put, List.setIfInBounds_toArray, List.set_cons_zero, List.set_cons_succ]
    refine takeH 17 268 (.pointer (some ⟨b, 28, none⟩)) rfl rfl (by kernel_rfl) (by kernel_rfl) (by kernel_rfl) (fun _ _ _ h => h) (by rfl) ?_ (by assumption) ?_
    · intro w' hSw
      go_simp
    simp only [Act.put, List.setIfInBounds_toArray, List.set_cons_zero, List.set_cons_succ]
    refine wpAnyH_ready (rs := [18]) (by kernel_rfl) (by simp) (nextH 18 rfl (by rfl) (fun K hK => ?_) AllReadyH.nil)
    go_simp
    refine hK.out _ _ ⟨(set_cell_off hgb).trans e2, (set_cell_off hgb).trans e5⟩ (fun hHeld => ?_)
    clear hK K
    refine wpAnyH_done (by kernel_rfl) ?_ _
    go_wp2
    go_ret2
    exact ⟨_, _, _, rfl, Reads.nil _, HX.out.emitted (told_row HO.out) HG.out⟩
end Go.Proofs.YtpggfdnpbipckaaGreatDoor
