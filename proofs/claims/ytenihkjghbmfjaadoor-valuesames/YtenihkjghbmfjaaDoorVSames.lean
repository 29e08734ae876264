/- ValueSames' walk: which values are the same, beside the reference's, whatever the fields that do not count hold. -/
import Derived.Test.YtenihkjghbmfjaaDoorVAwake
import Derived.Handy
import Derived.Deep.RegionHeld3
namespace Go.Proofs.YtenihkjghbmfjaaDoor
open Go.RowKit Go.Lib
set_option linter.unusedVariables false

/-- Four values lie in four old blocks of w'; what is below them is as in w. -/
structure Fo (w : World) (A B C D : Nat) (t : Bool) (n : Int) (x : ByteArray) (u : Bool) (m : Int) (y : ByteArray) (cn : Int) (cx : ByteArray) (d : Bool) (w' : World) : Prop where
  tabs : Tabs w'
  below : Below w.heap.size w w'
  la : A < w'.heap.size
  lb : B < w'.heap.size
  lc : C < w'.heap.size
  ld : D < w'.heap.size
  eqs : w'.cell? ⟨A, 0, none⟩ = some (.bool t) ∧ w'.cell? ⟨A, 1, none⟩ = some (.int .i64 n) ∧ w'.cell? ⟨A, 2, none⟩ = some (.string x) ∧ w'.cell? ⟨B, 0, none⟩ = some (.bool u) ∧ w'.cell? ⟨B, 1, none⟩ = some (.int .i64 m) ∧ w'.cell? ⟨B, 2, none⟩ = some (.string y) ∧ w'.cell? ⟨C, 0, none⟩ = some (.bool t) ∧ w'.cell? ⟨C, 1, none⟩ = some (.int .i64 cn) ∧ w'.cell? ⟨C, 2, none⟩ = some (.string cx) ∧ w'.cell? ⟨D, 0, none⟩ = some (.bool d) ∧ w'.cell? ⟨D, 1, none⟩ = some (.int .i64 n) ∧ w'.cell? ⟨D, 2, none⟩ = some (.string x)

theorem Fo.on {w : World} {A B C D : Nat} {t : Bool} {n : Int} {x : ByteArray} {u : Bool} {m : Int} {y : ByteArray} {cn : Int} {cx : ByteArray} {d : Bool} {w1 w2 : World}
    (h : Fo w A B C D t n x u m y cn cx d w1) (hb : Below w1.heap.size w1 w2) : Fo w A B C D t n x u m y cn cx d w2 := by
  obtain ⟨ht, hw, la, lb, lc, ld, a0, a1, a2, b0, b1, b2, c0, c1, c2, d0, d1, d2⟩ := h
  have hz := hb.size
  refine ⟨ht.on hb, below_next hw hb, by omega, by omega, by omega, by omega, ?_⟩
  refine ⟨?_, ?_, ?_, ?_, ?_, ?_, ?_, ?_, ?_, ?_, ?_, ?_⟩
  · exact (hb.cell la).trans a0
  · exact (hb.cell la).trans a1
  · exact (hb.cell la).trans a2
  · exact (hb.cell lb).trans b0
  · exact (hb.cell lb).trans b1
  · exact (hb.cell lb).trans b2
  · exact (hb.cell lc).trans c0
  · exact (hb.cell lc).trans c1
  · exact (hb.cell lc).trans c2
  · exact (hb.cell ld).trans d0
  · exact (hb.cell ld).trans d1
  · exact (hb.cell ld).trans d2

theorem same_sym (t u : Bool) (n m : Int) (x y : ByteArray) : sameOf u t m n y x = sameOf t u n m x y := by
  unfold sameOf
  cases t <;> cases u <;> simp [BEq.comm]

set_option maxHeartbeats 1000000 in
set_option maxRecDepth 100000 in
theorem valueSames_plain (w : World) (T : Tabs w) (t u : Bool) (n m : Int) (x y : ByteArray) :
    Calls Tryd.prog 4 #[val t n x, val u m y] w fun e w' => e = .returned (.bool true) ∧ Below w.heap.size w w' := by
  have hb2 : ∀ o1 o2, Below w.heap.size w ((w.alloc o1).alloc o2) := fun o1 o2 => ((Below.refl _ w).alloc (Nat.le_refl _) o1).alloc (by simp) o2
  by_cases hx : 100 < x.size
  · have hd : decide ((100 : Int) < (x.size : Int)) = true := by simp; omega
    go_enter Tryd.func4, Tryd.ntmps4
    go_wp2_with fail
    refine (awake_calls _ (T.on (hb2 _ _))).mono ?_
    rintro e w1 ⟨rfl, hb1⟩
    go_wp2
    go_ret
    exact ⟨rfl, below_next (hb2 _ _) hb1⟩
  have hx' : (x.size : Int) ≤ 100 := by omega
  by_cases hy : 100 < y.size
  · have hd : decide ((100 : Int) < (y.size : Int)) = true := by simp; omega
    go_enter Tryd.func4, Tryd.ntmps4
    go_wp2_with fail
    refine (awake_calls _ (T.on (hb2 _ _))).mono ?_
    rintro e w1 ⟨rfl, hb1⟩
    go_wp2
    go_ret
    exact ⟨rfl, below_next (hb2 _ _) hb1⟩
  have hy' : (y.size : Int) ≤ 100 := by omega
  obtain ⟨r, hr1⟩ : ∃ r, sameOf t u n m x y = r := ⟨_, rfl⟩
  have hr2 : sameOf u t m n y x = r := (same_sym t u n m x y).trans hr1
  have HR1 := hid hr1
  have HR2 := hid hr2
  clear hr1 hr2
  cases t
  · have hr3 : Hid (sameOf false false n n x y = true) := by show sameOf false false n n x y = true; simp [sameOf]
    have hr4 : Hid (sameOf false true n n x x = false) := by show sameOf false true n n x x = false; simp [sameOf]
    have F : Fo w w.heap.size (w.heap.size + 1) (w.heap.size + 1 + 1) (w.heap.size + 1 + 1 + 1) false n x u m y n y true ((((w.alloc (Obj.cells #[.bool false, .int .i64 n, .string x] 28)).alloc (Obj.cells #[.bool u, .int .i64 m, .string y] 28)).alloc (Obj.cells #[.bool false, .int .i64 n, .string y] 28)).alloc (Obj.cells #[.bool true, .int .i64 n, .string x] 28)) := by
      have hb : Below w.heap.size w ((((w.alloc (Obj.cells #[.bool false, .int .i64 n, .string x] 28)).alloc (Obj.cells #[.bool u, .int .i64 m, .string y] 28)).alloc (Obj.cells #[.bool false, .int .i64 n, .string y] 28)).alloc (Obj.cells #[.bool true, .int .i64 n, .string x] 28)) := by go_grown
      refine ⟨T.on hb, hb, by first | (simp; done) | (simp; omega), by first | (simp; done) | (simp; omega), by first | (simp; done) | (simp; omega), by first | (simp; done) | (simp; omega), ?_⟩
      refine ⟨?_, ?_, ?_, ?_, ?_, ?_, ?_, ?_, ?_, ?_, ?_, ?_⟩ <;> simp [go_sem]
    have HT := hid T
    clear T hb2
    go_enter Tryd.func4, Tryd.ntmps4
    go_wp2_with fail
    generalize ((((w.alloc (Obj.cells #[.bool false, .int .i64 n, .string x] 28)).alloc (Obj.cells #[.bool u, .int .i64 m, .string y] 28)).alloc (Obj.cells #[.bool false, .int .i64 n, .string y] 28)).alloc (Obj.cells #[.bool true, .int .i64 n, .string x] 28)) = W at F ⊢
    generalize w.heap.size + 1 + 1 + 1 = D at F ⊢
    generalize w.heap.size + 1 + 1 = C at F ⊢
    generalize w.heap.size + 1 = B at F ⊢
    generalize w.heap.size = A at F ⊢
    have Fd := F.on (w2 := W.drew) (by go_grown)
    clear F
    go_region_held3 (fun w' => w'.cell? ⟨A, 0, none⟩ = some (.bool false) ∧ w'.cell? ⟨A, 1, none⟩ = some (.int .i64 n) ∧ w'.cell? ⟨A, 2, none⟩ = some (.string x) ∧ w'.cell? ⟨B, 0, none⟩ = some (.bool u) ∧ w'.cell? ⟨B, 1, none⟩ = some (.int .i64 m) ∧ w'.cell? ⟨B, 2, none⟩ = some (.string y) ∧ w'.cell? ⟨C, 0, none⟩ = some (.bool false) ∧ w'.cell? ⟨C, 1, none⟩ = some (.int .i64 n) ∧ w'.cell? ⟨C, 2, none⟩ = some (.string y) ∧ w'.cell? ⟨D, 0, none⟩ = some (.bool true) ∧ w'.cell? ⟨D, 1, none⟩ = some (.int .i64 n) ∧ w'.cell? ⟨D, 2, none⟩ = some (.string x)) (exact Fo.eqs (by assumption))
      (first | (go_at_call 18; refine (value_Same_calls _ _ _ _ _ _ _).mono ?_; rintro e w5 ⟨rfl, hb5⟩; have F5 := Fo.on (by assumption) hb5; first | rw [show sameOf false u n m x y = r from HR1] | rw [show sameOf u false m n y x = r from HR2] | rw [show sameOf false false n n x y = true from hr3] | rw [show sameOf false true n n x x = false from hr4]) | (go_at_call 19; refine (staitheref4_Same_calls _ _ _ _ _ _ _).mono ?_; rintro e w6 ⟨rfl, hb6⟩; have F6 := Fo.on (by assumption) hb6; rw [show sameOf false u n m x y = r from HR1]) | (go_at_call 7; refine (awake_calls _ (Fo.tabs (by assumption))).mono ?_; rintro e w7 ⟨rfl, hb7⟩; have F7 := Fo.on (by assumption) hb7))
    go_wp2
    go_ret
    exact ⟨rfl, F7.below⟩
  · have hr3 : Hid (sameOf true true n m x x = true) := by show sameOf true true n m x x = true; simp [sameOf]
    have hr4 : Hid (sameOf true false n n x x = false) := by show sameOf true false n n x x = false; simp [sameOf]
    have F : Fo w w.heap.size (w.heap.size + 1) (w.heap.size + 1 + 1) (w.heap.size + 1 + 1 + 1) true n x u m y m x false ((((w.alloc (Obj.cells #[.bool true, .int .i64 n, .string x] 28)).alloc (Obj.cells #[.bool u, .int .i64 m, .string y] 28)).alloc (Obj.cells #[.bool true, .int .i64 m, .string x] 28)).alloc (Obj.cells #[.bool false, .int .i64 n, .string x] 28)) := by
      have hb : Below w.heap.size w ((((w.alloc (Obj.cells #[.bool true, .int .i64 n, .string x] 28)).alloc (Obj.cells #[.bool u, .int .i64 m, .string y] 28)).alloc (Obj.cells #[.bool true, .int .i64 m, .string x] 28)).alloc (Obj.cells #[.bool false, .int .i64 n, .string x] 28)) := by go_grown
      refine ⟨T.on hb, hb, by first | (simp; done) | (simp; omega), by first | (simp; done) | (simp; omega), by first | (simp; done) | (simp; omega), by first | (simp; done) | (simp; omega), ?_⟩
      refine ⟨?_, ?_, ?_, ?_, ?_, ?_, ?_, ?_, ?_, ?_, ?_, ?_⟩ <;> simp [go_sem]
    have HT := hid T
    clear T hb2
    go_enter Tryd.func4, Tryd.ntmps4
    go_wp2_with fail
    generalize ((((w.alloc (Obj.cells #[.bool true, .int .i64 n, .string x] 28)).alloc (Obj.cells #[.bool u, .int .i64 m, .string y] 28)).alloc (Obj.cells #[.bool true, .int .i64 m, .string x] 28)).alloc (Obj.cells #[.bool false, .int .i64 n, .string x] 28)) = W at F ⊢
    generalize w.heap.size + 1 + 1 + 1 = D at F ⊢
    generalize w.heap.size + 1 + 1 = C at F ⊢
    generalize w.heap.size + 1 = B at F ⊢
    generalize w.heap.size = A at F ⊢
    have Fd := F.on (w2 := W.drew) (by go_grown)
    clear F
    go_region_held3 (fun w' => w'.cell? ⟨A, 0, none⟩ = some (.bool true) ∧ w'.cell? ⟨A, 1, none⟩ = some (.int .i64 n) ∧ w'.cell? ⟨A, 2, none⟩ = some (.string x) ∧ w'.cell? ⟨B, 0, none⟩ = some (.bool u) ∧ w'.cell? ⟨B, 1, none⟩ = some (.int .i64 m) ∧ w'.cell? ⟨B, 2, none⟩ = some (.string y) ∧ w'.cell? ⟨C, 0, none⟩ = some (.bool true) ∧ w'.cell? ⟨C, 1, none⟩ = some (.int .i64 m) ∧ w'.cell? ⟨C, 2, none⟩ = some (.string x) ∧ w'.cell? ⟨D, 0, none⟩ = some (.bool false) ∧ w'.cell? ⟨D, 1, none⟩ = some (.int .i64 n) ∧ w'.cell? ⟨D, 2, none⟩ = some (.string x)) (exact Fo.eqs (by assumption))
      (first | (go_at_call 18; refine (value_Same_calls _ _ _ _ _ _ _).mono ?_; rintro e w5 ⟨rfl, hb5⟩; have F5 := Fo.on (by assumption) hb5; first | rw [show sameOf true u n m x y = r from HR1] | rw [show sameOf u true m n y x = r from HR2] | rw [show sameOf true true n m x x = true from hr3] | rw [show sameOf true false n n x x = false from hr4]) | (go_at_call 19; refine (staitheref4_Same_calls _ _ _ _ _ _ _).mono ?_; rintro e w6 ⟨rfl, hb6⟩; have F6 := Fo.on (by assumption) hb6; rw [show sameOf true u n m x y = r from HR1]) | (go_at_call 7; refine (awake_calls _ (Fo.tabs (by assumption))).mono ?_; rintro e w7 ⟨rfl, hb7⟩; have F7 := Fo.on (by assumption) hb7))
    go_wp2
    go_ret
    exact ⟨rfl, F7.below⟩

end Go.Proofs.YtenihkjghbmfjaaDoor
