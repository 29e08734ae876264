/- The tally that counts the lost ones: its first counter. -/
import Derived.Test.YtocedfagfmkgdaaTal
import Derived.Test.YtocedfagfmkgdaaLtRow
namespace Go.Proofs.Ytocedfagfmkgdaa
open Go.RowKit
set_option linter.unusedVariables false

/-- A tally whose first counter is n, the others 0. -/
def Ty (w : World) (t n : Nat) : Prop := w.heap[t]? = some (.cells #[.int .i64 n, .int .i64 0, .int .i64 0, .int .i64 0, .int .i64 0, .int .i64 0, .int .i64 0, .int .i64 0] 71 (0, 0))
def cts (n : Nat) : List Int := [n, 0, 0, 0, 0, 0, 0, 0]
theorem Ty.tl {w : World} {t n : Nat} (h : Ty w t n) : Tl w t (cts n) := by
  refine ⟨rfl, lt_of_block h, fun j hj => ⟨?_, free_of_cells h⟩⟩
  rw [cell_of_cells h]
  match j, hj with
  | 0, _ => rfl
  | 1, _ => rfl
  | 2, _ => rfl
  | 3, _ => rfl
  | 4, _ => rfl
  | 5, _ => rfl
  | 6, _ => rfl
  | 7, _ => rfl
theorem Ty.below {w w' : World} {t n : Nat} (h : Ty w t n) (hb : Below w.heap.size w w') : Ty w' t n := (hb.block _ (lt_of_block h)).trans h
theorem Ty.sav {S : Nat → Prop} {w w' : World} {t n : Nat} (h : Ty w t n) (hs : Sav S w w') (hn : ¬ S t) : Ty w' t n := hs.at h hn
theorem Ty.lt {w : World} {t n : Nat} (h : Ty w t n) : t < w.heap.size := lt_of_block h
theorem Ty.new (w : World) : Ty (w.alloc (.cells #[.int .i64 0, .int .i64 0, .int .i64 0, .int .i64 0, .int .i64 0, .int .i64 0, .int .i64 0, .int .i64 0] 71)) w.heap.size 0 := new_block _ _
set_option maxHeartbeats 400000 in
theorem change_one (b n : Nat) (a : Addr) (w : World) (hc : Ty w b n) (h : w.cell? a = some (.int .i64 1)) (hn : n ≤ 1000) :
    Calls Try.prog 31 #[.pointer (some ⟨b, 0, none⟩), .int .i64 0, .func (.func 32) #[] #[.pointer (some a)]] w fun e w' => e = .returned (.int .i64 (min ((n : Int) + 1) 1099511627776)) ∧ w' = w.setCell ⟨b, 0, none⟩ (.int .i64 (min ((n : Int) + 1) 1099511627776)) := by
  have hnot : ∀ (x : Bool) (w : World), (Op.unary .not (.bool x)).run Try.prog w = .ok (.bool (!x)) w := fun _ _ => rfl
  have HC := hid (show w.cell? ⟨b, 0, none⟩ = some (.int .i64 n) from (hc.tl.2.2 0 (by omega)).1)
  have HF := hid (hc.tl.2.2 0 (by omega)).2
  clear hc
  have HN := hid h
  clear h
  go_enter Try.func31, Try.ntmps31
  go_wp2_with fail
  refine (has_any _ _ w).mono ?_
  rintro e w1 ⟨rfl, rfl⟩
  rw [decide_eq_true (show (0 : Int) ≤ 0 ∧ (0 : Int) < 8 by omega)]
  go_wp2_with fail
  refine wp_loop_rounds 1 ?_
  rw [rounds_succ]
  go_wp2_with fail
  refine (load_any _ _ w HC.out).mono ?_
  rintro e w1 ⟨rfl, rfl⟩
  go_wp2_with fail
  refine (nextAdd_any _ 1 a w HN.out (by omega) (by omega)).mono ?_
  rintro e w1 ⟨rfl, rfl⟩
  go_wp2_with fail
  refine (cas_any _ _ _ w HC.out HF.out).mono ?_
  rintro e w1 ⟨rfl, rfl⟩
  go_wp2
  go_ret
  exact ⟨rfl, rfl⟩
set_option maxHeartbeats 400000 in
theorem add_one (b n : Nat) (w : World) (hc : Ty w b n) (hn : n ≤ 1000) : Calls Try.prog 23 #[.pointer (some ⟨b, 0, none⟩), .int .i64 0, .int .i64 1] w fun e w' => (∃ v, e = .returned v) ∧ Ty w' b (n + 1) ∧ Sav (Just b) w w' := by
  have hmf : ∀ (fn : Fn) (first cap : Array Value) (w : World), (Instr.makeFunc fn first cap).run Try.prog w = .ok (.func fn first cap) w := fun _ _ _ _ => rfl
  have HC := hid (hc.below (below_box w (.int .i64 1) 3))
  clear hc
  go_enter Try.func23, Try.ntmps23
  go_wp2_with fail
  refine (change_one b n _ _ HC.out (by simp) hn).mono ?_
  rintro e w1 ⟨rfl, rfl⟩
  go_wp2
  go_ret
  refine ⟨⟨_, rfl⟩, ?_, ((Sav.refl _ w).alloc _).setCell (just b) 0 _⟩
  have := set_same (j := 0) (v := .int .i64 (min ((n : Int) + 1) 1099511627776)) HC.out
  rw [show min ((n : Int) + 1) 1099511627776 = ((n + 1 : Nat) : Int) by omega] at this ⊢
  unfold Ty
  simpa using this
theorem get_one (b n : Nat) (w : World) (hc : Ty w b n) : Calls Try.prog 24 #[.pointer (some ⟨b, 0, none⟩), .int .i64 0] w fun e w' => e = .returned (.int .i64 (n : Int)) ∧ w = w' :=
  (get_any b 0 (cts n) w hc.tl).mono fun e w' ⟨h1, h2⟩ => ⟨h1.trans (by rw [show (0 : Int) = ((0 : Nat) : Int) from rfl, vl_at 0 (by omega)]; rfl), h2⟩
end Go.Proofs.Ytocedfagfmkgdaa
