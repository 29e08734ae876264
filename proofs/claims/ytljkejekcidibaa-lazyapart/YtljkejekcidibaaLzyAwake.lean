/- What staithelaw3.awake does. -/
import Derived.Test.YtljkejekcidibaaLzyGet
namespace Go.Proofs.Ytljkejekcidibaa
open Go.RowKit
set_option linter.unusedVariables false

theorem enter_fn {G : Nat} {fn : Func} (hf : Try.prog.funcs[G]? = some fn) (hn : (fn.name == "runtime.NumGoroutine") = false) (hb : fn.body.isNone = false) (c : Array Value) (x : World) : (callFunc G c).run Try.prog x = .ok (.enter G c) x := by
  have h1 : ¬ fn.name = "runtime.NumGoroutine" := by intro h; rw [h] at hn; simp at hn
  have h2 : ¬ fn.body = Option.none := by intro h; rw [h] at hb; simp at hb
  simp [callFunc, hf, h1, h2]

theorem awake1_any (x : World) : Calls Try.prog 13 #[] x fun e y => e = .returned (.string ⟨#[97]⟩) ∧ Sav Non x y ∧ True := by
  go_enter Try.func13, Try.ntmps13
  go_wp2
  go_ret
  exact ⟨rfl, Sav.refl _ _, trivial⟩

theorem lawake_any (w : World) : Calls Try.prog 6 #[] w fun e w' => e = .returned (.bool true) ∧ Below w.heap.size w w' := by
  have hnot : ∀ (x : Bool) (w : World), (Op.unary .not (.bool x)).run Try.prog w = .ok (.bool (!x)) w := fun _ _ => rfl
  go_enter Try.func6, Try.ntmps6
  go_wp2_with fail
  refine (lnew_fn _ _ _ w).mono ?_
  rintro e w1 ⟨rfl, hw1⟩
  have hb1 : w1.heap[w.heap.size]? = some (clObj 0 0 0 (.func (.func 13) #[] #[]) ByteArray.empty) := by rw [hw1]; exact new_block _ _
  have hs1 : Sav Non w w1 := by rw [hw1]; exact (Sav.refl _ _).alloc _
  clear hw1
  have HB1 := hid hb1
  have HS1 := hid hs1
  clear hb1 hs1
  have h00 : ((0 : Int) != 0) = false := rfl
  have h10 : ((1 : Int) != 0) = true := rfl
  go_wp2_with fail
  refine (made_any _ 0 w1 (cell_of_cells HB1.out)).mono ?_
  rintro e w2 ⟨rfl, rfl⟩
  rw [h00]
  go_wp2_with fail
  refine (get_first w.heap.size _ ⟨#[97]⟩ Non (fun _ => True) w1 HB1.out (fun h => h) (fun _ _ _ _ => trivial) (fun x hx => textOf_fn 13 #[] ⟨#[97]⟩ Non (fun _ => True) x (enter_fn Try.func13 (by kernel_rfl) (by kernel_rfl) _) (fun _ h => h.elim) (fun _ _ _ _ => trivial) (fun y _ => awake1_any y))).mono ?_
  rintro e w3 ⟨rfl, hb3, hs3, -⟩
  have HB3 := hid hb3
  have HS3 := hid (HS1.out.then hs3 (fun i hi h => h.elim (fun h => h) (fun h => by unfold Non; omega)))
  clear hb3 hs3
  go_wp2_with fail
  refine (made_any _ 1 w3 (cell_of_cells HB3.out)).mono ?_
  rintro e w2 ⟨rfl, rfl⟩
  rw [h10]
  go_wp2
  go_ret
  exact ⟨rfl, HS3.out.below (fun _ h => h.elim) (Nat.le_refl _)⟩
end Go.Proofs.Ytljkejekcidibaa
