/- The walk of LazyLate. -/
import Derived.Test.YtljkejekcidibaaLzyAwake
namespace Go.Proofs.Ytljkejekcidibaa
open Go.RowKit
set_option linter.unusedVariables false

theorem late1_any (p : Nat) (t : ByteArray) (x : World) (h : x.heap[p]? = some (.cells #[.string t] 9 (0, 0))) : Calls Try.prog 12 #[.pointer (some ⟨p, 0, none⟩)] x fun e y => e = .returned (.string t) ∧ Sav Non x y ∧ True := by
  have hc := cell_of_one h
  clear h
  go_enter Try.func12, Try.ntmps12
  go_wp2
  go_ret
  exact ⟨rfl, Sav.refl _ _, trivial⟩

set_option maxHeartbeats 1600000 in
set_option maxRecDepth 100000 in
theorem lazyLate_walk (W : World) (a : ByteArray) (ha : a.size ≤ maxLen) (b : ByteArray) (hb : b.size ≤ maxLen) (c : ByteArray) (hc : c.size ≤ maxLen) :
    Calls Try.prog 5 #[.string a, .string b, .string c] W fun e W' => e = .returned (.bool true) ∧ Below W.heap.size W W' := by
  unfold maxLen at ha hb hc
  by_cases hbig : 100 < a.size ∨ 100 < b.size ∨ 100 < c.size
  · go_enter Try.func5, Try.ntmps5
    go_wp2_with fail
    all_goals
      refine (lawake_any W).mono ?_
      rintro e w1 ⟨rfl, hw⟩
      have HW := hid hw
      clear hw
      go_wp2
      go_ret
      exact ⟨rfl, HW.out⟩
  · have h1 : ¬ (100 : Int) < (a.size : Int) := by omega
    have h2 : ¬ (100 : Int) < (b.size : Int) := by omega
    have h3 : ¬ (100 : Int) < (c.size : Int) := by omega
    have hmf : ∀ (fn : Fn) (first cap : Array Value) (w : World), (Instr.makeFunc fn first cap).run Try.prog w = .ok (.func fn first cap) w := fun _ _ _ _ => rfl
    clear hbig ha hb hc
    go_enter Try.func5, Try.ntmps5
    go_wp2_with fail
    have hp0 : (W.alloc (.cells #[.string a] 9)).heap[W.heap.size]? = some (.cells #[.string a] 9 (0, 0)) := new_block _ _
    have hs0 : Sav Non W (W.alloc (.cells #[.string a] 9)) := (Sav.refl _ _).alloc _
    have HP0 := hid hp0
    have HS0 := hid hs0
    clear hp0 hs0
    generalize W.alloc (.cells #[.string a] 9) = w0 at *
    refine (lnew_fn _ _ _ w0).mono ?_
    rintro e w1 ⟨rfl, hw1⟩
    have hb1 : w1.heap[w0.heap.size]? = some (clObj 0 0 0 (.func (.func 12) #[] #[.pointer (some ⟨W.heap.size, 0, none⟩)]) ByteArray.empty) := by rw [hw1]; exact new_block _ _
    have hs1 : Sav Non w0 w1 := by rw [hw1]; exact (Sav.refl _ _).alloc _
    have hp1 := hs1.at HP0.out (fun h => h)
    have hs2 := HS0.out.trans hs1
    have hne : W.heap.size ≠ w0.heap.size := by have := lt_of_block HP0.out; omega
    have hle : W.heap.size ≤ w0.heap.size := HS0.out.size
    clear hw1 hs1 HP0 HS0
    generalize hQ : w0.heap.size = q at *
    generalize hP : W.heap.size = p at *
    have HP := hid hP
    clear hQ hP
    have HB1 := hid hb1
    have cp1 := cell_of_one hp1
    have zp1 := free_of_one hp1
    have HP1 := hid (one_setCell (u := .string b) hp1)
    have HS1 := hid hs2
    have HN := hid hne
    have HL := hid hle
    clear hb1 hp1 hs2 hne hle
    go_wp2_with fail
    have hb2 : (w1.setCell ⟨p, 0, none⟩ (.string b)).heap[q]? = some (clObj 0 0 0 (.func (.func 12) #[] #[.pointer (some ⟨p, 0, none⟩)]) ByteArray.empty) := (Below.heap_setCell _ _ _ _ (Ne.symm HN.out)).trans HB1.out
    have hs2 : Sav Non W (w1.setCell ⟨p, 0, none⟩ (.string b)) := HS1.out.setNew (by rw [HP.out]; exact Nat.le_refl _) 0 _
    have hp2 := HP1.out
    clear HB1 HP1 HS1 cp1 zp1
    generalize w1.setCell ⟨p, 0, none⟩ (.string b) = w2 at *
    refine (get_first q _ b Non (fun _ => True) w2 hb2 (fun h => h) (fun _ _ _ _ => trivial) (fun x hx => textOf_fn 12 #[.pointer (some ⟨p, 0, none⟩)] b Non (fun _ => True) x (enter_fn Try.func12 (by kernel_rfl) (by kernel_rfl) _) (fun _ h => h.elim) (fun _ _ _ _ => trivial) (fun y hy => late1_any p b y (hy.at (hx.at hp2 HN.out) (fun h => h))))).mono ?_
    rintro e w3 ⟨rfl, hb3, hs3, -⟩
    have hp3 := hs3.at hp2 (fun h => h.elim (fun h => h) HN.out)
    have hs4 := hs2.then hs3 (fun i hi h => h.elim (fun h => h) (fun h => by have := HP.out; have := HL.out; unfold Non; omega))
    clear hb2 hs2 hs3 hp2
    have HB3 := hid hb3
    have HS3 := hid hs4
    have cp3 := cell_of_one hp3
    have zp3 := free_of_one hp3
    clear hb3 hs4 hp3
    go_wp2_with fail
    have hb4 : (w3.setCell ⟨p, 0, none⟩ (.string c)).heap[q]? = some (clObj 1 0 1 .nilFunc b) := (Below.heap_setCell _ _ _ _ (Ne.symm HN.out)).trans HB3.out
    have hs4 : Sav Non W (w3.setCell ⟨p, 0, none⟩ (.string c)) := HS3.out.setNew (by rw [HP.out]; exact Nat.le_refl _) 0 _
    clear HB3 HS3 cp3 zp3
    generalize w3.setCell ⟨p, 0, none⟩ (.string c) = w4 at *
    have HS4 := hid hs4
    clear hs4
    refine (get_done q 0 1 .nilFunc b w4 hb4).mono ?_
    rintro e w5 ⟨rfl, rfl⟩
    clear hb4
    go_wp2_with fail
    refine (lawake_any w4).mono ?_
    rintro e w5 ⟨rfl, hw⟩
    have HW := hid ((HS4.out.below (fun _ h => h.elim) (Nat.le_refl _)).trans (hw.mono HS4.out.size))
    clear hw
    go_wp2
    go_ret
    exact ⟨rfl, HW.out⟩
end Go.Proofs.Ytljkejekcidibaa
