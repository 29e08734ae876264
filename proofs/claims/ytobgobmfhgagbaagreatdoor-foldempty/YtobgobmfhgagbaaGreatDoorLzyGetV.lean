/- What lazy.Cell's Get does: the first time, and from then on. -/
import Derived.Test.YtobgobmfhgagbaaGreatDoorLzyV
import Derived.Laws.EntriesVeiled
namespace Go.Proofs.YtobgobmfhgagbaaGreatDoor
open Go.RowKit
set_option linter.unusedVariables false
set_option maxRecDepth 100000

/-- Within the once: the flag is set, what makes the text is forgotten, the text is kept. -/
theorem fill_any (b : Nat) (f : Value) (t : ByteArray) (S : Nat → Prop) (Q : World → Prop) (w : World) (hb : w.heap[b]? = some (clObj 0 1 0 f ByteArray.empty)) (hS : ¬ S b)
    (hQ : ∀ x y, Sav (Just b) x y → Q x → Q y)
    (hT : ∀ x, Sav (Just b) w x → Calls Tryz.prog 112 #[f] x fun e y => e = .returned (.string t) ∧ Sav S x y ∧ Q y) :
    Calls Tryz.prog 101 #[.pointer (some ⟨b, 0, none⟩)] w fun e w' => e = .returned (.tuple #[]) ∧ w'.heap[b]? = some (clObj 0 1 1 .nilFunc t) ∧ Sav (Also S b) w w' ∧ Q w' := by
  have HQ := hid hQ
  have HS := hid hS
  have HT := hid hT
  have HB := hid hb
  clear hQ hS hT hb
  have h3 : w.cell? ⟨b, 3, none⟩ = some (.int .u32 0) := cell_of_cells HB.out
  have f3 : w.frozen? ⟨b, 3, none⟩ = false := free_of_cells HB.out
  have H3 := hid h3
  have F3 := hid f3
  clear h3 f3
  go_enter Tryz.func101, Tryz.ntmps101
  go_wp2_with fail
  refine (bstore_any _ _ w H3.out F3.out).mono ?_
  rintro e w1 ⟨rfl, hw1⟩
  have hb1 : w1.heap[b]? = some (clObj 0 1 1 f ByteArray.empty) := by
    rw [hw1]
    exact heap_setCell_same w.drew b 3 _ _ _ HB.out
  have hs1 : Sav (Just b) w w1 := by
    rw [hw1]
    exact ((Sav.refl _ _).drew).setCell (just b) 3 _
  clear hw1 H3 F3
  have c4 : w1.cell? ⟨b, 4, none⟩ = some f := cell_of_cells hb1
  have z4 : w1.frozen? ⟨b, 4, none⟩ = false := free_of_cells hb1
  have hb2 : (w1.setCell ⟨b, 4, none⟩ .nilFunc).heap[b]? = some (clObj 0 1 1 .nilFunc ByteArray.empty) := heap_setCell_same w1 b 4 _ _ _ hb1
  have hs2 : Sav (Just b) w (w1.setCell ⟨b, 4, none⟩ .nilFunc) := hs1.setCell (just b) 4 _
  have HB2 := hid hb2
  have HS2 := hid hs2
  clear hb2 hs2 hb1 hs1
  go_wp2_with fail
  refine (HT.out _ HS2.out).mono ?_
  rintro e w3 ⟨rfl, hs3, hq3⟩
  have hb3 := hs3.at HB2.out HS.out
  have c5 : w3.cell? ⟨b, 5, none⟩ = some (.string ByteArray.empty) := cell_of_cells hb3
  have z5 : w3.frozen? ⟨b, 5, none⟩ = false := free_of_cells hb3
  have hb4 : (w3.setCell ⟨b, 5, none⟩ (.string t)).heap[b]? = some (clObj 0 1 1 .nilFunc t) := heap_setCell_same w3 b 5 _ _ _ hb3
  have hs4 : Sav (Also S b) w (w3.setCell ⟨b, 5, none⟩ (.string t)) := Sav.setCell (Sav.then (HS2.out.mono (fun _ _ h => Or.inr h)) hs3 (fun _ _ h => Or.inl h)) (Or.inr rfl) 5 _
  have hq4 : Q (w3.setCell ⟨b, 5, none⟩ (.string t)) := HQ.out w3 _ ((Sav.refl _ _).setCell (just b) 5 _) hq3
  have HB4 := hid hb4
  have HS4 := hid hs4
  have HQ4 := hid hq4
  clear hb4 hs4 hq4 hb3 hs3 hq3
  go_wp2
  go_end0
  exact ⟨rfl, HB4.out, HS4.out, HQ4.out⟩

set_option maxRecDepth 100000 in
set_option maxHeartbeats 1600000 in
theorem slow_any (b : Nat) (f : Value) (t : ByteArray) (S : Nat → Prop) (Q : World → Prop) (w : World) (hb : w.heap[b]? = some (clObj 0 0 0 f ByteArray.empty)) (hS : ¬ S b)
    (hQ : ∀ x y, Sav (Just b) x y → Q x → Q y)
    (hT : ∀ x, Sav (Just b) w x → Calls Tryz.prog 112 #[f] x fun e y => e = .returned (.string t) ∧ Sav S x y ∧ Q y) :
    Calls Tryz.prog 110 #[.pointer (some ⟨b, 0, none⟩), .func (.func 101) #[.pointer (some ⟨b, 0, none⟩)] #[]] w fun e w' => e = .returned (.tuple #[]) ∧ w'.heap[b]? = some (clObj 1 0 1 .nilFunc t) ∧ Sav (Also S b) w w' ∧ Q w' := by
  have HQ := hid hQ
  have HS := hid hS
  have HT := hid hT
  have HB := hid hb
  clear hQ hS hT hb
  have hnot : ∀ (x : Bool) (w : World), (Op.unary .not (.bool x)).run Tryz.prog w = .ok (.bool (!x)) w := fun _ _ => rfl
  have h1 : w.cell? ⟨b, 1, none⟩ = some (.int .i32 0) := cell_of_cells HB.out
  have f1 : w.frozen? ⟨b, 1, none⟩ = false := free_of_cells HB.out
  have H1 := hid h1
  have F1 := hid f1
  clear h1 f1
  go_enter_defers Tryz.func110, Tryz.ntmps110
  go_wp2_with fail
  refine (lock_free _ w H1.out F1.out).mono ?_
  rintro e w1 ⟨rfl, hw1⟩
  have hb1 : w1.heap[b]? = some (clObj 0 1 0 f ByteArray.empty) := by
    rw [hw1]
    exact heap_setCell_same w b 1 _ _ _ HB.out
  have hs1 : Sav (Just b) w w1 := by
    rw [hw1]
    exact (Sav.refl _ _).setCell (just b) 1 _
  clear hw1 H1 F1
  have HB1 := hid hb1
  have HS1 := hid hs1
  clear hb1 hs1
  go_wp2_with fail
  refine (bload_any _ 0 w1 (cell_of_cells HB1.out)).mono ?_
  rintro e w2 ⟨rfl, rfl⟩
  have h00 : ((0 : Int) != 0) = false := rfl
  rw [h00]
  go_wp2_with fail
  refine (fill_any b f t S Q w1 HB1.out HS.out HQ.out (fun x hx => HT.out x (HS1.out.trans hx))).mono ?_
  rintro e w3 ⟨rfl, hb3, hs3, hq3⟩
  have HB3 := hid hb3
  have HS3 := hid (Sav.trans (HS1.out.mono (fun _ _ h => Or.inr h)) hs3)
  have HQ3 := hid hq3
  clear hb3 hs3 hq3
  go_wp2
  refine leaves_cons (f := 111) (args := #[.pointer (some ⟨b, 0, none⟩), .bool true]) (by simp) (by simp [go_sem]) ?_
  refine (bstore_deferred ⟨b, 0, none⟩ (.int .u32 0) .returning _ (cell_of_cells HB3.out) (free_of_cells HB3.out)).mono ?_
  rintro e u' w4 ⟨rfl, rfl, hw4⟩
  have hb4 : w4.heap[b]? = some (clObj 1 1 1 .nilFunc t) := by
    rw [hw4]
    exact heap_setCell_same w3.drew b 0 _ _ _ HB3.out
  have hs4 : Sav (Just b) w3 w4 := by
    rw [hw4]
    exact ((Sav.refl _ _).drew).setCell (just b) 0 _
  clear hw4
  refine leaves_cons (f := 117) (args := #[.pointer (some ⟨b, 1, none⟩)]) (by simp [settle]) (by simp [go_sem]) ?_
  refine (unlock_deferred ⟨b, 1, none⟩ _ _ (cell_of_cells hb4) (free_of_cells hb4)).mono ?_
  rintro e u' w5 ⟨rfl, rfl, hw5⟩
  have hb5 : w5.heap[b]? = some (clObj 1 0 1 .nilFunc t) := by
    rw [hw5]
    exact heap_setCell_same w4 b 1 _ _ _ hb4
  have hs5 : Sav (Just b) w3 w5 := by
    rw [hw5]
    exact hs4.setCell (just b) 1 _
  simp [Leaves, settle, results, Tryz.results110]
  exact ⟨hb5, HS3.out.then hs5 (fun _ _ h => Or.inr h), HQ.out _ _ hs5 HQ3.out⟩

theorem do_first (b : Nat) (f : Value) (t : ByteArray) (S : Nat → Prop) (Q : World → Prop) (w : World) (hb : w.heap[b]? = some (clObj 0 0 0 f ByteArray.empty)) (hS : ¬ S b)
    (hQ : ∀ x y, Sav (Just b) x y → Q x → Q y)
    (hT : ∀ x, Sav (Just b) w x → Calls Tryz.prog 112 #[f] x fun e y => e = .returned (.string t) ∧ Sav S x y ∧ Q y) :
    Calls Tryz.prog 100 #[.pointer (some ⟨b, 0, none⟩), .func (.func 101) #[.pointer (some ⟨b, 0, none⟩)] #[]] w fun e w' => e = .returned (.tuple #[]) ∧ w'.heap[b]? = some (clObj 1 0 1 .nilFunc t) ∧ Sav (Also S b) w w' ∧ Q w' := by
  have H := hid (slow_any b f t S Q w hb hS hQ hT)
  have HB := hid hb
  clear hb hS hQ hT
  have hnot : ∀ (x : Bool) (w : World), (Op.unary .not (.bool x)).run Tryz.prog w = .ok (.bool (!x)) w := fun _ _ => rfl
  go_enter Tryz.func100, Tryz.ntmps100
  go_wp2_with fail
  refine (bload_any _ 0 w (cell_of_cells HB.out)).mono ?_
  rintro e w2 ⟨rfl, rfl⟩
  have h00 : ((0 : Int) != 0) = false := rfl
  rw [h00]
  go_wp2_with fail
  refine H.out.mono ?_
  rintro e w3 ⟨rfl, hr⟩
  have HR := hid hr
  clear hr
  go_wp2
  go_end0
  exact ⟨rfl, HR.out⟩

theorem do_done (b : Nat) (l m : Int) (f fv : Value) (t : ByteArray) (w : World) (hb : w.heap[b]? = some (clObj 1 l m f t)) :
    Calls Tryz.prog 100 #[.pointer (some ⟨b, 0, none⟩), fv] w fun e w' => e = .returned (.tuple #[]) ∧ w' = w := by
  have HB := hid hb
  clear hb
  have hnot : ∀ (x : Bool) (w : World), (Op.unary .not (.bool x)).run Tryz.prog w = .ok (.bool (!x)) w := fun _ _ => rfl
  go_enter Tryz.func100, Tryz.ntmps100
  go_wp2_with fail
  refine (bload_any _ 1 w (cell_of_cells HB.out)).mono ?_
  rintro e w2 ⟨rfl, rfl⟩
  have h00 : ((1 : Int) != 0) = true := rfl
  rw [h00]
  go_wp2
  go_end0
  exact ⟨rfl, rfl⟩

/-- The first time. -/
theorem get_first (b : Nat) (f : Value) (t : ByteArray) (S : Nat → Prop) (Q : World → Prop) (w : World) (hb : w.heap[b]? = some (clObj 0 0 0 f ByteArray.empty)) (hS : ¬ S b)
    (hQ : ∀ x y, Sav (Just b) x y → Q x → Q y)
    (hT : ∀ x, Sav (Just b) w x → Calls Tryz.prog 112 #[f] x fun e y => e = .returned (.string t) ∧ Sav S x y ∧ Q y) :
    Calls Tryz.prog 78 #[.pointer (some ⟨b, 0, none⟩)] w fun e w' => e = .returned (.string t) ∧ w'.heap[b]? = some (clObj 1 0 1 .nilFunc t) ∧ Sav (Also S b) w w' ∧ Q w' := by
  have H := hid (do_first b f t S Q w hb hS hQ hT)
  have HB := hid hb
  clear hb hS hQ hT
  have hmf : ∀ (fn : Fn) (first cap : Array Value) (w : World), (Instr.makeFunc fn first cap).run Tryz.prog w = .ok (.func fn first cap) w := fun _ _ _ _ => rfl
  go_enter Tryz.func78, Tryz.ntmps78
  go_wp2_with fail
  refine H.out.mono ?_
  rintro e w3 ⟨rfl, hb3, hr⟩
  have c5 : w3.cell? ⟨b, 5, none⟩ = some (.string t) := cell_of_cells hb3
  have HR := hid hr
  have HB3 := hid hb3
  clear hr hb3
  go_wp2
  go_ret
  exact ⟨rfl, HB3.out, HR.out⟩

/-- From then on. -/
theorem get_done (b : Nat) (l m : Int) (f : Value) (t : ByteArray) (w : World) (hb : w.heap[b]? = some (clObj 1 l m f t)) :
    Calls Tryz.prog 78 #[.pointer (some ⟨b, 0, none⟩)] w fun e w' => e = .returned (.string t) ∧ w = w' := by
  have H := hid (fun fv => do_done b l m f fv t w hb)
  have c5 : w.cell? ⟨b, 5, none⟩ = some (.string t) := cell_of_cells hb
  clear hb
  have hmf : ∀ (fn : Fn) (first cap : Array Value) (w : World), (Instr.makeFunc fn first cap).run Tryz.prog w = .ok (.func fn first cap) w := fun _ _ _ _ => rfl
  go_enter Tryz.func78, Tryz.ntmps78
  go_wp2_with fail
  refine (H.out _).mono ?_
  rintro e w3 ⟨rfl, rfl⟩
  go_wp2
  go_ret
  exact ⟨rfl, rfl⟩
end Go.Proofs.YtobgobmfhgagbaaGreatDoor
