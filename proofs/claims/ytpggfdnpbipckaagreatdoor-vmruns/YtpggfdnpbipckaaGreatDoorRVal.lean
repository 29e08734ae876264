/- Values on the stack: how they lie; num, text, flag and kinds of chapter 6's own answer. -/
import Derived.Test.YtpggfdnpbipckaaGreatDoorMVal
import Derived.Test.YtpggfdnpbipckaaGreatDoorVRefP
namespace Go.Proofs.YtpggfdnpbipckaaGreatDoor
open Go.RowKit Go.Lib
set_option linter.unusedVariables false
set_option maxRecDepth 100000

set_option maxRecDepth 100000 in
theorem num_calls (n : Int) (w : World) : Calls Tryz.prog 75 #[.int .i64 n] w fun e w' => e = .returned (vV (.num n)) ∧ Below w.heap.size w w' := by
  go_enter Tryz.func75, Tryz.ntmps75
  go_wp2
  refine bodyPost_ret (v := vV (.num n)) (by simp [results, Tryz.results75, go_sem]) rfl ⟨rfl, (Below.refl _ w).alloc (Nat.le_refl _) _⟩
set_option maxRecDepth 100000 in
theorem text_calls (s : ByteArray) (w : World) : Calls Tryz.prog 76 #[.string s] w fun e w' => e = .returned (vV (.text s)) ∧ Below w.heap.size w w' := by
  go_enter Tryz.func76, Tryz.ntmps76
  go_wp2
  refine bodyPost_ret (v := vV (.text s)) (by simp [results, Tryz.results76, go_sem]) rfl ⟨rfl, (Below.refl _ w).alloc (Nat.le_refl _) _⟩
set_option maxRecDepth 100000 in
theorem flag_calls (b : Bool) (w : World) : Calls Tryz.prog 77 #[.bool b] w fun e w' => e = .returned (vV (flag b)) ∧ Below w.heap.size w w' := by
  cases b
  · go_enter Tryz.func77, Tryz.ntmps77
    go_wp2_with fail
    refine (num_calls 0 _).mono ?_
    rintro e w2 ⟨rfl, hb⟩
    have k2 : Below w.heap.size w w2 := below_then ((Below.refl _ w).alloc (Nat.le_refl _) _) hb (by simp)
    have hblk : w2.heap[w.heap.size]? = some (.cells #[.bool false, .int .i64 0, .string ⟨#[]⟩] 57 (0, 0)) := (hb.block _ (by simp)).trans (new_block _ _)
    have c0 : w2.cell? ⟨w.heap.size, 0, none⟩ = some (.bool false) := by rw [cell_of_cells hblk]; rfl
    have c1 : w2.cell? ⟨w.heap.size, 1, none⟩ = some (.int .i64 0) := by rw [cell_of_cells hblk]; rfl
    have c2 : w2.cell? ⟨w.heap.size, 2, none⟩ = some (.string ⟨#[]⟩) := by rw [cell_of_cells hblk]; rfl
    have f0 : w2.frozen? ⟨w.heap.size, 0, none⟩ = false := free_of_cells hblk
    have f1 : w2.frozen? ⟨w.heap.size, 1, none⟩ = false := free_of_cells hblk
    have f2 : w2.frozen? ⟨w.heap.size, 2, none⟩ = false := free_of_cells hblk
    have KB := hid ((((Sav.of_below k2 : Sav Non w w2).setNew (Nat.le_refl _) 0 (.bool false)).setNew (Nat.le_refl _) 1 (.int .i64 0)).setNew (Nat.le_refl _) 2 (.string ⟨#[]⟩) |>.below (B := w.heap.size) (fun k h => h.elim) (Nat.le_refl _))
    clear hb k2 hblk
    go_wp2
    refine bodyPost_ret (v := vV (.num 0)) (by simp [results, Tryz.results77, go_sem, c0, c1, c2]) rfl ⟨rfl, KB.out⟩
  · go_enter Tryz.func77, Tryz.ntmps77
    go_wp2_with fail
    refine (num_calls 1 _).mono ?_
    rintro e w2 ⟨rfl, hb⟩
    have k2 : Below w.heap.size w w2 := below_then ((Below.refl _ w).alloc (Nat.le_refl _) _) hb (by simp)
    have hblk : w2.heap[w.heap.size]? = some (.cells #[.bool false, .int .i64 0, .string ⟨#[]⟩] 57 (0, 0)) := (hb.block _ (by simp)).trans (new_block _ _)
    have c0 : w2.cell? ⟨w.heap.size, 0, none⟩ = some (.bool false) := by rw [cell_of_cells hblk]; rfl
    have c1 : w2.cell? ⟨w.heap.size, 1, none⟩ = some (.int .i64 0) := by rw [cell_of_cells hblk]; rfl
    have c2 : w2.cell? ⟨w.heap.size, 2, none⟩ = some (.string ⟨#[]⟩) := by rw [cell_of_cells hblk]; rfl
    have f0 : w2.frozen? ⟨w.heap.size, 0, none⟩ = false := free_of_cells hblk
    have f1 : w2.frozen? ⟨w.heap.size, 1, none⟩ = false := free_of_cells hblk
    have f2 : w2.frozen? ⟨w.heap.size, 2, none⟩ = false := free_of_cells hblk
    have KB := hid ((((Sav.of_below k2 : Sav Non w w2).setNew (Nat.le_refl _) 0 (.bool false)).setNew (Nat.le_refl _) 1 (.int .i64 1)).setNew (Nat.le_refl _) 2 (.string ⟨#[]⟩) |>.below (B := w.heap.size) (fun k h => h.elim) (Nat.le_refl _))
    clear hb k2 hblk
    go_wp2
    refine bodyPost_ret (v := vV (.num 1)) (by simp [results, Tryz.results77, go_sem, c0, c1, c2]) rfl ⟨rfl, KB.out⟩

/-- What an operation needs. -/
def kindsOf : Nat → List UInt8
  | 3 => [63]
  | 4 => [63]
  | 22 => [63]
  | 5 => [63, 63]
  | 12 => [63, 63]
  | 8 => [110, 110]
  | 9 => [110, 110]
  | 10 => [110, 110]
  | 11 => [110, 110]
  | 13 => [116, 116]
  | 23 => [116, 116]
  | 14 => [116]
  | 18 => [116]
  | 15 => [116, 110]
  | 16 => [116, 110, 110]
  | 17 => [110]
  | 20 => [110]
  | _ => []
set_option maxRecDepth 100000 in
theorem kinds_calls (o : Nat) (ho : o < 24) (w : World) : Calls Tryz.prog 64 #[.int .i64 o] w fun e w' => e = .returned (.string (tx (kindsOf o))) ∧ w' = w := by
  have : ∀ o : Fin 24, Calls Tryz.prog 64 #[.int .i64 o.val] w fun e w' => e = .returned (.string (tx (kindsOf o.val))) ∧ w' = w := by
    intro ⟨o, h⟩
    have hc : o = 0 ∨ o = 1 ∨ o = 2 ∨ o = 3 ∨ o = 4 ∨ o = 5 ∨ o = 6 ∨ o = 7 ∨ o = 8 ∨ o = 9 ∨ o = 10 ∨ o = 11 ∨ o = 12 ∨ o = 13 ∨ o = 14 ∨ o = 15 ∨ o = 16 ∨ o = 17 ∨ o = 18 ∨ o = 19 ∨ o = 20 ∨ o = 21 ∨ o = 22 ∨ o = 23 := by omega
    rcases hc with rfl | rfl | rfl | rfl | rfl | rfl | rfl | rfl | rfl | rfl | rfl | rfl | rfl | rfl | rfl | rfl | rfl | rfl | rfl | rfl | rfl | rfl | rfl | rfl <;>
      (go_enter Tryz.func64, Tryz.ntmps64
       go_wp2
       go_ret
       exact ⟨rfl, rfl⟩)
  exact this ⟨o, ho⟩
end Go.Proofs.YtpggfdnpbipckaaGreatDoor
