/- What instructions make of the values that they take off (chapter 6): sum, difference, product, less, equal, joined, length, byteAt, piece, digits, numeral. -/
import Derived.Test.YtobgobmfhgagbaaGreatDoorVTake
namespace Go.Proofs.YtobgobmfhgagbaaGreatDoor
open Go.RowKit Go.Lib
set_option linter.unusedVariables false
set_option maxRecDepth 100000

theorem res_block {w w2 : World} {o : Obj} {cs : Array Value} (hb : Below ((w.alloc o).alloc (.cells cs 81)).heap.size ((w.alloc o).alloc (.cells cs 81)) w2) : Below w.heap.size w w2 ∧ w2.heap[w.heap.size + 1]? = some (.cells cs 81 (0, 0)) := by
  refine ⟨below_then (below_then (alloc1 w o) (alloc1 _ _) (by simp)) hb (by simp; omega), ?_⟩
  rw [hb.block _ (by simp)]
  have := new_block (w.alloc o) (.cells cs 81)
  rw [show (w.alloc o).heap.size = w.heap.size + 1 by simp] at this
  exact this

theorem truth_calls (b : Bool) (w : World) : Calls Tryz.prog 102 #[.bool b] w fun e w' => e = .returned (triV (flag b)) ∧ Below w.heap.size w w' := by
  cases b
  · go_enter Tryz.func102, Tryz.ntmps102
    go_wp2_with fail
    refine (int_calls 0 _).mono ?_
    rintro e w2 ⟨rfl, hb⟩
    have k2 : Below w.heap.size w w2 := below_then (alloc1 w _) hb (by simp)
    have hblk : w2.heap[w.heap.size]? = some (.cells #[.bool false, .int .i64 0, .string ⟨#[]⟩] 81 (0, 0)) := (hb.block _ (by simp)).trans (new_block _ _)
    clear hb
    have c0 : w2.cell? ⟨w.heap.size, 0, none⟩ = some (.bool false) := by rw [cell_of_cells hblk]; rfl
    have c1 : w2.cell? ⟨w.heap.size, 1, none⟩ = some (.int .i64 0) := by rw [cell_of_cells hblk]; rfl
    have c2 : w2.cell? ⟨w.heap.size, 2, none⟩ = some (.string ⟨#[]⟩) := by rw [cell_of_cells hblk]; rfl
    have f0 : w2.frozen? ⟨w.heap.size, 0, none⟩ = false := free_of_cells hblk
    have f1 : w2.frozen? ⟨w.heap.size, 1, none⟩ = false := free_of_cells hblk
    have f2 : w2.frozen? ⟨w.heap.size, 2, none⟩ = false := free_of_cells hblk
    have KB := hid (fun x y z => below_set3 (G := w.heap.size) k2 (Nat.le_refl _) 0 1 2 x y z)
    clear k2 hblk
    go_wp2
    refine bodyPost_ret (v := .agg #[.bool false, .int .i64 0, .string ⟨#[]⟩]) (by simp [results, Tryz.results102, go_sem, c0, c1, c2]) rfl ⟨rfl, KB.out _ _ _⟩
  · go_enter Tryz.func102, Tryz.ntmps102
    go_wp2_with fail
    refine (int_calls 1 _).mono ?_
    rintro e w2 ⟨rfl, hb⟩
    have k2 : Below w.heap.size w w2 := below_then (alloc1 w _) hb (by simp)
    have hblk : w2.heap[w.heap.size]? = some (.cells #[.bool false, .int .i64 0, .string ⟨#[]⟩] 81 (0, 0)) := (hb.block _ (by simp)).trans (new_block _ _)
    clear hb
    have c0 : w2.cell? ⟨w.heap.size, 0, none⟩ = some (.bool false) := by rw [cell_of_cells hblk]; rfl
    have c1 : w2.cell? ⟨w.heap.size, 1, none⟩ = some (.int .i64 0) := by rw [cell_of_cells hblk]; rfl
    have c2 : w2.cell? ⟨w.heap.size, 2, none⟩ = some (.string ⟨#[]⟩) := by rw [cell_of_cells hblk]; rfl
    have f0 : w2.frozen? ⟨w.heap.size, 0, none⟩ = false := free_of_cells hblk
    have f1 : w2.frozen? ⟨w.heap.size, 1, none⟩ = false := free_of_cells hblk
    have f2 : w2.frozen? ⟨w.heap.size, 2, none⟩ = false := free_of_cells hblk
    have KB := hid (fun x y z => below_set3 (G := w.heap.size) k2 (Nat.le_refl _) 0 1 2 x y z)
    clear k2 hblk
    go_wp2
    refine bodyPost_ret (v := .agg #[.bool false, .int .i64 1, .string ⟨#[]⟩]) (by simp [results, Tryz.results102, go_sem, c0, c1, c2]) rfl ⟨rfl, KB.out _ _ _⟩
theorem truth1_calls (w : World) : Calls Tryz.prog 102 #[.bool true] w fun e w' => e = .returned (.agg #[.bool false, .int .i64 1, .string ⟨#[]⟩]) ∧ Below w.heap.size w w' := truth_calls true w
theorem truth0_calls (w : World) : Calls Tryz.prog 102 #[.bool false] w fun e w' => e = .returned (.agg #[.bool false, .int .i64 0, .string ⟨#[]⟩]) ∧ Below w.heap.size w w' := truth_calls false w

section
variable (t0 t1 t2 : Bool) (n0 n1 n2 : Int) (s0 s1 s2 : ByteArray) (w : World)
theorem sum_calls : Calls Tryz.prog 81 #[.agg #[.bool t0, .int .i64 n0, .string s0, .bool t1, .int .i64 n1, .string s1, .bool t2, .int .i64 n2, .string s2]] w fun e w' => e = .returned (.agg #[.bool false, .int .i64 (wrap64 (n0 + n1)), .string ⟨#[]⟩]) ∧ Below w.heap.size w w' := by
  · go_enter Tryz.func81, Tryz.ntmps81
    go_wp2_with fail
    refine (int_calls _ _).mono ?_
    rintro e w2 ⟨rfl, hb⟩
    obtain ⟨k2, hblk⟩ := res_block hb
    clear hb
    have c0 : w2.cell? ⟨w.heap.size + 1, 0, none⟩ = some (.bool false) := by rw [cell_of_cells hblk]; rfl
    have c1 : w2.cell? ⟨w.heap.size + 1, 1, none⟩ = some (.int .i64 0) := by rw [cell_of_cells hblk]; rfl
    have c2 : w2.cell? ⟨w.heap.size + 1, 2, none⟩ = some (.string ⟨#[]⟩) := by rw [cell_of_cells hblk]; rfl
    have f0 : w2.frozen? ⟨w.heap.size + 1, 0, none⟩ = false := free_of_cells hblk
    have f1 : w2.frozen? ⟨w.heap.size + 1, 1, none⟩ = false := free_of_cells hblk
    have f2 : w2.frozen? ⟨w.heap.size + 1, 2, none⟩ = false := free_of_cells hblk
    have KB := hid (fun x y z => below_set3 (G := w.heap.size + 1) k2 (Nat.le_succ _) 0 1 2 x y z)
    clear k2 hblk
    go_wp2
    refine bodyPost_ret (v := .agg #[.bool false, .int .i64 (wrap64 (n0 + n1)), .string ⟨#[]⟩]) (by simp [results, Tryz.results81, go_sem, c0, c1, c2]) rfl ⟨rfl, KB.out _ _ _⟩
theorem dif_calls : Calls Tryz.prog 82 #[.agg #[.bool t0, .int .i64 n0, .string s0, .bool t1, .int .i64 n1, .string s1, .bool t2, .int .i64 n2, .string s2]] w fun e w' => e = .returned (.agg #[.bool false, .int .i64 (wrap64 (n0 - n1)), .string ⟨#[]⟩]) ∧ Below w.heap.size w w' := by
  · go_enter Tryz.func82, Tryz.ntmps82
    go_wp2_with fail
    refine (int_calls _ _).mono ?_
    rintro e w2 ⟨rfl, hb⟩
    obtain ⟨k2, hblk⟩ := res_block hb
    clear hb
    have c0 : w2.cell? ⟨w.heap.size + 1, 0, none⟩ = some (.bool false) := by rw [cell_of_cells hblk]; rfl
    have c1 : w2.cell? ⟨w.heap.size + 1, 1, none⟩ = some (.int .i64 0) := by rw [cell_of_cells hblk]; rfl
    have c2 : w2.cell? ⟨w.heap.size + 1, 2, none⟩ = some (.string ⟨#[]⟩) := by rw [cell_of_cells hblk]; rfl
    have f0 : w2.frozen? ⟨w.heap.size + 1, 0, none⟩ = false := free_of_cells hblk
    have f1 : w2.frozen? ⟨w.heap.size + 1, 1, none⟩ = false := free_of_cells hblk
    have f2 : w2.frozen? ⟨w.heap.size + 1, 2, none⟩ = false := free_of_cells hblk
    have KB := hid (fun x y z => below_set3 (G := w.heap.size + 1) k2 (Nat.le_succ _) 0 1 2 x y z)
    clear k2 hblk
    go_wp2
    refine bodyPost_ret (v := .agg #[.bool false, .int .i64 (wrap64 (n0 - n1)), .string ⟨#[]⟩]) (by simp [results, Tryz.results82, go_sem, c0, c1, c2]) rfl ⟨rfl, KB.out _ _ _⟩
theorem prod_calls : Calls Tryz.prog 83 #[.agg #[.bool t0, .int .i64 n0, .string s0, .bool t1, .int .i64 n1, .string s1, .bool t2, .int .i64 n2, .string s2]] w fun e w' => e = .returned (.agg #[.bool false, .int .i64 (wrap64 (n0 * n1)), .string ⟨#[]⟩]) ∧ Below w.heap.size w w' := by
  · go_enter Tryz.func83, Tryz.ntmps83
    go_wp2_with fail
    refine (int_calls _ _).mono ?_
    rintro e w2 ⟨rfl, hb⟩
    obtain ⟨k2, hblk⟩ := res_block hb
    clear hb
    have c0 : w2.cell? ⟨w.heap.size + 1, 0, none⟩ = some (.bool false) := by rw [cell_of_cells hblk]; rfl
    have c1 : w2.cell? ⟨w.heap.size + 1, 1, none⟩ = some (.int .i64 0) := by rw [cell_of_cells hblk]; rfl
    have c2 : w2.cell? ⟨w.heap.size + 1, 2, none⟩ = some (.string ⟨#[]⟩) := by rw [cell_of_cells hblk]; rfl
    have f0 : w2.frozen? ⟨w.heap.size + 1, 0, none⟩ = false := free_of_cells hblk
    have f1 : w2.frozen? ⟨w.heap.size + 1, 1, none⟩ = false := free_of_cells hblk
    have f2 : w2.frozen? ⟨w.heap.size + 1, 2, none⟩ = false := free_of_cells hblk
    have KB := hid (fun x y z => below_set3 (G := w.heap.size + 1) k2 (Nat.le_succ _) 0 1 2 x y z)
    clear k2 hblk
    go_wp2
    refine bodyPost_ret (v := .agg #[.bool false, .int .i64 (wrap64 (n0 * n1)), .string ⟨#[]⟩]) (by simp [results, Tryz.results83, go_sem, c0, c1, c2]) rfl ⟨rfl, KB.out _ _ _⟩
theorem less1_calls (hd : decide (n0 < n1) = true) : Calls Tryz.prog 84 #[.agg #[.bool t0, .int .i64 n0, .string s0, .bool t1, .int .i64 n1, .string s1, .bool t2, .int .i64 n2, .string s2]] w fun e w' => e = .returned (.agg #[.bool false, .int .i64 (1), .string ⟨#[]⟩]) ∧ Below w.heap.size w w' := by
  · go_enter Tryz.func84, Tryz.ntmps84
    go_wp2_with fail
    refine (truth1_calls _).mono ?_
    rintro e w2 ⟨rfl, hb⟩
    obtain ⟨k2, hblk⟩ := res_block hb
    clear hb
    have c0 : w2.cell? ⟨w.heap.size + 1, 0, none⟩ = some (.bool false) := by rw [cell_of_cells hblk]; rfl
    have c1 : w2.cell? ⟨w.heap.size + 1, 1, none⟩ = some (.int .i64 0) := by rw [cell_of_cells hblk]; rfl
    have c2 : w2.cell? ⟨w.heap.size + 1, 2, none⟩ = some (.string ⟨#[]⟩) := by rw [cell_of_cells hblk]; rfl
    have f0 : w2.frozen? ⟨w.heap.size + 1, 0, none⟩ = false := free_of_cells hblk
    have f1 : w2.frozen? ⟨w.heap.size + 1, 1, none⟩ = false := free_of_cells hblk
    have f2 : w2.frozen? ⟨w.heap.size + 1, 2, none⟩ = false := free_of_cells hblk
    have KB := hid (fun x y z => below_set3 (G := w.heap.size + 1) k2 (Nat.le_succ _) 0 1 2 x y z)
    clear k2 hblk
    go_wp2
    refine bodyPost_ret (v := .agg #[.bool false, .int .i64 1, .string ⟨#[]⟩]) (by simp [results, Tryz.results84, go_sem, c0, c1, c2]) rfl ⟨rfl, KB.out _ _ _⟩
theorem less0_calls (hd : decide (n0 < n1) = false) : Calls Tryz.prog 84 #[.agg #[.bool t0, .int .i64 n0, .string s0, .bool t1, .int .i64 n1, .string s1, .bool t2, .int .i64 n2, .string s2]] w fun e w' => e = .returned (.agg #[.bool false, .int .i64 (0), .string ⟨#[]⟩]) ∧ Below w.heap.size w w' := by
  · go_enter Tryz.func84, Tryz.ntmps84
    go_wp2_with fail
    refine (truth0_calls _).mono ?_
    rintro e w2 ⟨rfl, hb⟩
    obtain ⟨k2, hblk⟩ := res_block hb
    clear hb
    have c0 : w2.cell? ⟨w.heap.size + 1, 0, none⟩ = some (.bool false) := by rw [cell_of_cells hblk]; rfl
    have c1 : w2.cell? ⟨w.heap.size + 1, 1, none⟩ = some (.int .i64 0) := by rw [cell_of_cells hblk]; rfl
    have c2 : w2.cell? ⟨w.heap.size + 1, 2, none⟩ = some (.string ⟨#[]⟩) := by rw [cell_of_cells hblk]; rfl
    have f0 : w2.frozen? ⟨w.heap.size + 1, 0, none⟩ = false := free_of_cells hblk
    have f1 : w2.frozen? ⟨w.heap.size + 1, 1, none⟩ = false := free_of_cells hblk
    have f2 : w2.frozen? ⟨w.heap.size + 1, 2, none⟩ = false := free_of_cells hblk
    have KB := hid (fun x y z => below_set3 (G := w.heap.size + 1) k2 (Nat.le_succ _) 0 1 2 x y z)
    clear k2 hblk
    go_wp2
    refine bodyPost_ret (v := .agg #[.bool false, .int .i64 0, .string ⟨#[]⟩]) (by simp [results, Tryz.results84, go_sem, c0, c1, c2]) rfl ⟨rfl, KB.out _ _ _⟩
theorem joined_calls (h0 : s0.size ≤ 64) (h1 : s1.size ≤ 64) : Calls Tryz.prog 86 #[.agg #[.bool t0, .int .i64 n0, .string s0, .bool t1, .int .i64 n1, .string s1, .bool t2, .int .i64 n2, .string s2]] w fun e w' => e = .returned (.agg #[.bool true, .int .i64 0, .string (s0 ++ s1)]) ∧ Below w.heap.size w w' := by
  · have hcat : ¬ 9223372036854775807 < s0.size + s1.size := by omega
    go_enter Tryz.func86, Tryz.ntmps86
    go_wp2_with fail
    refine (bytes_calls _ _).mono ?_
    rintro e w2 ⟨rfl, hb⟩
    obtain ⟨k2, hblk⟩ := res_block hb
    clear hb
    have c0 : w2.cell? ⟨w.heap.size + 1, 0, none⟩ = some (.bool false) := by rw [cell_of_cells hblk]; rfl
    have c1 : w2.cell? ⟨w.heap.size + 1, 1, none⟩ = some (.int .i64 0) := by rw [cell_of_cells hblk]; rfl
    have c2 : w2.cell? ⟨w.heap.size + 1, 2, none⟩ = some (.string ⟨#[]⟩) := by rw [cell_of_cells hblk]; rfl
    have f0 : w2.frozen? ⟨w.heap.size + 1, 0, none⟩ = false := free_of_cells hblk
    have f1 : w2.frozen? ⟨w.heap.size + 1, 1, none⟩ = false := free_of_cells hblk
    have f2 : w2.frozen? ⟨w.heap.size + 1, 2, none⟩ = false := free_of_cells hblk
    have KB := hid (fun x y z => below_set3 (G := w.heap.size + 1) k2 (Nat.le_succ _) 0 1 2 x y z)
    clear k2 hblk
    go_wp2
    refine bodyPost_ret (v := .agg #[.bool true, .int .i64 0, .string (s0 ++ s1)]) (by simp [results, Tryz.results86, go_sem, c0, c1, c2]) rfl ⟨rfl, KB.out _ _ _⟩
theorem length_calls (h0 : s0.size ≤ 64) : Calls Tryz.prog 87 #[.agg #[.bool t0, .int .i64 n0, .string s0, .bool t1, .int .i64 n1, .string s1, .bool t2, .int .i64 n2, .string s2]] w fun e w' => e = .returned (.agg #[.bool false, .int .i64 ((s0.size : Int)), .string ⟨#[]⟩]) ∧ Below w.heap.size w w' := by
  · have hw : IntKind.i64.wrap (s0.size : Int) = (s0.size : Int) := by rw [IntKind.wrap_i64]; omega
    go_enter Tryz.func87, Tryz.ntmps87
    go_wp2_with fail
    refine (int_calls _ _).mono ?_
    rintro e w2 ⟨rfl, hb⟩
    obtain ⟨k2, hblk⟩ := res_block hb
    clear hb
    have c0 : w2.cell? ⟨w.heap.size + 1, 0, none⟩ = some (.bool false) := by rw [cell_of_cells hblk]; rfl
    have c1 : w2.cell? ⟨w.heap.size + 1, 1, none⟩ = some (.int .i64 0) := by rw [cell_of_cells hblk]; rfl
    have c2 : w2.cell? ⟨w.heap.size + 1, 2, none⟩ = some (.string ⟨#[]⟩) := by rw [cell_of_cells hblk]; rfl
    have f0 : w2.frozen? ⟨w.heap.size + 1, 0, none⟩ = false := free_of_cells hblk
    have f1 : w2.frozen? ⟨w.heap.size + 1, 1, none⟩ = false := free_of_cells hblk
    have f2 : w2.frozen? ⟨w.heap.size + 1, 2, none⟩ = false := free_of_cells hblk
    have KB := hid (fun x y z => below_set3 (G := w.heap.size + 1) k2 (Nat.le_succ _) 0 1 2 x y z)
    clear k2 hblk
    go_wp2
    refine bodyPost_ret (v := .agg #[.bool false, .int .i64 (s0.size : Int), .string ⟨#[]⟩]) (by simp [results, Tryz.results87, go_sem, c0, c1, c2]) rfl ⟨rfl, KB.out _ _ _⟩
theorem byteAt_calls (h0 : s0.size ≤ 64) : Calls Tryz.prog 88 #[.agg #[.bool t0, .int .i64 n0, .string s0, .bool t1, .int .i64 n1, .string s1, .bool t2, .int .i64 n2, .string s2]] w fun e w' => e = .returned (.agg #[.bool false, .int .i64 (atOf s0 n1), .string ⟨#[]⟩]) ∧ Below w.heap.size w w' := by
  · go_enter Tryz.func88, Tryz.ntmps88
    go_wp2_with fail
    refine (value_At_calls s0 n1 (by omega) _).mono ?_
    rintro e w1 ⟨rfl, rfl⟩
    go_wp2_with fail
    refine (int_calls _ _).mono ?_
    rintro e w2 ⟨rfl, hb⟩
    obtain ⟨k2, hblk⟩ := res_block hb
    clear hb
    have c0 : w2.cell? ⟨w.heap.size + 1, 0, none⟩ = some (.bool false) := by rw [cell_of_cells hblk]; rfl
    have c1 : w2.cell? ⟨w.heap.size + 1, 1, none⟩ = some (.int .i64 0) := by rw [cell_of_cells hblk]; rfl
    have c2 : w2.cell? ⟨w.heap.size + 1, 2, none⟩ = some (.string ⟨#[]⟩) := by rw [cell_of_cells hblk]; rfl
    have f0 : w2.frozen? ⟨w.heap.size + 1, 0, none⟩ = false := free_of_cells hblk
    have f1 : w2.frozen? ⟨w.heap.size + 1, 1, none⟩ = false := free_of_cells hblk
    have f2 : w2.frozen? ⟨w.heap.size + 1, 2, none⟩ = false := free_of_cells hblk
    have KB := hid (fun x y z => below_set3 (G := w.heap.size + 1) k2 (Nat.le_succ _) 0 1 2 x y z)
    clear k2 hblk
    go_wp2
    refine bodyPost_ret (v := .agg #[.bool false, .int .i64 (atOf s0 n1), .string ⟨#[]⟩]) (by simp [results, Tryz.results88, go_sem, c0, c1, c2]) rfl ⟨rfl, KB.out _ _ _⟩
theorem piece_calls (h0 : s0.size ≤ 64) : Calls Tryz.prog 89 #[.agg #[.bool t0, .int .i64 n0, .string s0, .bool t1, .int .i64 n1, .string s1, .bool t2, .int .i64 n2, .string s2]] w fun e w' => e = .returned (.agg #[.bool true, .int .i64 0, .string (tx (cutL s0.data.toList n1 n2))]) ∧ Below w.heap.size w w' := by
  · go_enter Tryz.func89, Tryz.ntmps89
    go_wp2_with fail
    refine (value_Cut_calls s0 n1 n2 (by omega) _).mono ?_
    rintro e w1 ⟨rfl, rfl⟩
    go_wp2_with fail
    refine (bytes_calls _ _).mono ?_
    rintro e w2 ⟨rfl, hb⟩
    obtain ⟨k2, hblk⟩ := res_block hb
    clear hb
    have c0 : w2.cell? ⟨w.heap.size + 1, 0, none⟩ = some (.bool false) := by rw [cell_of_cells hblk]; rfl
    have c1 : w2.cell? ⟨w.heap.size + 1, 1, none⟩ = some (.int .i64 0) := by rw [cell_of_cells hblk]; rfl
    have c2 : w2.cell? ⟨w.heap.size + 1, 2, none⟩ = some (.string ⟨#[]⟩) := by rw [cell_of_cells hblk]; rfl
    have f0 : w2.frozen? ⟨w.heap.size + 1, 0, none⟩ = false := free_of_cells hblk
    have f1 : w2.frozen? ⟨w.heap.size + 1, 1, none⟩ = false := free_of_cells hblk
    have f2 : w2.frozen? ⟨w.heap.size + 1, 2, none⟩ = false := free_of_cells hblk
    have KB := hid (fun x y z => below_set3 (G := w.heap.size + 1) k2 (Nat.le_succ _) 0 1 2 x y z)
    clear k2 hblk
    go_wp2
    refine bodyPost_ret (v := .agg #[.bool true, .int .i64 0, .string (tx (cutL s0.data.toList n1 n2))]) (by simp [results, Tryz.results89, go_sem, c0, c1, c2]) rfl ⟨rfl, KB.out _ _ _⟩
theorem digitsV_calls (T : Tabs w) (h0 : I64 n0) : Calls Tryz.prog 90 #[.agg #[.bool t0, .int .i64 n0, .string s0, .bool t1, .int .i64 n1, .string s1, .bool t2, .int .i64 n2, .string s2]] w fun e w' => e = .returned (.agg #[.bool true, .int .i64 0, .string (tx (itoa n0))]) ∧ Below w.heap.size w w' := by
  · have TB := hid T
    have H0 := hid h0
    clear T h0
    go_enter Tryz.func90, Tryz.ntmps90
    go_wp2_with fail
    refine (digits_calls n0 H0.out _ (by first | exact TB.out.on (below_then (alloc1 w _) (alloc1 _ _) (by simp)))).mono ?_
    rintro e w1 ⟨rfl, hb1⟩
    obtain ⟨k1, hblk1⟩ := res_block hb1
    have K1 := hid k1
    have HB1 := hid hblk1
    clear hb1 k1 hblk1
    go_wp2_with fail
    refine (bytes_calls _ _).mono ?_
    rintro e w2 ⟨rfl, hb⟩
    have k2 := below_then K1.out hb K1.out.size
    have hblk := (hb.block _ (Array.getElem?_eq_some_iff.1 HB1.out).1).trans HB1.out
    clear hb
    have c0 : w2.cell? ⟨w.heap.size + 1, 0, none⟩ = some (.bool false) := by rw [cell_of_cells hblk]; rfl
    have c1 : w2.cell? ⟨w.heap.size + 1, 1, none⟩ = some (.int .i64 0) := by rw [cell_of_cells hblk]; rfl
    have c2 : w2.cell? ⟨w.heap.size + 1, 2, none⟩ = some (.string ⟨#[]⟩) := by rw [cell_of_cells hblk]; rfl
    have f0 : w2.frozen? ⟨w.heap.size + 1, 0, none⟩ = false := free_of_cells hblk
    have f1 : w2.frozen? ⟨w.heap.size + 1, 1, none⟩ = false := free_of_cells hblk
    have f2 : w2.frozen? ⟨w.heap.size + 1, 2, none⟩ = false := free_of_cells hblk
    have KB := hid (fun x y z => below_set3 (G := w.heap.size + 1) k2 (Nat.le_succ _) 0 1 2 x y z)
    clear k2 hblk
    go_wp2
    refine bodyPost_ret (v := .agg #[.bool true, .int .i64 0, .string (tx (itoa n0))]) (by simp [results, Tryz.results90, go_sem, c0, c1, c2]) rfl ⟨rfl, KB.out _ _ _⟩
theorem numeral_calls (T : Tabs w) (h0 : s0.size ≤ 64) : Calls Tryz.prog 91 #[.agg #[.bool t0, .int .i64 n0, .string s0, .bool t1, .int .i64 n1, .string s1, .bool t2, .int .i64 n2, .string s2]] w fun e w' => e = .returned (.agg #[.bool false, .int .i64 (vNum s0.data.toList), .string ⟨#[]⟩]) ∧ Below w.heap.size w w' := by
  · have TB := hid T
    clear T
    go_enter Tryz.func91, Tryz.ntmps91
    go_wp2_with fail
    refine (number_calls s0 (by omega) _ (by first | exact TB.out.on (below_then (alloc1 w _) (alloc1 _ _) (by simp)))).mono ?_
    rintro e w1 ⟨rfl, hb1⟩
    obtain ⟨k1, hblk1⟩ := res_block hb1
    have K1 := hid k1
    have HB1 := hid hblk1
    clear hb1 k1 hblk1
    go_wp2_with fail
    refine (int_calls _ _).mono ?_
    rintro e w2 ⟨rfl, hb⟩
    have k2 := below_then K1.out hb K1.out.size
    have hblk := (hb.block _ (Array.getElem?_eq_some_iff.1 HB1.out).1).trans HB1.out
    clear hb
    have c0 : w2.cell? ⟨w.heap.size + 1, 0, none⟩ = some (.bool false) := by rw [cell_of_cells hblk]; rfl
    have c1 : w2.cell? ⟨w.heap.size + 1, 1, none⟩ = some (.int .i64 0) := by rw [cell_of_cells hblk]; rfl
    have c2 : w2.cell? ⟨w.heap.size + 1, 2, none⟩ = some (.string ⟨#[]⟩) := by rw [cell_of_cells hblk]; rfl
    have f0 : w2.frozen? ⟨w.heap.size + 1, 0, none⟩ = false := free_of_cells hblk
    have f1 : w2.frozen? ⟨w.heap.size + 1, 1, none⟩ = false := free_of_cells hblk
    have f2 : w2.frozen? ⟨w.heap.size + 1, 2, none⟩ = false := free_of_cells hblk
    have KB := hid (fun x y z => below_set3 (G := w.heap.size + 1) k2 (Nat.le_succ _) 0 1 2 x y z)
    clear k2 hblk
    go_wp2
    refine bodyPost_ret (v := .agg #[.bool false, .int .i64 (vNum s0.data.toList), .string ⟨#[]⟩]) (by simp [results, Tryz.results91, go_sem, c0, c1, c2]) rfl ⟨rfl, KB.out _ _ _⟩
theorem equal1_calls (hd : sameOf t0 t1 n0 n1 s0 s1 = true) : Calls Tryz.prog 85 #[.agg #[.bool t0, .int .i64 n0, .string s0, .bool t1, .int .i64 n1, .string s1, .bool t2, .int .i64 n2, .string s2]] w fun e w' => e = .returned (.agg #[.bool false, .int .i64 (1), .string ⟨#[]⟩]) ∧ Below w.heap.size w w' := by
  · go_enter Tryz.func85, Tryz.ntmps85
    go_wp2_with fail
    refine (value_Same_calls t0 t1 n0 n1 s0 s1 _).mono ?_
    rintro e w1 ⟨rfl, hb1⟩
    obtain ⟨k1, hblk1⟩ := res_block hb1
    have K1 := hid k1
    have HB1 := hid hblk1
    clear hb1 k1 hblk1
    rw [hd]
    go_wp2_with fail
    refine (truth1_calls _).mono ?_
    rintro e w2 ⟨rfl, hb⟩
    have k2 := below_then K1.out hb K1.out.size
    have hblk := (hb.block _ (Array.getElem?_eq_some_iff.1 HB1.out).1).trans HB1.out
    clear hb
    have c0 : w2.cell? ⟨w.heap.size + 1, 0, none⟩ = some (.bool false) := by rw [cell_of_cells hblk]; rfl
    have c1 : w2.cell? ⟨w.heap.size + 1, 1, none⟩ = some (.int .i64 0) := by rw [cell_of_cells hblk]; rfl
    have c2 : w2.cell? ⟨w.heap.size + 1, 2, none⟩ = some (.string ⟨#[]⟩) := by rw [cell_of_cells hblk]; rfl
    have f0 : w2.frozen? ⟨w.heap.size + 1, 0, none⟩ = false := free_of_cells hblk
    have f1 : w2.frozen? ⟨w.heap.size + 1, 1, none⟩ = false := free_of_cells hblk
    have f2 : w2.frozen? ⟨w.heap.size + 1, 2, none⟩ = false := free_of_cells hblk
    have KB := hid (fun x y z => below_set3 (G := w.heap.size + 1) k2 (Nat.le_succ _) 0 1 2 x y z)
    clear k2 hblk
    go_wp2
    refine bodyPost_ret (v := .agg #[.bool false, .int .i64 1, .string ⟨#[]⟩]) (by simp [results, Tryz.results85, go_sem, c0, c1, c2]) rfl ⟨rfl, KB.out _ _ _⟩
theorem equal0_calls (hd : sameOf t0 t1 n0 n1 s0 s1 = false) : Calls Tryz.prog 85 #[.agg #[.bool t0, .int .i64 n0, .string s0, .bool t1, .int .i64 n1, .string s1, .bool t2, .int .i64 n2, .string s2]] w fun e w' => e = .returned (.agg #[.bool false, .int .i64 (0), .string ⟨#[]⟩]) ∧ Below w.heap.size w w' := by
  · go_enter Tryz.func85, Tryz.ntmps85
    go_wp2_with fail
    refine (value_Same_calls t0 t1 n0 n1 s0 s1 _).mono ?_
    rintro e w1 ⟨rfl, hb1⟩
    obtain ⟨k1, hblk1⟩ := res_block hb1
    have K1 := hid k1
    have HB1 := hid hblk1
    clear hb1 k1 hblk1
    rw [hd]
    go_wp2_with fail
    refine (truth0_calls _).mono ?_
    rintro e w2 ⟨rfl, hb⟩
    have k2 := below_then K1.out hb K1.out.size
    have hblk := (hb.block _ (Array.getElem?_eq_some_iff.1 HB1.out).1).trans HB1.out
    clear hb
    have c0 : w2.cell? ⟨w.heap.size + 1, 0, none⟩ = some (.bool false) := by rw [cell_of_cells hblk]; rfl
    have c1 : w2.cell? ⟨w.heap.size + 1, 1, none⟩ = some (.int .i64 0) := by rw [cell_of_cells hblk]; rfl
    have c2 : w2.cell? ⟨w.heap.size + 1, 2, none⟩ = some (.string ⟨#[]⟩) := by rw [cell_of_cells hblk]; rfl
    have f0 : w2.frozen? ⟨w.heap.size + 1, 0, none⟩ = false := free_of_cells hblk
    have f1 : w2.frozen? ⟨w.heap.size + 1, 1, none⟩ = false := free_of_cells hblk
    have f2 : w2.frozen? ⟨w.heap.size + 1, 2, none⟩ = false := free_of_cells hblk
    have KB := hid (fun x y z => below_set3 (G := w.heap.size + 1) k2 (Nat.le_succ _) 0 1 2 x y z)
    clear k2 hblk
    go_wp2
    refine bodyPost_ret (v := .agg #[.bool false, .int .i64 0, .string ⟨#[]⟩]) (by simp [results, Tryz.results85, go_sem, c0, c1, c2]) rfl ⟨rfl, KB.out _ _ _⟩
end
end Go.Proofs.YtobgobmfhgagbaaGreatDoor
