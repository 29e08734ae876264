/- What the methods of tally.Tally do: has, Load, CompareAndSwap, Get, change, Add, Raise, New. -/
import Derived.Test.YtocedfagfmkgdaaProg
import Derived.Test.YtocedfagfmkgdaaBut
import Derived.WalkSpells
import Derived.WalkLawsBesides
import Derived.Laws.LoneSync
import Derived.Laws.NewBlocks
namespace Go.Proofs.Ytocedfagfmkgdaa
open Go.RowKit
set_option linter.unusedVariables false
theorem ret_int {k : IntKind} {a b : Int} (h : a = b) : Ending.returned (.int k a) = .returned (.int k b) := by rw [h]

theorem new_any (w : World) : Calls Try.prog 21 #[] w fun e w' => e = .returned (.pointer (some ⟨w.heap.size, 0, none⟩)) ∧ w' = w.alloc (.cells #[.int .i64 0, .int .i64 0, .int .i64 0, .int .i64 0, .int .i64 0, .int .i64 0, .int .i64 0, .int .i64 0] 71) := by
  go_enter Try.func21, Try.ntmps21
  go_wp2
  go_ret
  exact ⟨rfl, rfl⟩

theorem has_nil (i : Int) (w : World) : Calls Try.prog 33 #[.pointer none, .int .i64 i] w fun e w' => e = .returned (.bool false) ∧ w = w' := by
  go_enter Try.func33, Try.ntmps33
  go_wp2
  go_ret
  exact ⟨rfl, rfl⟩

theorem has_any (a : Addr) (i : Int) (w : World) : Calls Try.prog 33 #[.pointer (some a), .int .i64 i] w fun e w' => e = .returned (.bool (decide (0 ≤ i ∧ i < 8))) ∧ w = w' := by
  by_cases h0 : 0 ≤ i
  · by_cases h8 : i < 8
    · rw [decide_eq_true ⟨h0, h8⟩]
      go_enter Try.func33, Try.ntmps33
      go_wp2
      go_ret
      exact ⟨rfl, rfl⟩
    · rw [decide_eq_false (by omega)]
      go_enter Try.func33, Try.ntmps33
      go_wp2
      go_ret
      exact ⟨rfl, rfl⟩
  · rw [decide_eq_false (by omega)]
    go_enter Try.func33, Try.ntmps33
    go_wp2
    go_ret
    exact ⟨rfl, rfl⟩

theorem load_any (a : Addr) (x : Int) (w : World) (h : w.cell? a = some (.int .i64 x)) : Calls Try.prog 34 #[.pointer (some a)] w fun e w' => e = .returned (.int .i64 x) ∧ w = w' := by
  have hl := run_call_load (P := Try.prog) Try.func40 (by kernel_rfl) (by kernel_rfl) (by kernel_rfl) .i64 (by kernel_rfl) h
  go_enter Try.func34, Try.ntmps34
  go_wp2
  go_ret
  exact ⟨rfl, rfl⟩

theorem cas_any (a : Addr) (x y : Int) (w : World) (h : w.cell? a = some (.int .i64 x)) (hf : w.frozen? a = false) : Calls Try.prog 39 #[.pointer (some a), .int .i64 x, .int .i64 y] w fun e w' => e = .returned (.bool true) ∧ w' = w.setCell a (.int .i64 y) := by
  have hl := run_call_cas_hit (P := Try.prog) Try.func41 (by kernel_rfl) (by kernel_rfl) (by kernel_rfl) .i64 (by kernel_rfl) (y := y) h hf
  go_enter Try.func39, Try.ntmps39
  go_wp2
  go_ret
  exact ⟨rfl, rfl⟩

theorem get_nil (i : Int) (w : World) : Calls Try.prog 24 #[.pointer none, .int .i64 i] w fun e w' => e = .returned (.int .i64 0) ∧ w = w' := by
  have hnot : ∀ (x : Bool) (w : World), (Op.unary .not (.bool x)).run Try.prog w = .ok (.bool (!x)) w := fun _ _ => rfl
  go_enter Try.func24, Try.ntmps24
  go_wp2_with fail
  refine (has_nil i w).mono ?_
  rintro e w1 ⟨rfl, rfl⟩
  go_wp2
  go_ret
  exact ⟨rfl, rfl⟩

theorem get_any (b : Nat) (i : Int) (c : List Int) (w : World) (hc : Tl w b c) : Calls Try.prog 24 #[.pointer (some ⟨b, 0, none⟩), .int .i64 i] w fun e w' => e = .returned (.int .i64 (vl c i)) ∧ w = w' := by
  have hnot : ∀ (x : Bool) (w : World), (Op.unary .not (.bool x)).run Try.prog w = .ok (.bool (!x)) w := fun _ _ => rfl
  by_cases hi : 0 ≤ i ∧ i < 8
  · obtain ⟨h0, h8⟩ := hi
    obtain ⟨k, rfl⟩ := Int.eq_ofNat_of_zero_le h0
    have hk : k < 8 := by omega
    rw [vl_at k hk]
    have HC := hid (hc.2.2 k hk).1
    clear hc
    go_enter Try.func24, Try.ntmps24
    go_wp2_with fail
    refine (has_any _ _ w).mono ?_
    rintro e w1 ⟨rfl, rfl⟩
    rw [decide_eq_true ⟨h0, h8⟩]
    go_wp2_with fail
    refine (load_any _ _ w HC.out).mono ?_
    rintro e w1 ⟨rfl, rfl⟩
    go_wp2
    go_ret
    exact ⟨rfl, rfl⟩
  · rw [vl_no hi]
    go_enter Try.func24, Try.ntmps24
    go_wp2_with fail
    refine (has_any _ _ w).mono ?_
    rintro e w1 ⟨rfl, rfl⟩
    rw [decide_eq_false hi]
    go_wp2
    go_ret
    exact ⟨rfl, rfl⟩

theorem nextAdd_any (x n : Int) (a : Addr) (w : World) (h : w.cell? a = some (.int .i64 n)) (hx : 0 ≤ x ∧ x ≤ 1099511627776) (hn : 0 ≤ n ∧ n ≤ 1099511627776) :
    Calls Try.prog 32 #[.int .i64 x, .pointer (some a)] w fun e w' => e = .returned (.int .i64 (min (x + n) 1099511627776)) ∧ w = w' := by
  obtain ⟨hx0, hx1⟩ := hx
  obtain ⟨hn0, hn1⟩ := hn
  go_enter Try.func32, Try.ntmps32
  go_wp2
  all_goals
    go_ret
    exact ⟨ret_int (by omega), rfl⟩

set_option maxHeartbeats 400000 in
theorem change_add (b i : Nat) (n : Int) (a : Addr) (c : List Int) (w : World) (hc : Tl w b c) (hi : i < 8) (h : w.cell? a = some (.int .i64 n)) (hx : 0 ≤ c.getD i 0 ∧ c.getD i 0 ≤ 1099511627776) (hn : 0 ≤ n ∧ n ≤ 1099511627776) :
    Calls Try.prog 31 #[.pointer (some ⟨b, 0, none⟩), .int .i64 i, .func (.func 32) #[] #[.pointer (some a)]] w fun e w' => e = .returned (.int .i64 (min (c.getD i 0 + n) 1099511627776)) ∧ Tl w' b (c.set i (min (c.getD i 0 + n) 1099511627776)) ∧ But b w w' := by
  have hnot : ∀ (x : Bool) (w : World), (Op.unary .not (.bool x)).run Try.prog w = .ok (.bool (!x)) w := fun _ _ => rfl
  have HC := hid (hc.2.2 i hi).1
  have HF := hid (hc.2.2 i hi).2
  have HT := hid (fun x => hc.set i hi x)
  clear hc
  generalize c.getD i 0 = x at *
  have HN := hid h
  clear h
  have h0 : (0 : Int) ≤ i := by omega
  have h8 : (i : Int) < 8 := by omega
  go_enter Try.func31, Try.ntmps31
  go_wp2_with fail
  refine (has_any _ _ w).mono ?_
  rintro e w1 ⟨rfl, rfl⟩
  rw [decide_eq_true ⟨h0, h8⟩]
  go_wp2_with fail
  refine wp_loop_rounds 1 ?_
  rw [rounds_succ]
  go_wp2_with fail
  refine (load_any _ _ w HC.out).mono ?_
  rintro e w1 ⟨rfl, rfl⟩
  go_wp2_with fail
  refine (nextAdd_any _ n a w HN.out hx hn).mono ?_
  rintro e w1 ⟨rfl, rfl⟩
  go_wp2_with fail
  refine (cas_any _ _ _ w HC.out HF.out).mono ?_
  rintro e w1 ⟨rfl, rfl⟩
  go_wp2
  go_ret
  exact ⟨rfl, HT.out _, But.setCell _ _ _⟩

theorem new_ne {w : World} {b k j : Nat} (h : b < w.heap.size) : (⟨b, k, none⟩ : Addr) ≠ ⟨w.heap.size, j, none⟩ := by
  intro e
  have := (Addr.mk.inj e).1
  omega

theorem change_no (b : Nat) (i : Int) (fv : Value) (w : World) (hi : ¬ (0 ≤ i ∧ i < 8)) :
    Calls Try.prog 31 #[.pointer (some ⟨b, 0, none⟩), .int .i64 i, fv] w fun e w' => e = .returned (.int .i64 0) ∧ w = w' := by
  have hnot : ∀ (x : Bool) (w : World), (Op.unary .not (.bool x)).run Try.prog w = .ok (.bool (!x)) w := fun _ _ => rfl
  go_enter Try.func31, Try.ntmps31
  go_wp2_with fail
  refine (has_any _ _ w).mono ?_
  rintro e w1 ⟨rfl, rfl⟩
  rw [decide_eq_false hi]
  go_wp2
  go_ret
  exact ⟨rfl, rfl⟩

theorem change_nil (i : Int) (fv : Value) (w : World) :
    Calls Try.prog 31 #[.pointer none, .int .i64 i, fv] w fun e w' => e = .returned (.int .i64 0) ∧ w = w' := by
  have hnot : ∀ (x : Bool) (w : World), (Op.unary .not (.bool x)).run Try.prog w = .ok (.bool (!x)) w := fun _ _ => rfl
  go_enter Try.func31, Try.ntmps31
  go_wp2_with fail
  refine (has_nil _ w).mono ?_
  rintro e w1 ⟨rfl, rfl⟩
  go_wp2
  go_ret
  exact ⟨rfl, rfl⟩

theorem below_box (w : World) (v : Value) (t : TypeId) : Below w.heap.size w (w.alloc (.cells #[v] t)) := (Below.refl _ _).alloc (Nat.le_refl _) _

set_option maxHeartbeats 400000 in
theorem add_any (b : Nat) (i n : Int) (c : List Int) (w : World) (hc : Tl w b c) (hC : Cts c) : Calls Try.prog 23 #[.pointer (some ⟨b, 0, none⟩), .int .i64 i, .int .i64 n] w fun e w' => e = .returned (.int .i64 (vl (addC c i n) i)) ∧ Tl w' b (addC c i n) ∧ But b w w' := by
  have hmf : ∀ (fn : Fn) (first cap : Array Value) (w : World), (Instr.makeFunc fn first cap).run Try.prog w = .ok (.func fn first cap) w := fun _ _ _ _ => rfl
  have HC := hid (hc.below (below_box w (.int .i64 n) 3))
  have hb := hc.2.1
  have hl := hc.1
  by_cases hn : 0 ≤ n ∧ n ≤ 1099511627776
  · obtain ⟨h0, h1⟩ := hn
    by_cases hi : 0 ≤ i ∧ i < 8
    · obtain ⟨hi0, hi8⟩ := hi
      obtain ⟨k, rfl⟩ := Int.eq_ofNat_of_zero_le hi0
      have hk : k < 8 := by omega
      rw [addC_yes k hk h0 h1, vl_set hl k _ hk]
      clear hc hl
      go_enter Try.func23, Try.ntmps23
      go_wp2_with fail
      refine (change_add b k n _ c _ HC.out hk (by simp) (hC k) ⟨h0, h1⟩).mono ?_
      rintro e w1 ⟨rfl, ht, hu⟩
      go_wp2
      go_ret
      exact ⟨rfl, ht, (But.of_below (below_box w _ _)).trans hu⟩
    · rw [addC_no (fun h => hi h.1), vl_no hi]
      clear hc
      go_enter Try.func23, Try.ntmps23
      go_wp2_with fail
      refine (change_no b i _ _ hi).mono ?_
      rintro e w1 ⟨rfl, rfl⟩
      go_wp2
      go_ret
      exact ⟨rfl, HC.out, But.of_below (below_box w _ _)⟩
  · rw [addC_no (fun h => hn h.2)]
    clear hc
    by_cases h0 : n < 0
    · go_enter Try.func23, Try.ntmps23
      go_wp2_with fail
      refine (get_any b i c _ HC.out).mono ?_
      rintro e w1 ⟨rfl, rfl⟩
      go_wp2
      go_ret
      exact ⟨rfl, HC.out, But.of_below (below_box w _ _)⟩
    · have h1 : 1099511627776 < n := by omega
      go_enter Try.func23, Try.ntmps23
      go_wp2_with fail
      refine (get_any b i c _ HC.out).mono ?_
      rintro e w1 ⟨rfl, rfl⟩
      go_wp2
      go_ret
      exact ⟨rfl, HC.out, But.of_below (below_box w _ _)⟩

set_option maxHeartbeats 400000 in
theorem add_nil (i n : Int) (w : World) : Calls Try.prog 23 #[.pointer none, .int .i64 i, .int .i64 n] w fun e w' => e = .returned (.int .i64 0) ∧ Below w.heap.size w w' := by
  have hmf : ∀ (fn : Fn) (first cap : Array Value) (w : World), (Instr.makeFunc fn first cap).run Try.prog w = .ok (.func fn first cap) w := fun _ _ _ _ => rfl
  by_cases h0 : n < 0
  · go_enter Try.func23, Try.ntmps23
    go_wp2_with fail
    refine (get_nil i _).mono ?_
    rintro e w1 ⟨rfl, rfl⟩
    go_wp2
    go_ret
    exact ⟨rfl, below_box w _ _⟩
  · by_cases h1 : 1099511627776 < n
    · go_enter Try.func23, Try.ntmps23
      go_wp2_with fail
      refine (get_nil i _).mono ?_
      rintro e w1 ⟨rfl, rfl⟩
      go_wp2
      go_ret
      exact ⟨rfl, below_box w _ _⟩
    · go_enter Try.func23, Try.ntmps23
      go_wp2_with fail
      refine (change_nil i _ _).mono ?_
      rintro e w1 ⟨rfl, rfl⟩
      go_wp2
      go_ret
      exact ⟨rfl, below_box w _ _⟩

end Go.Proofs.Ytocedfagfmkgdaa
