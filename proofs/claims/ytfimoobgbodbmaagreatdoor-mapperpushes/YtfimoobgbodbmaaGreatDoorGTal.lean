/- Laid together: But Tal. -/
import Derived.Test.YtfimoobgbodbmaaGreatDoorGSeq
import Derived.Test.YtfimoobgbodbmaaGreatDoorProg
import Derived.WalkSpells
import Derived.WalkLawsBesides
import Derived.Laws.LoneSync
import Derived.Laws.NewBlocks
/-! The plain side of worlds in which one block alone is turned, and of eight counters: nothing of the program is in it. -/
namespace Go.Proofs.YtfimoobgbodbmaaGreatDoor
open Go.RowKit

/-- Of what was there nothing has turned but block b. -/
structure But (b : Nat) (w w' : World) : Prop where
  os : w'.os = w.os
  tape : w'.tape = w.tape
  output : w'.output = w.output
  size : w.heap.size ≤ w'.heap.size
  block : ∀ k, k < w.heap.size → k ≠ b → w'.heap[k]? = w.heap[k]?

theorem But.refl (b : Nat) (w : World) : But b w w := ⟨rfl, rfl, rfl, Nat.le_refl _, fun _ _ _ => rfl⟩
theorem But.trans {b : Nat} {x y z : World} (h : But b x y) (k : But b y z) : But b x z :=
  ⟨k.os.trans h.os, k.tape.trans h.tape, k.output.trans h.output, Nat.le_trans h.size k.size, fun i hi hn => (k.block i (Nat.lt_of_lt_of_le hi h.size) hn).trans (h.block i hi hn)⟩
theorem But.of_below {b : Nat} {w w' : World} (h : Below w.heap.size w w') : But b w w' := ⟨h.os, h.tape, h.output, h.size, fun k hk _ => h.block k hk⟩
theorem But.below {b B : Nat} {w w' : World} (h : But b w w') (h1 : B ≤ b) (h2 : B ≤ w.heap.size) : Below B w w' :=
  ⟨h.os, h.tape, h.output, h.size, fun k hk => h.block k (by omega) (by omega)⟩
theorem But.setCell {b : Nat} (w : World) (j : Nat) (v : Value) : But b w (w.setCell ⟨b, j, none⟩ v) :=
  ⟨rfl, rfl, rfl, by simp [World.setCell], fun k _ hn => Below.heap_setCell _ _ _ _ (by simpa using hn)⟩
theorem But.alloc {b : Nat} (w : World) (o : Obj) : But b w (w.alloc o) := But.of_below ((Below.refl _ _).alloc (Nat.le_refl _) o)
theorem But.drew {b : Nat} {w w' : World} (h : But b w w') : But b w w'.drew := ⟨h.os, h.tape, h.output, h.size, h.block⟩
theorem But.drewN {b : Nat} {w w' : World} (h : But b w w') (n : Nat) : But b w (w'.drewN n) := ⟨h.os, h.tape, h.output, h.size, h.block⟩

/-- Eight counters lie in block b, and may be written. -/
def Tl (w : World) (b : Nat) (c : List Int) : Prop :=
  c.length = 8 ∧ b < w.heap.size ∧ ∀ j, j < 8 → w.cell? ⟨b, j, none⟩ = some (.int .i64 (c.getD j 0)) ∧ w.frozen? ⟨b, j, none⟩ = false

theorem Tl.of_block {w w' : World} {b : Nat} {c : List Int} (h : Tl w b c) (hs : w.heap.size ≤ w'.heap.size) (hb : w'.heap[b]? = w.heap[b]?) : Tl w' b c := by
  obtain ⟨h1, h2, h3⟩ := h
  refine ⟨h1, by omega, fun j hj => ?_⟩
  have e1 : w'.cell? ⟨b, j, none⟩ = w.cell? ⟨b, j, none⟩ := World.cell?_of_block (w := w) hb
  have e2 : w'.frozen? ⟨b, j, none⟩ = w.frozen? ⟨b, j, none⟩ := World.frozen?_of_block (w := w) hb
  rw [e1, e2]
  exact h3 j hj
theorem Tl.below {w w' : World} {b : Nat} {c : List Int} (h : Tl w b c) (hb : Below w.heap.size w w') : Tl w' b c := h.of_block hb.size (hb.block b h.2.1)
theorem Tl.but {w w' : World} {b d : Nat} {c : List Int} (h : Tl w b c) (hb : But d w w') (hn : b ≠ d) : Tl w' b c := h.of_block hb.size (hb.block b h.2.1 hn)
theorem Tl.set {w : World} {b : Nat} {c : List Int} (h : Tl w b c) (j : Nat) (hj : j < 8) (x : Int) : Tl (w.setCell ⟨b, j, none⟩ (.int .i64 x)) b (c.set j x) := by
  obtain ⟨h1, h2, h3⟩ := h
  refine ⟨by simpa using h1, by simpa [World.setCell] using h2, fun k hk => ?_⟩
  rw [World.frozen?_setCell]
  refine ⟨?_, (h3 k hk).2⟩
  by_cases e : k = j
  · subst e
    rw [World.cell?_setCell_same _ _ _ (h3 k hk).1]
    simp [List.getD, h1, hk]
  · rw [World.cell?_setCell_other _ _ _ _ (fun q => e (by simpa using (Addr.mk.inj q).2.1.symm)), (h3 k hk).1]
    simp [List.getD, Ne.symm e]

/-- Each from 0 to the most. -/
def Cts (c : List Int) : Prop := ∀ j, 0 ≤ c.getD j 0 ∧ c.getD j 0 ≤ 1099511627776

/-- What counter i is, 0 of none. -/
def vl (c : List Int) (i : Int) : Int := if 0 ≤ i ∧ i < 8 then c.getD i.toNat 0 else 0
def addC (c : List Int) (i n : Int) : List Int := if (0 ≤ i ∧ i < 8) ∧ 0 ≤ n ∧ n ≤ 1099511627776 then c.set i.toNat (min (c.getD i.toNat 0 + n) 1099511627776) else c
def raiseC (c : List Int) (i n : Int) : List Int := if (0 ≤ i ∧ i < 8) ∧ n ≤ 1099511627776 then c.set i.toNat (max (c.getD i.toNat 0) n) else c

theorem getD_set (c : List Int) (i j : Nat) (x : Int) (h : i < c.length) : (c.set i x).getD j 0 = if i = j then x else c.getD j 0 := by
  simp only [List.getD, List.getElem?_set]
  by_cases e : i = j
  · subst e; simp [h]
  · simp [e]

theorem vl_no {c : List Int} {i : Int} (h : ¬ (0 ≤ i ∧ i < 8)) : vl c i = 0 := if_neg h
theorem vl_at {c : List Int} (i : Nat) (h : i < 8) : vl c i = c.getD i 0 := by
  unfold vl; rw [if_pos ⟨by omega, by omega⟩, Int.toNat_natCast]
theorem addC_no {c : List Int} {i n : Int} (h : ¬ ((0 ≤ i ∧ i < 8) ∧ 0 ≤ n ∧ n ≤ 1099511627776)) : addC c i n = c := if_neg h
theorem raiseC_no {c : List Int} {i n : Int} (h : ¬ ((0 ≤ i ∧ i < 8) ∧ n ≤ 1099511627776)) : raiseC c i n = c := if_neg h
theorem addC_yes {c : List Int} (i : Nat) {n : Int} (h : i < 8) (h1 : 0 ≤ n) (h2 : n ≤ 1099511627776) : addC c i n = c.set i (min (c.getD i 0 + n) 1099511627776) := by
  unfold addC; rw [if_pos ⟨⟨by omega, by omega⟩, h1, h2⟩, Int.toNat_natCast]
theorem raiseC_yes {c : List Int} (i : Nat) {n : Int} (h : i < 8) (h2 : n ≤ 1099511627776) : raiseC c i n = c.set i (max (c.getD i 0) n) := by
  unfold raiseC; rw [if_pos ⟨⟨by omega, by omega⟩, h2⟩, Int.toNat_natCast]
theorem vl_set {c : List Int} (hc : c.length = 8) (i : Nat) (x : Int) (h : i < 8) : vl (c.set i x) i = x := by
  rw [vl_at i h, getD_set _ _ _ _ (by omega), if_pos rfl]

theorem Cts.set {c : List Int} (h : Cts c) (hc : c.length = 8) (i : Nat) (hi : i < 8) {x : Int} (h1 : 0 ≤ x) (h2 : x ≤ 1099511627776) : Cts (c.set i x) := fun j => by
  rw [getD_set _ _ _ _ (by omega)]
  split
  · exact ⟨h1, h2⟩
  · exact h j
theorem Cts.add {c : List Int} (h : Cts c) (hc : c.length = 8) (i n : Int) : Cts (addC c i n) := by
  by_cases hp : (0 ≤ i ∧ i < 8) ∧ 0 ≤ n ∧ n ≤ 1099511627776
  · obtain ⟨⟨h0, h8⟩, h1, h2⟩ := hp
    obtain ⟨k, rfl⟩ := Int.eq_ofNat_of_zero_le h0
    have := h k
    rw [addC_yes k (by omega) h1 h2]
    exact h.set hc k (by omega) (by omega) (by omega)
  · rw [addC_no hp]; exact h
theorem Cts.raise {c : List Int} (h : Cts c) (hc : c.length = 8) (i n : Int) : Cts (raiseC c i n) := by
  by_cases hp : (0 ≤ i ∧ i < 8) ∧ n ≤ 1099511627776
  · obtain ⟨⟨h0, h8⟩, h2⟩ := hp
    obtain ⟨k, rfl⟩ := Int.eq_ofNat_of_zero_le h0
    have := h k
    rw [raiseC_yes k (by omega) h2]
    exact h.set hc k (by omega) (by omega) (by omega)
  · rw [raiseC_no hp]; exact h
theorem addC_len {c : List Int} (i n : Int) : (addC c i n).length = c.length := by unfold addC; split <;> simp
theorem raiseC_len {c : List Int} (i n : Int) : (raiseC c i n).length = c.length := by unfold raiseC; split <;> simp
end Go.Proofs.YtfimoobgbodbmaaGreatDoor
/-! What the methods of tally.Tally do: has, Load, CompareAndSwap, Get, change, Add, Raise, New. -/
namespace Go.Proofs.YtfimoobgbodbmaaGreatDoor
open Go.RowKit
set_option linter.unusedVariables false
set_option maxRecDepth 100000
theorem ret_int {k : IntKind} {a b : Int} (h : a = b) : Ending.returned (.int k a) = .returned (.int k b) := by rw [h]

theorem new_any (w : World) : Calls Tryz.prog 141 #[] w fun e w' => e = .returned (.pointer (some ⟨w.heap.size, 0, none⟩)) ∧ w' = w.alloc (.cells #[.int .i64 0, .int .i64 0, .int .i64 0, .int .i64 0, .int .i64 0, .int .i64 0, .int .i64 0, .int .i64 0] 227) := by
  go_enter Tryz.func141, Tryz.ntmps141
  go_wp2
  go_ret
  exact ⟨rfl, rfl⟩

theorem has_nil (i : Int) (w : World) : Calls Tryz.prog 192 #[.pointer none, .int .i64 i] w fun e w' => e = .returned (.bool false) ∧ w = w' := by
  go_enter Tryz.func192, Tryz.ntmps192
  go_wp2
  go_ret
  exact ⟨rfl, rfl⟩

theorem has_any (a : Addr) (i : Int) (w : World) : Calls Tryz.prog 192 #[.pointer (some a), .int .i64 i] w fun e w' => e = .returned (.bool (decide (0 ≤ i ∧ i < 8))) ∧ w = w' := by
  by_cases h0 : 0 ≤ i
  · by_cases h8 : i < 8
    · rw [decide_eq_true ⟨h0, h8⟩]
      go_enter Tryz.func192, Tryz.ntmps192
      go_wp2
      go_ret
      exact ⟨rfl, rfl⟩
    · rw [decide_eq_false (by omega)]
      go_enter Tryz.func192, Tryz.ntmps192
      go_wp2
      go_ret
      exact ⟨rfl, rfl⟩
  · rw [decide_eq_false (by omega)]
    go_enter Tryz.func192, Tryz.ntmps192
    go_wp2
    go_ret
    exact ⟨rfl, rfl⟩

theorem load_any (a : Addr) (x : Int) (w : World) (h : w.cell? a = some (.int .i64 x)) : Calls Tryz.prog 193 #[.pointer (some a)] w fun e w' => e = .returned (.int .i64 x) ∧ w = w' := by
  have hl := run_call_load (P := Tryz.prog) Tryz.func218 (by kernel_rfl) (by kernel_rfl) (by kernel_rfl) .i64 (by kernel_rfl) h
  go_enter Tryz.func193, Tryz.ntmps193
  go_wp2
  go_ret
  exact ⟨rfl, rfl⟩

theorem cas_any (a : Addr) (x y : Int) (w : World) (h : w.cell? a = some (.int .i64 x)) (hf : w.frozen? a = false) : Calls Tryz.prog 219 #[.pointer (some a), .int .i64 x, .int .i64 y] w fun e w' => e = .returned (.bool true) ∧ w' = w.setCell a (.int .i64 y) := by
  have hl := run_call_cas_hit (P := Tryz.prog) Tryz.func237 (by kernel_rfl) (by kernel_rfl) (by kernel_rfl) .i64 (by kernel_rfl) (y := y) h hf
  go_enter Tryz.func219, Tryz.ntmps219
  go_wp2
  go_ret
  exact ⟨rfl, rfl⟩

theorem get_nil (i : Int) (w : World) : Calls Tryz.prog 142 #[.pointer none, .int .i64 i] w fun e w' => e = .returned (.int .i64 0) ∧ w = w' := by
  have hnot : ∀ (x : Bool) (w : World), (Op.unary .not (.bool x)).run Tryz.prog w = .ok (.bool (!x)) w := fun _ _ => rfl
  go_enter Tryz.func142, Tryz.ntmps142
  go_wp2_with fail
  refine (has_nil i w).mono ?_
  rintro e w1 ⟨rfl, rfl⟩
  go_wp2
  go_ret
  exact ⟨rfl, rfl⟩

theorem get_any (b : Nat) (i : Int) (c : List Int) (w : World) (hc : Tl w b c) : Calls Tryz.prog 142 #[.pointer (some ⟨b, 0, none⟩), .int .i64 i] w fun e w' => e = .returned (.int .i64 (vl c i)) ∧ w = w' := by
  have hnot : ∀ (x : Bool) (w : World), (Op.unary .not (.bool x)).run Tryz.prog w = .ok (.bool (!x)) w := fun _ _ => rfl
  by_cases hi : 0 ≤ i ∧ i < 8
  · obtain ⟨h0, h8⟩ := hi
    obtain ⟨k, rfl⟩ := Int.eq_ofNat_of_zero_le h0
    have hk : k < 8 := by omega
    rw [vl_at k hk]
    have HC := hid (hc.2.2 k hk).1
    clear hc
    go_enter Tryz.func142, Tryz.ntmps142
    go_wp2_with fail
    refine (has_any _ _ w).mono ?_
    rintro e w1 ⟨rfl, rfl⟩
    rw [decide_eq_true ⟨h0, h8⟩]
    go_wp2_with fail
    refine (load_any _ _ w HC.out).mono ?_
    rintro e w1 ⟨rfl, rfl⟩
    go_wp2
    go_ret
    exact ⟨rfl, rfl⟩
  · rw [vl_no hi]
    go_enter Tryz.func142, Tryz.ntmps142
    go_wp2_with fail
    refine (has_any _ _ w).mono ?_
    rintro e w1 ⟨rfl, rfl⟩
    rw [decide_eq_false hi]
    go_wp2
    go_ret
    exact ⟨rfl, rfl⟩

theorem nextAdd_any (x n : Int) (a : Addr) (w : World) (h : w.cell? a = some (.int .i64 n)) (hx : 0 ≤ x ∧ x ≤ 1099511627776) (hn : 0 ≤ n ∧ n ≤ 1099511627776) :
    Calls Tryz.prog 196 #[.int .i64 x, .pointer (some a)] w fun e w' => e = .returned (.int .i64 (min (x + n) 1099511627776)) ∧ w = w' := by
  obtain ⟨hx0, hx1⟩ := hx
  obtain ⟨hn0, hn1⟩ := hn
  go_enter Tryz.func196, Tryz.ntmps196
  go_wp2
  all_goals
    go_ret
    exact ⟨ret_int (by omega), rfl⟩

set_option maxHeartbeats 400000 in
theorem change_add (b i : Nat) (n : Int) (a : Addr) (c : List Int) (w : World) (hc : Tl w b c) (hi : i < 8) (h : w.cell? a = some (.int .i64 n)) (hx : 0 ≤ c.getD i 0 ∧ c.getD i 0 ≤ 1099511627776) (hn : 0 ≤ n ∧ n ≤ 1099511627776) :
    Calls Tryz.prog 195 #[.pointer (some ⟨b, 0, none⟩), .int .i64 i, .func (.func 196) #[] #[.pointer (some a)]] w fun e w' => e = .returned (.int .i64 (min (c.getD i 0 + n) 1099511627776)) ∧ Tl w' b (c.set i (min (c.getD i 0 + n) 1099511627776)) ∧ But b w w' := by
  have hnot : ∀ (x : Bool) (w : World), (Op.unary .not (.bool x)).run Tryz.prog w = .ok (.bool (!x)) w := fun _ _ => rfl
  have HC := hid (hc.2.2 i hi).1
  have HF := hid (hc.2.2 i hi).2
  have HT := hid (fun x => hc.set i hi x)
  clear hc
  generalize c.getD i 0 = x at *
  have HN := hid h
  clear h
  have h0 : (0 : Int) ≤ i := by omega
  have h8 : (i : Int) < 8 := by omega
  go_enter Tryz.func195, Tryz.ntmps195
  go_wp2_with fail
  refine (has_any _ _ w).mono ?_
  rintro e w1 ⟨rfl, rfl⟩
  rw [decide_eq_true ⟨h0, h8⟩]
  go_wp2_with fail
  refine wp_loop_rounds 1 ?_
  rw [rounds_succ]
  go_wp2_with fail
  refine (load_any _ _ w HC.out).mono ?_
  rintro e w1 ⟨rfl, rfl⟩
  go_wp2_with fail
  refine (nextAdd_any _ n a w HN.out hx hn).mono ?_
  rintro e w1 ⟨rfl, rfl⟩
  go_wp2_with fail
  refine (cas_any _ _ _ w HC.out HF.out).mono ?_
  rintro e w1 ⟨rfl, rfl⟩
  go_wp2
  go_ret
  exact ⟨rfl, HT.out _, But.setCell _ _ _⟩

theorem new_ne {w : World} {b k j : Nat} (h : b < w.heap.size) : (⟨b, k, none⟩ : Addr) ≠ ⟨w.heap.size, j, none⟩ := by
  intro e
  have := (Addr.mk.inj e).1
  omega

theorem change_no (b : Nat) (i : Int) (fv : Value) (w : World) (hi : ¬ (0 ≤ i ∧ i < 8)) :
    Calls Tryz.prog 195 #[.pointer (some ⟨b, 0, none⟩), .int .i64 i, fv] w fun e w' => e = .returned (.int .i64 0) ∧ w = w' := by
  have hnot : ∀ (x : Bool) (w : World), (Op.unary .not (.bool x)).run Tryz.prog w = .ok (.bool (!x)) w := fun _ _ => rfl
  go_enter Tryz.func195, Tryz.ntmps195
  go_wp2_with fail
  refine (has_any _ _ w).mono ?_
  rintro e w1 ⟨rfl, rfl⟩
  rw [decide_eq_false hi]
  go_wp2
  go_ret
  exact ⟨rfl, rfl⟩

theorem change_nil (i : Int) (fv : Value) (w : World) :
    Calls Tryz.prog 195 #[.pointer none, .int .i64 i, fv] w fun e w' => e = .returned (.int .i64 0) ∧ w = w' := by
  have hnot : ∀ (x : Bool) (w : World), (Op.unary .not (.bool x)).run Tryz.prog w = .ok (.bool (!x)) w := fun _ _ => rfl
  go_enter Tryz.func195, Tryz.ntmps195
  go_wp2_with fail
  refine (has_nil _ w).mono ?_
  rintro e w1 ⟨rfl, rfl⟩
  go_wp2
  go_ret
  exact ⟨rfl, rfl⟩

theorem below_box (w : World) (v : Value) (t : TypeId) : Below w.heap.size w (w.alloc (.cells #[v] t)) := (Below.refl _ _).alloc (Nat.le_refl _) _

set_option maxHeartbeats 400000 in
theorem add_any (b : Nat) (i n : Int) (c : List Int) (w : World) (hc : Tl w b c) (hC : Cts c) : Calls Tryz.prog 145 #[.pointer (some ⟨b, 0, none⟩), .int .i64 i, .int .i64 n] w fun e w' => e = .returned (.int .i64 (vl (addC c i n) i)) ∧ Tl w' b (addC c i n) ∧ But b w w' := by
  have hmf : ∀ (fn : Fn) (first cap : Array Value) (w : World), (Instr.makeFunc fn first cap).run Tryz.prog w = .ok (.func fn first cap) w := fun _ _ _ _ => rfl
  have HC := hid (hc.below (below_box w (.int .i64 n) 3))
  have hb := hc.2.1
  have hl := hc.1
  by_cases hn : 0 ≤ n ∧ n ≤ 1099511627776
  · obtain ⟨h0, h1⟩ := hn
    by_cases hi : 0 ≤ i ∧ i < 8
    · obtain ⟨hi0, hi8⟩ := hi
      obtain ⟨k, rfl⟩ := Int.eq_ofNat_of_zero_le hi0
      have hk : k < 8 := by omega
      rw [addC_yes k hk h0 h1, vl_set hl k _ hk]
      clear hc hl
      go_enter Tryz.func145, Tryz.ntmps145
      go_wp2_with fail
      refine (change_add b k n _ c _ HC.out hk (by simp) (hC k) ⟨h0, h1⟩).mono ?_
      rintro e w1 ⟨rfl, ht, hu⟩
      go_wp2
      go_ret
      exact ⟨rfl, ht, (But.of_below (below_box w _ _)).trans hu⟩
    · rw [addC_no (fun h => hi h.1), vl_no hi]
      clear hc
      go_enter Tryz.func145, Tryz.ntmps145
      go_wp2_with fail
      refine (change_no b i _ _ hi).mono ?_
      rintro e w1 ⟨rfl, rfl⟩
      go_wp2
      go_ret
      exact ⟨rfl, HC.out, But.of_below (below_box w _ _)⟩
  · rw [addC_no (fun h => hn h.2)]
    clear hc
    by_cases h0 : n < 0
    · go_enter Tryz.func145, Tryz.ntmps145
      go_wp2_with fail
      refine (get_any b i c _ HC.out).mono ?_
      rintro e w1 ⟨rfl, rfl⟩
      go_wp2
      go_ret
      exact ⟨rfl, HC.out, But.of_below (below_box w _ _)⟩
    · have h1 : 1099511627776 < n := by omega
      go_enter Tryz.func145, Tryz.ntmps145
      go_wp2_with fail
      refine (get_any b i c _ HC.out).mono ?_
      rintro e w1 ⟨rfl, rfl⟩
      go_wp2
      go_ret
      exact ⟨rfl, HC.out, But.of_below (below_box w _ _)⟩

set_option maxHeartbeats 400000 in
theorem add_nil (i n : Int) (w : World) : Calls Tryz.prog 145 #[.pointer none, .int .i64 i, .int .i64 n] w fun e w' => e = .returned (.int .i64 0) ∧ Below w.heap.size w w' := by
  have hmf : ∀ (fn : Fn) (first cap : Array Value) (w : World), (Instr.makeFunc fn first cap).run Tryz.prog w = .ok (.func fn first cap) w := fun _ _ _ _ => rfl
  by_cases h0 : n < 0
  · go_enter Tryz.func145, Tryz.ntmps145
    go_wp2_with fail
    refine (get_nil i _).mono ?_
    rintro e w1 ⟨rfl, rfl⟩
    go_wp2
    go_ret
    exact ⟨rfl, below_box w _ _⟩
  · by_cases h1 : 1099511627776 < n
    · go_enter Tryz.func145, Tryz.ntmps145
      go_wp2_with fail
      refine (get_nil i _).mono ?_
      rintro e w1 ⟨rfl, rfl⟩
      go_wp2
      go_ret
      exact ⟨rfl, below_box w _ _⟩
    · go_enter Tryz.func145, Tryz.ntmps145
      go_wp2_with fail
      refine (change_nil i _ _).mono ?_
      rintro e w1 ⟨rfl, rfl⟩
      go_wp2
      go_ret
      exact ⟨rfl, below_box w _ _⟩

end Go.Proofs.YtfimoobgbodbmaaGreatDoor
