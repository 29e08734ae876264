/- The plain side of worlds in which one block alone is turned, and of eight counters: nothing of the program is in it. -/
import Derived.Test.YtocedfagfmkgdaaSav
namespace Go.Proofs.Ytocedfagfmkgdaa
open Go.RowKit

/-- Of what was there nothing has turned but block b. -/
structure But (b : Nat) (w w' : World) : Prop where
  os : w'.os = w.os
  tape : w'.tape = w.tape
  output : w'.output = w.output
  size : w.heap.size ≤ w'.heap.size
  block : ∀ k, k < w.heap.size → k ≠ b → w'.heap[k]? = w.heap[k]?

theorem But.refl (b : Nat) (w : World) : But b w w := ⟨rfl, rfl, rfl, Nat.le_refl _, fun _ _ _ => rfl⟩
theorem But.trans {b : Nat} {x y z : World} (h : But b x y) (k : But b y z) : But b x z :=
  ⟨k.os.trans h.os, k.tape.trans h.tape, k.output.trans h.output, Nat.le_trans h.size k.size, fun i hi hn => (k.block i (Nat.lt_of_lt_of_le hi h.size) hn).trans (h.block i hi hn)⟩
theorem But.of_below {b : Nat} {w w' : World} (h : Below w.heap.size w w') : But b w w' := ⟨h.os, h.tape, h.output, h.size, fun k hk _ => h.block k hk⟩
theorem But.below {b B : Nat} {w w' : World} (h : But b w w') (h1 : B ≤ b) (h2 : B ≤ w.heap.size) : Below B w w' :=
  ⟨h.os, h.tape, h.output, h.size, fun k hk => h.block k (by omega) (by omega)⟩
theorem But.setCell {b : Nat} (w : World) (j : Nat) (v : Value) : But b w (w.setCell ⟨b, j, none⟩ v) :=
  ⟨rfl, rfl, rfl, by simp [World.setCell], fun k _ hn => Below.heap_setCell _ _ _ _ (by simpa using hn)⟩
theorem But.alloc {b : Nat} (w : World) (o : Obj) : But b w (w.alloc o) := But.of_below ((Below.refl _ _).alloc (Nat.le_refl _) o)
theorem But.drew {b : Nat} {w w' : World} (h : But b w w') : But b w w'.drew := ⟨h.os, h.tape, h.output, h.size, h.block⟩
theorem But.drewN {b : Nat} {w w' : World} (h : But b w w') (n : Nat) : But b w (w'.drewN n) := ⟨h.os, h.tape, h.output, h.size, h.block⟩

/-- Eight counters lie in block b, and may be written. -/
def Tl (w : World) (b : Nat) (c : List Int) : Prop :=
  c.length = 8 ∧ b < w.heap.size ∧ ∀ j, j < 8 → w.cell? ⟨b, j, none⟩ = some (.int .i64 (c.getD j 0)) ∧ w.frozen? ⟨b, j, none⟩ = false

theorem Tl.of_block {w w' : World} {b : Nat} {c : List Int} (h : Tl w b c) (hs : w.heap.size ≤ w'.heap.size) (hb : w'.heap[b]? = w.heap[b]?) : Tl w' b c := by
  obtain ⟨h1, h2, h3⟩ := h
  refine ⟨h1, by omega, fun j hj => ?_⟩
  have e1 : w'.cell? ⟨b, j, none⟩ = w.cell? ⟨b, j, none⟩ := World.cell?_of_block (w := w) hb
  have e2 : w'.frozen? ⟨b, j, none⟩ = w.frozen? ⟨b, j, none⟩ := World.frozen?_of_block (w := w) hb
  rw [e1, e2]
  exact h3 j hj
theorem Tl.below {w w' : World} {b : Nat} {c : List Int} (h : Tl w b c) (hb : Below w.heap.size w w') : Tl w' b c := h.of_block hb.size (hb.block b h.2.1)
theorem Tl.but {w w' : World} {b d : Nat} {c : List Int} (h : Tl w b c) (hb : But d w w') (hn : b ≠ d) : Tl w' b c := h.of_block hb.size (hb.block b h.2.1 hn)
theorem Tl.set {w : World} {b : Nat} {c : List Int} (h : Tl w b c) (j : Nat) (hj : j < 8) (x : Int) : Tl (w.setCell ⟨b, j, none⟩ (.int .i64 x)) b (c.set j x) := by
  obtain ⟨h1, h2, h3⟩ := h
  refine ⟨by simpa using h1, by simpa [World.setCell] using h2, fun k hk => ?_⟩
  rw [World.frozen?_setCell]
  refine ⟨?_, (h3 k hk).2⟩
  by_cases e : k = j
  · subst e
    rw [World.cell?_setCell_same _ _ _ (h3 k hk).1]
    simp [List.getD, h1, hk]
  · rw [World.cell?_setCell_other _ _ _ _ (fun q => e (by simpa using (Addr.mk.inj q).2.1.symm)), (h3 k hk).1]
    simp [List.getD, Ne.symm e]

/-- Each from 0 to the most. -/
def Cts (c : List Int) : Prop := ∀ j, 0 ≤ c.getD j 0 ∧ c.getD j 0 ≤ 1099511627776

/-- What counter i is, 0 of none. -/
def vl (c : List Int) (i : Int) : Int := if 0 ≤ i ∧ i < 8 then c.getD i.toNat 0 else 0
def addC (c : List Int) (i n : Int) : List Int := if (0 ≤ i ∧ i < 8) ∧ 0 ≤ n ∧ n ≤ 1099511627776 then c.set i.toNat (min (c.getD i.toNat 0 + n) 1099511627776) else c
def raiseC (c : List Int) (i n : Int) : List Int := if (0 ≤ i ∧ i < 8) ∧ n ≤ 1099511627776 then c.set i.toNat (max (c.getD i.toNat 0) n) else c

theorem getD_set (c : List Int) (i j : Nat) (x : Int) (h : i < c.length) : (c.set i x).getD j 0 = if i = j then x else c.getD j 0 := by
  simp only [List.getD, List.getElem?_set]
  by_cases e : i = j
  · subst e; simp [h]
  · simp [e]

theorem vl_no {c : List Int} {i : Int} (h : ¬ (0 ≤ i ∧ i < 8)) : vl c i = 0 := if_neg h
theorem vl_at {c : List Int} (i : Nat) (h : i < 8) : vl c i = c.getD i 0 := by
  unfold vl; rw [if_pos ⟨by omega, by omega⟩, Int.toNat_natCast]
theorem addC_no {c : List Int} {i n : Int} (h : ¬ ((0 ≤ i ∧ i < 8) ∧ 0 ≤ n ∧ n ≤ 1099511627776)) : addC c i n = c := if_neg h
theorem raiseC_no {c : List Int} {i n : Int} (h : ¬ ((0 ≤ i ∧ i < 8) ∧ n ≤ 1099511627776)) : raiseC c i n = c := if_neg h
theorem addC_yes {c : List Int} (i : Nat) {n : Int} (h : i < 8) (h1 : 0 ≤ n) (h2 : n ≤ 1099511627776) : addC c i n = c.set i (min (c.getD i 0 + n) 1099511627776) := by
  unfold addC; rw [if_pos ⟨⟨by omega, by omega⟩, h1, h2⟩, Int.toNat_natCast]
theorem raiseC_yes {c : List Int} (i : Nat) {n : Int} (h : i < 8) (h2 : n ≤ 1099511627776) : raiseC c i n = c.set i (max (c.getD i 0) n) := by
  unfold raiseC; rw [if_pos ⟨⟨by omega, by omega⟩, h2⟩, Int.toNat_natCast]
theorem vl_set {c : List Int} (hc : c.length = 8) (i : Nat) (x : Int) (h : i < 8) : vl (c.set i x) i = x := by
  rw [vl_at i h, getD_set _ _ _ _ (by omega), if_pos rfl]

theorem Cts.set {c : List Int} (h : Cts c) (hc : c.length = 8) (i : Nat) (hi : i < 8) {x : Int} (h1 : 0 ≤ x) (h2 : x ≤ 1099511627776) : Cts (c.set i x) := fun j => by
  rw [getD_set _ _ _ _ (by omega)]
  split
  · exact ⟨h1, h2⟩
  · exact h j
theorem Cts.add {c : List Int} (h : Cts c) (hc : c.length = 8) (i n : Int) : Cts (addC c i n) := by
  by_cases hp : (0 ≤ i ∧ i < 8) ∧ 0 ≤ n ∧ n ≤ 1099511627776
  · obtain ⟨⟨h0, h8⟩, h1, h2⟩ := hp
    obtain ⟨k, rfl⟩ := Int.eq_ofNat_of_zero_le h0
    have := h k
    rw [addC_yes k (by omega) h1 h2]
    exact h.set hc k (by omega) (by omega) (by omega)
  · rw [addC_no hp]; exact h
theorem Cts.raise {c : List Int} (h : Cts c) (hc : c.length = 8) (i n : Int) : Cts (raiseC c i n) := by
  by_cases hp : (0 ≤ i ∧ i < 8) ∧ n ≤ 1099511627776
  · obtain ⟨⟨h0, h8⟩, h2⟩ := hp
    obtain ⟨k, rfl⟩ := Int.eq_ofNat_of_zero_le h0
    have := h k
    rw [raiseC_yes k (by omega) h2]
    exact h.set hc k (by omega) (by omega) (by omega)
  · rw [raiseC_no hp]; exact h
theorem addC_len {c : List Int} (i n : Int) : (addC c i n).length = c.length := by unfold addC; split <;> simp
theorem raiseC_len {c : List Int} (i n : Int) : (raiseC c i n).length = c.length := by unfold raiseC; split <;> simp
end Go.Proofs.Ytocedfagfmkgdaa
