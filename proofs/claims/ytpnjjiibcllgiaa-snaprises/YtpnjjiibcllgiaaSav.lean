/- Worlds in which only blocks of a set S are turned: nothing of the program is in it. -/
import Derived.WalkKit
import Derived.Below
import Derived.OneCell
import Derived.Deep.QuietTactic
import Derived.BigQuiet
namespace Go.Proofs.Ytpnjjiibcllgiaa
open Go.RowKit

theorem hid {p : Prop} (h : p) : Hid p := h

/-- Of what was there nothing has turned but blocks of S. -/
structure Sav (S : Nat → Prop) (w w' : World) : Prop where
  os : w'.os = w.os
  tape : w'.tape = w.tape
  output : w'.output = w.output
  size : w.heap.size ≤ w'.heap.size
  block : ∀ k, k < w.heap.size → ¬ S k → w'.heap[k]? = w.heap[k]?

/-- Nothing has turned. -/
def Non (_ : Nat) : Prop := False
/-- Block b alone. -/
def Just (b k : Nat) : Prop := k = b
theorem just (b : Nat) : Just b b := rfl
/-- S, and block b. -/
def Also (S : Nat → Prop) (b k : Nat) : Prop := S k ∨ k = b

theorem Sav.refl (S : Nat → Prop) (w : World) : Sav S w w := ⟨rfl, rfl, rfl, Nat.le_refl _, fun _ _ _ => rfl⟩
theorem Sav.trans {S : Nat → Prop} {x y z : World} (h : Sav S x y) (k : Sav S y z) : Sav S x z :=
  ⟨k.os.trans h.os, k.tape.trans h.tape, k.output.trans h.output, Nat.le_trans h.size k.size, fun i hi hn => (k.block i (Nat.lt_of_lt_of_le hi h.size) hn).trans (h.block i hi hn)⟩
theorem Sav.mono {S T : Nat → Prop} {w w' : World} (h : Sav S w w') (hs : ∀ k, k < w.heap.size → S k → T k) : Sav T w w' :=
  ⟨h.os, h.tape, h.output, h.size, fun k hk hn => h.block k hk (fun hS => hn (hs k hk hS))⟩
theorem Sav.of_below {S : Nat → Prop} {w w' : World} (h : Below w.heap.size w w') : Sav S w w' := ⟨h.os, h.tape, h.output, h.size, fun k hk _ => h.block k hk⟩
theorem Sav.below {S : Nat → Prop} {B : Nat} {w w' : World} (h : Sav S w w') (h1 : ∀ k, S k → B ≤ k) (h2 : B ≤ w.heap.size) : Below B w w' :=
  ⟨h.os, h.tape, h.output, h.size, fun k hk => h.block k (by omega) (fun hS => by have := h1 k hS; omega)⟩
theorem Sav.setCell {S : Nat → Prop} {w w' : World} (h : Sav S w w') {b : Nat} (hb : S b) (j : Nat) (v : Value) : Sav S w (w'.setCell ⟨b, j, none⟩ v) :=
  h.trans ⟨rfl, rfl, rfl, by simp [World.setCell], fun k _ hn => Below.heap_setCell _ _ _ _ (fun e => hn (by simp only at e; rw [e]; exact hb))⟩
theorem Sav.setNew {S : Nat → Prop} {w w' : World} (h : Sav S w w') {b : Nat} (hb : w.heap.size ≤ b) (j : Nat) (v : Value) : Sav S w (w'.setCell ⟨b, j, none⟩ v) :=
  ⟨h.os, h.tape, h.output, Nat.le_trans h.size (by simp [World.setCell]), fun k hk hn => (Below.heap_setCell _ _ _ _ (by simp only; omega)).trans (h.block k hk hn)⟩
theorem Sav.alloc {S : Nat → Prop} {w w' : World} (h : Sav S w w') (o : Obj) : Sav S w (w'.alloc o) := h.trans (Sav.of_below ((Below.refl _ _).alloc (Nat.le_refl _) o))
theorem Sav.drew {S : Nat → Prop} {w w' : World} (h : Sav S w w') : Sav S w w'.drew := ⟨h.os, h.tape, h.output, h.size, h.block⟩
theorem Sav.drewN {S : Nat → Prop} {w w' : World} (h : Sav S w w') (n : Nat) : Sav S w (w'.drewN n) := ⟨h.os, h.tape, h.output, h.size, h.block⟩
theorem Sav.cell {S : Nat → Prop} {w w' : World} (h : Sav S w w') {a : Addr} (ha : a.block < w.heap.size) (hn : ¬ S a.block) : w'.cell? a = w.cell? a := World.cell?_of_block (w := w) (h.block a.block ha hn)
theorem Sav.at {S : Nat → Prop} {w w' : World} (h : Sav S w w') {b : Nat} {o : Obj} (hb : w.heap[b]? = some o) (hn : ¬ S b) : w'.heap[b]? = some o := (h.block b (lt_of_block hb) hn).trans hb
/-- Two steps, the second one within what is new, or within T. -/
theorem Sav.then {S T : Nat → Prop} {x y z : World} (h : Sav S x y) (k : Sav T y z) (hs : ∀ i, i < x.heap.size → T i → S i) : Sav S x z :=
  ⟨k.os.trans h.os, k.tape.trans h.tape, k.output.trans h.output, Nat.le_trans h.size k.size, fun i hi hn => (k.block i (Nat.lt_of_lt_of_le hi h.size) (fun e => hn (hs i hi e))).trans (h.block i hi hn)⟩

theorem cell_of_cells {w : World} {b j : Nat} {cs : Array Value} {t : TypeId} (h : w.heap[b]? = some (.cells cs t (0, 0))) : w.cell? ⟨b, j, none⟩ = cs[j]? := by simp [World.cell?, h]
theorem free_of_cells {w : World} {b j : Nat} {cs : Array Value} {t : TypeId} (h : w.heap[b]? = some (.cells cs t (0, 0))) : w.frozen? ⟨b, j, none⟩ = false := by simp [World.frozen?, h]
theorem new_block (w : World) (o : Obj) : (w.alloc o).heap[w.heap.size]? = some o := by
  show (w.heap.push o)[w.heap.size]? = _
  simp
end Go.Proofs.Ytpnjjiibcllgiaa
