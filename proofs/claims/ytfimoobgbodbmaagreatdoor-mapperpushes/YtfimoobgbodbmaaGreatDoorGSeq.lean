/- Laid together: Sav Seq. -/
import Derived.WalkKit
import Derived.Below
import Derived.OneCell
import Derived.Deep.QuietTactic
import Derived.BigQuiet
import Derived.OwnWalk
import Derived.Laws.AppendOwn
import Derived.Laws.AppendOwnNone
import Derived.Laws.MakeOwn
/-! Worlds in which only blocks of a set S are turned: nothing of the program is in it. -/
namespace Go.Proofs.YtfimoobgbodbmaaGreatDoor
open Go.RowKit

theorem hid {p : Prop} (h : p) : Hid p := h

/-- Of what was there nothing has turned but blocks of S. -/
structure Sav (S : Nat → Prop) (w w' : World) : Prop where
  os : w'.os = w.os
  tape : w'.tape = w.tape
  output : w'.output = w.output
  size : w.heap.size ≤ w'.heap.size
  block : ∀ k, k < w.heap.size → ¬ S k → w'.heap[k]? = w.heap[k]?

/-- Nothing has turned. -/
def Non (_ : Nat) : Prop := False
/-- Block b alone. -/
def Just (b k : Nat) : Prop := k = b
theorem just (b : Nat) : Just b b := rfl
/-- S, and block b. -/
def Also (S : Nat → Prop) (b k : Nat) : Prop := S k ∨ k = b

theorem Sav.refl (S : Nat → Prop) (w : World) : Sav S w w := ⟨rfl, rfl, rfl, Nat.le_refl _, fun _ _ _ => rfl⟩
theorem Sav.trans {S : Nat → Prop} {x y z : World} (h : Sav S x y) (k : Sav S y z) : Sav S x z :=
  ⟨k.os.trans h.os, k.tape.trans h.tape, k.output.trans h.output, Nat.le_trans h.size k.size, fun i hi hn => (k.block i (Nat.lt_of_lt_of_le hi h.size) hn).trans (h.block i hi hn)⟩
theorem Sav.mono {S T : Nat → Prop} {w w' : World} (h : Sav S w w') (hs : ∀ k, k < w.heap.size → S k → T k) : Sav T w w' :=
  ⟨h.os, h.tape, h.output, h.size, fun k hk hn => h.block k hk (fun hS => hn (hs k hk hS))⟩
theorem Sav.of_below {S : Nat → Prop} {w w' : World} (h : Below w.heap.size w w') : Sav S w w' := ⟨h.os, h.tape, h.output, h.size, fun k hk _ => h.block k hk⟩
theorem Sav.below {S : Nat → Prop} {B : Nat} {w w' : World} (h : Sav S w w') (h1 : ∀ k, S k → B ≤ k) (h2 : B ≤ w.heap.size) : Below B w w' :=
  ⟨h.os, h.tape, h.output, h.size, fun k hk => h.block k (by omega) (fun hS => by have := h1 k hS; omega)⟩
theorem Sav.setCell {S : Nat → Prop} {w w' : World} (h : Sav S w w') {b : Nat} (hb : S b) (j : Nat) (v : Value) : Sav S w (w'.setCell ⟨b, j, none⟩ v) :=
  h.trans ⟨rfl, rfl, rfl, by simp [World.setCell], fun k _ hn => Below.heap_setCell _ _ _ _ (fun e => hn (by simp only at e; rw [e]; exact hb))⟩
theorem Sav.setNew {S : Nat → Prop} {w w' : World} (h : Sav S w w') {b : Nat} (hb : w.heap.size ≤ b) (j : Nat) (v : Value) : Sav S w (w'.setCell ⟨b, j, none⟩ v) :=
  ⟨h.os, h.tape, h.output, Nat.le_trans h.size (by simp [World.setCell]), fun k hk hn => (Below.heap_setCell _ _ _ _ (by simp only; omega)).trans (h.block k hk hn)⟩
theorem Sav.alloc {S : Nat → Prop} {w w' : World} (h : Sav S w w') (o : Obj) : Sav S w (w'.alloc o) := h.trans (Sav.of_below ((Below.refl _ _).alloc (Nat.le_refl _) o))
theorem Sav.drew {S : Nat → Prop} {w w' : World} (h : Sav S w w') : Sav S w w'.drew := ⟨h.os, h.tape, h.output, h.size, h.block⟩
theorem Sav.drewN {S : Nat → Prop} {w w' : World} (h : Sav S w w') (n : Nat) : Sav S w (w'.drewN n) := ⟨h.os, h.tape, h.output, h.size, h.block⟩
theorem Sav.cell {S : Nat → Prop} {w w' : World} (h : Sav S w w') {a : Addr} (ha : a.block < w.heap.size) (hn : ¬ S a.block) : w'.cell? a = w.cell? a := World.cell?_of_block (w := w) (h.block a.block ha hn)
theorem Sav.at {S : Nat → Prop} {w w' : World} (h : Sav S w w') {b : Nat} {o : Obj} (hb : w.heap[b]? = some o) (hn : ¬ S b) : w'.heap[b]? = some o := (h.block b (lt_of_block hb) hn).trans hb
/-- Two steps, the second one within what is new, or within T. -/
theorem Sav.then {S T : Nat → Prop} {x y z : World} (h : Sav S x y) (k : Sav T y z) (hs : ∀ i, i < x.heap.size → T i → S i) : Sav S x z :=
  ⟨k.os.trans h.os, k.tape.trans h.tape, k.output.trans h.output, Nat.le_trans h.size k.size, fun i hi hn => (k.block i (Nat.lt_of_lt_of_le hi h.size) (fun e => hn (hs i hi e))).trans (h.block i hi hn)⟩

theorem cell_of_cells {w : World} {b j : Nat} {cs : Array Value} {t : TypeId} (h : w.heap[b]? = some (.cells cs t (0, 0))) : w.cell? ⟨b, j, none⟩ = cs[j]? := by simp [World.cell?, h]
theorem free_of_cells {w : World} {b j : Nat} {cs : Array Value} {t : TypeId} (h : w.heap[b]? = some (.cells cs t (0, 0))) : w.frozen? ⟨b, j, none⟩ = false := by simp [World.frozen?, h]
theorem new_block (w : World) (o : Obj) : (w.alloc o).heap[w.heap.size]? = some o := by
  show (w.heap.push o)[w.heap.size]? = _
  simp
end Go.Proofs.YtfimoobgbodbmaaGreatDoor
/-! Slices of elements of n cells each, whatever they are: how they read, and what the call owns. No program in this text. -/
namespace Go.Proofs.YtfimoobgbodbmaaGreatDoor
open Go.RowKit
set_option linter.unusedVariables false
set_option maxRecDepth 100000

/-- Elements as cells. -/
def fl {α : Type} (enc : α → List Value) (l : List α) : List Value := l.flatMap enc
/-- v is a slice that reads as l in the world w; an element has n cells. -/
def Reads {α : Type} (n : Nat) (enc : α → List Value) (w : World) (v : Value) (l : List α) : Prop :=
  ∃ ao cap, v = .slice ao l.length cap ∧ l.length ≤ cap ∧ cap ≤ maxLen ∧ (ao = none → l = [] ∧ cap = 0) ∧
    (l ≠ [] → ∃ b off, ao = some ⟨b, off, none⟩ ∧ b < w.heap.size ∧ ∀ j x, l[j]? = some x → ∀ k u, (enc x)[k]? = some u → w.cell? ⟨b, off + j * n + k, none⟩ = some u)

section
variable {α : Type} {n : Nat} {enc : α → List Value}
theorem fl_append (a b : List α) : fl enc (a ++ b) = fl enc a ++ fl enc b := by simp [fl]
theorem fl_length (he : ∀ x, (enc x).length = n) (l : List α) : (fl enc l).length = l.length * n := by
  induction l with
  | nil => simp [fl]
  | cons x l ih =>
    have : fl enc (x :: l) = enc x ++ fl enc l := rfl
    rw [this, List.length_append, he, ih, List.length_cons, Nat.add_mul]
    omega
theorem fl_at (he : ∀ x, (enc x).length = n) : ∀ (l : List α) (j k : Nat) (x : α) (u : Value), l[j]? = some x → (enc x)[k]? = some u → (fl enc l)[j * n + k]? = some u
  | [], j, k, x, u, h, _ => by simp at h
  | y :: l, 0, k, x, u, h, hu => by
    have e : fl enc (y :: l) = enc y ++ fl enc l := rfl
    have : y = x := by simpa using h
    subst this
    rw [e, Nat.zero_mul, Nat.zero_add, List.getElem?_append_left (List.getElem?_eq_some_iff.1 hu).1]
    exact hu
  | y :: l, j + 1, k, x, u, h, hu => by
    have e : fl enc (y :: l) = enc y ++ fl enc l := rfl
    rw [e, List.getElem?_append_right (by rw [he, Nat.add_mul]; omega), he, show (j + 1) * n + k - n = j * n + k by rw [Nat.add_mul]; omega]
    exact fl_at he l j k x u (by simpa using h) hu
/-- Every cell is an element's. -/
theorem fl_of (he : ∀ x, (enc x).length = n) (hn : 0 < n) {l : List α} {i : Nat} {u : Value} (h : (fl enc l)[i]? = some u) : ∃ x, l[i / n]? = some x ∧ (enc x)[i % n]? = some u := by
  have hi := (List.getElem?_eq_some_iff.1 h).1
  rw [fl_length he] at hi
  have hq : i / n < l.length := by rw [Nat.div_lt_iff_lt_mul hn]; exact hi
  have hr : i % n < (enc l[i / n]).length := by rw [he]; exact Nat.mod_lt _ hn
  refine ⟨l[i / n], List.getElem?_eq_getElem hq, ?_⟩
  have := fl_at he l (i / n) (i % n) _ _ (List.getElem?_eq_getElem hq) (List.getElem?_eq_getElem hr)
  rw [show i / n * n + i % n = i by rw [Nat.mul_comm]; exact Nat.div_add_mod i n] at this
  rw [List.getElem?_eq_getElem hr, ← this, h]
theorem fl_one (h1 : ∀ x, ∀ u ∈ enc x, u.oneCell' = true) (l : List α) : ∀ u ∈ fl enc l, u.oneCell' = true := by
  intro u hu
  obtain ⟨x, _, hx⟩ := List.mem_flatMap.1 hu
  exact h1 x u hx

theorem Reads.nil (w : World) : Reads n enc w (.slice none 0 0) [] := ⟨none, 0, rfl, Nat.le_refl _, by unfold maxLen; omega, fun _ => ⟨rfl, rfl⟩, fun h => absurd rfl h⟩
theorem Reads.below {w w' : World} {v : Value} {l : List α} (h : Reads n enc w v l) (hb : Below w.heap.size w w') : Reads n enc w' v l := by
  obtain ⟨ao, cap, rfl, h1, h2, h3, h4⟩ := h
  refine ⟨ao, cap, rfl, h1, h2, h3, fun hl => ?_⟩
  obtain ⟨b, off, rfl, hlt, hc⟩ := h4 hl
  exact ⟨b, off, rfl, Nat.lt_of_lt_of_le hlt hb.size, fun j x hj k u hu => (hb.cell (p := ⟨b, off + j * n + k, none⟩) hlt).trans (hc j x hj k u hu)⟩
/-- An element's cells. -/
theorem Reads.cells {w : World} {ao : Option Addr} {m cap : Nat} {l : List α} (h : Reads n enc w (.slice ao m cap) l) {j : Nat} (hj : j < l.length) :
    ∃ b off, ao = some ⟨b, off, none⟩ ∧ b < w.heap.size ∧ ∀ k u, (enc l[j])[k]? = some u → w.cell? ⟨b, off + j * n + k, none⟩ = some u := by
  obtain ⟨ao', cap', hv, h1, h2, h3, h4⟩ := h
  cases hv
  obtain ⟨b, off, e, hlt, hc⟩ := h4 (by intro e; rw [e] at hj; simp at hj)
  exact ⟨b, off, e, hlt, fun k u hu => hc j _ (List.getElem?_eq_getElem hj) k u hu⟩
/-- What the call owns reads as it must. -/
theorem Reads.own (he : ∀ x, (enc x).length = n) (hp : 0 < n) {w : World} {base e m : Nat} {v : Value} {l : List α} (h : w.ownsRow base e n v m (fl enc l)) : Reads n enc w v l := by
  have hm : l.length = m := by
    have := h.1
    rw [fl_length he] at this
    exact Nat.eq_of_mul_eq_mul_right hp this
  subst hm
  rcases h.2 with ⟨h', h0⟩ | ⟨g, cap, cur, h', hb, hg, hnc, hm, hs, ht⟩
  · subst h'
    obtain rfl := List.eq_nil_of_length_eq_zero h0
    exact Reads.nil w
  · subst h'
    refine ⟨some ⟨g, 0, none⟩, cap, rfl, hnc, hm, fun e => (by cases e), fun _ => ⟨g, 0, rfl, (Array.getElem?_eq_some_iff.1 hg).1, fun j x hj k u hu => ?_⟩⟩
    have hf := fl_at he l j k x u hj hu
    have hlt := (List.getElem?_eq_some_iff.1 hf).1
    rw [fl_length he] at hlt
    rw [Nat.zero_add, h.cellAt _ hlt]
    exact hf
/-- Cut to its first elements. -/
theorem Reads.cut {w : World} {ao : Option Addr} {m cap : Nat} {l r : List α} (h : Reads n enc w (.slice ao m cap) (l ++ r)) : Reads n enc w (.slice ao l.length cap) l := by
  obtain ⟨ao', cap', hv, h1, h2, h3, h4⟩ := h
  cases hv
  rw [List.length_append] at h1
  refine ⟨_, cap, rfl, by omega, h2, fun e => ⟨(List.append_eq_nil_iff.1 (h3 e).1).1, (h3 e).2⟩, fun hl => ?_⟩
  obtain ⟨b, off, e, hlt, hc⟩ := h4 (by intro e; exact hl (List.append_eq_nil_iff.1 e).1)
  refine ⟨b, off, e, hlt, fun j x hj k u hu => hc j x ?_ k u hu⟩
  rw [List.getElem?_append_left (List.getElem?_eq_some_iff.1 hj).1]
  exact hj
/-- Cell by cell, as append asks for them. -/
theorem Reads.news (he : ∀ x, (enc x).length = n) (hp : 0 < n) {w w' : World} {ao : Option Addr} {m cap : Nat} {l : List α} (h : Reads n enc w (.slice ao m cap) l) (hb : Below w.heap.size w w') : ∀ ad, ao = some ad → ∀ j u, (fl enc l)[j]? = some u → w'.cell? (ad.add j) = some u := by
  intro ad had j u hu
  obtain ⟨x, hx, hk⟩ := fl_of he hp hu
  obtain ⟨ao', cap', hv, h1, h2, h3, h4⟩ := h.below hb
  cases hv
  obtain ⟨b, off, e, hlt, hc⟩ := h4 (by intro e; rw [e] at hx; simp at hx)
  rw [had] at e
  cases e
  have hadd : (⟨b, off, none⟩ : Addr).add j = ⟨b, off + j, none⟩ := by unfold Addr.add; split <;> simp_all
  rw [hadd, show off + j = off + j / n * n + j % n by have := Nat.div_add_mod j n; rw [Nat.mul_comm] at this; omega]
  exact hc _ x hx _ u hk
theorem Reads.made (he : ∀ x, (enc x).length = n) (hp : 0 < n) (t : TypeId) (l : List α) (w : World) (hl : l.length ≤ 1000) : Reads n enc (w.alloc (.cells (fl enc l).toArray t)) (.slice (some ⟨w.heap.size, 0, none⟩) l.length l.length) l :=
  Reads.own he hp (base := w.heap.size) (e := t) (m := l.length)
    ⟨fl_length he l, .inr ⟨w.heap.size, l.length, (fl enc l).toArray, rfl, Nat.le_refl _, new_block _ _, Nat.le_refl _, by unfold maxLen; omega, by rw [List.size_toArray, fl_length he], by rw [List.toList_toArray]; exact List.take_of_length_le (by rw [fl_length he]; omega)⟩⟩
end

/-! ### What is owned -/
theorem below_then {B : Nat} {w w1 w2 : World} (h : Below B w w1) (k : Below w1.heap.size w1 w2) (hB : B ≤ w1.heap.size) : Below B w w2 :=
  ⟨k.os.trans h.os, k.tape.trans h.tape, k.output.trans h.output, Nat.le_trans h.size k.size, fun i hi => (k.block i (by omega)).trans (h.block i hi)⟩
theorem below_drew (w : World) (n : Nat) : Below w.heap.size w (w.drewN n) := ⟨rfl, rfl, rfl, Nat.le_refl _, fun _ _ => rfl⟩
theorem owns_below {w w' : World} {base e s n : Nat} {v : Value} {xs : List Value} (h : w.ownsRow base e s v n xs) (hb : Below w.heap.size w w') : w'.ownsRow base e s v n xs := by
  obtain ⟨h1, h2⟩ := h
  refine ⟨h1, ?_⟩
  rcases h2 with h2 | ⟨g, cap, cur, hv, hg, hh, r⟩
  · exact Or.inl h2
  · exact Or.inr ⟨g, cap, cur, hv, hg, by rw [hb.block g (Array.getElem?_eq_some_iff.1 hh).1]; exact hh, r⟩
theorem owns_base {w : World} {base e s n : Nat} {v : Value} {xs : List Value} (h : w.ownsRow base e s v n xs) {q : Nat} (hq : v.ownBlock = some q) : base ≤ q := by
  rcases h.2 with ⟨rfl, _⟩ | ⟨g, cap, cur, rfl, hb, _⟩
  · cases hq
  · cases hq
    exact hb
theorem owns_full {w : World} {base e s g n cap : Nat} {xs : List Value} (h : w.ownsRow base e s (.slice (some ⟨g, 0, none⟩) n cap) n xs) :
    ∃ ys, w.ownsRow base e s (.slice (some ⟨g, 0, none⟩) cap cap) cap ys ∧ ys.take (n * s) = xs := by
  rcases h.2 with ⟨h', _⟩ | ⟨g', cap', cur, h', hb, hg, hnc, hcm, hcs, htake⟩
  · cases h'
  · simp only [Value.slice.injEq, Option.some.injEq, Addr.mk.injEq, and_true, true_and] at h'
    obtain ⟨rfl, rfl⟩ := h'
    exact ⟨cur.toList, ⟨by simp [hcs], .inr ⟨g, cap, cur, rfl, hb, hg, Nat.le_refl _, hcm, hcs, List.take_of_length_le (by simp [hcs])⟩⟩, htake⟩
theorem owns_cell {w : World} {base e s g n cap : Nat} {xs : List Value} (h : w.ownsRow base e s (.slice (some ⟨g, 0, none⟩) n cap) n xs) {j : Nat} (hj : j < n * s) : ∃ x, w.cell? ⟨g, j, none⟩ = some x := by
  have hl : xs.length = n * s := h.1
  exact ⟨xs[j]'(by omega), by rw [h.cellAt j hj, List.getElem?_eq_getElem (by omega)]⟩
theorem set_snoc {l : List Value} {k : Nat} {u : Value} (h : k < l.length) : (l.set k u).take (k + 1) = l.take k ++ [u] := by
  rw [List.take_succ_eq_append_getElem (by simpa using h), List.take_set, List.set_eq_of_length_le (by rw [List.length_take]; omega)]
  simp
theorem set_snoc2 {l : List Value} {p : Nat} {a b : Value} (h : p + 1 < l.length) : ((l.set p a).set (p + 1) b).take (p + 2) = l.take p ++ [a, b] := by
  rw [set_snoc (by simpa using h), set_snoc (by omega)]
  simp
theorem set_snoc3 {l : List Value} {p : Nat} {a b c : Value} (h : p + 2 < l.length) : (((l.set p a).set (p + 1) b).set (p + 2) c).take (p + 3) = l.take p ++ [a, b, c] := by
  rw [set_snoc (by simpa using h), set_snoc2 (by omega)]
  simp
end Go.Proofs.YtfimoobgbodbmaaGreatDoor
