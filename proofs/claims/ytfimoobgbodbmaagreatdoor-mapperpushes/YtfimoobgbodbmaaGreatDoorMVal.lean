/- Values on the stack: how they lie; rows of other kinds of element lie in other blocks. No function of the program in this text. -/
import Derived.Test.YtfimoobgbodbmaaGreatDoorGRun
import Derived.Test.YtfimoobgbodbmaaGreatDoorGTexts
import Derived.Test.YtfimoobgbodbmaaGreatDoorAppAny
namespace Go.Proofs.YtfimoobgbodbmaaGreatDoor
open Go.RowKit Go.Lib
set_option linter.unusedVariables false
set_option maxRecDepth 100000

/-- A value, as the program holds it. -/
abbrev vV : Val → Value
  | .num n => .agg #[.bool false, .int .i64 n, .string ⟨#[]⟩]
  | .text s => .agg #[.bool true, .int .i64 0, .string s]
def encV : Val → List Value
  | .num n => [.bool false, .int .i64 n, .string ⟨#[]⟩]
  | .text s => [.bool true, .int .i64 0, .string s]
theorem encV_len : ∀ x, (encV x).length = 3 := by intro x; cases x <;> rfl
theorem encV_one : ∀ x, ∀ u ∈ encV x, u.oneCell' = true := by
  intro x u hu
  cases x <;> simp [encV] at hu <;> rcases hu with rfl | rfl | rfl <;> rfl
abbrev Vls (w : World) (v : Value) (l : List Val) : Prop := Reads 3 encV w v l
theorem Tryz.infoV : (Tryz.prog.info? 151).map (fun i => (i.zero, i.size, i.bytes)) = some (some (.agg #[.bool false, .int .i64 0, .string ⟨#[]⟩]), 3, 32) := by kernel_rfl


theorem set_self {cs : Array Value} {i : Nat} {u : Value} (h : i < cs.size) : (cs.setIfInBounds i u)[i]? = some u := by simp [h]
section
variable {w0 : World} {b : Nat} {w : World}
/-- A row of another kind of element lies in another block. -/
theorem owns_off {e s n base : Nat} {v : Value} {xs : List Value} {t : TypeId} {cs : Array Value} {f : Nat × Nat} (h : w.ownsRow base e s v n xs) (hb : w.heap[b]? = some (.cells cs t f)) (ht : t ≠ e) : v.ownBlock ≠ some b := by
  intro hq
  rcases h.2 with ⟨rfl, _⟩ | ⟨g, cap, cur, rfl, _, hg, _⟩
  · cases hq
  · cases hq
    rw [hb] at hg
    cases hg
    exact ht rfl
theorem owns_set {e s n base : Nat} {v : Value} {xs : List Value} {t : TypeId} {cs : Array Value} {f : Nat × Nat} (h : w.ownsRow base e s v n xs) (hb : w.heap[b]? = some (.cells cs t f)) (ht : t ≠ e) (i : Nat) (u : Value) : (w.setCell ⟨b, i, none⟩ u).ownsRow base e s v n xs := by
  have ho := owns_off h hb ht
  refine ⟨h.1, ?_⟩
  rcases h.2 with h2 | ⟨g, cap, cur, rfl, hg, hh, r⟩
  · exact .inl h2
  · exact .inr ⟨g, cap, cur, rfl, hg, by rw [Below.heap_setCell _ _ _ _ (by intro e1; exact ho (by simp only at e1; rw [← e1]; rfl))]; exact hh, r⟩
theorem owns_grown {e s n base base2 e2 s2 n2 : Nat} {v v2 : Value} {xs xs2 : List Value} {w' : World} (h : w.ownsRow base e s v n xs) (h2 : w.ownsRow base2 e2 s2 v2 n2 xs2) (he : e ≠ e2) (hg : w.grownBy w' v2.ownBlock) : w'.ownsRow base e s v n xs := by
  refine ⟨h.1, ?_⟩
  rcases h.2 with h1 | ⟨g, cap, cur, rfl, hb, hh, r⟩
  · exact .inl h1
  · have hne := owns_off h2 hh he
    refine .inr ⟨g, cap, cur, rfl, hb, ?_, r⟩
    rw [hg.block g (Array.getElem?_eq_some_iff.1 hh).1 (Ne.symm hne)]
    exact hh
theorem set_block {cs : Array Value} {t : TypeId} (hc : w.heap[b]? = some (.cells cs t (0, 0))) (i : Nat) (u : Value) : (w.setCell ⟨b, i, none⟩ u).heap[b]? = some (.cells (cs.setIfInBounds i u) t (0, 0)) := by
  simp [World.setCell, hc, Array.getElem?_modify]
theorem below_set {B : Nat} {w1 : World} (h : Below B w0 w1) (hb : B ≤ b) (i : Nat) (u : Value) : Below B w0 (w1.setCell ⟨b, i, none⟩ u) :=
  ⟨h.os, h.tape, h.output, Nat.le_trans h.size (by simp [World.setCell]), fun k hk => (Below.heap_setCell _ _ _ _ (by simp only; omega)).trans (h.block k hk)⟩
end

theorem wrapI (n : Int) : IntKind.i64.wrap n = wrap64 n := by rw [IntKind.wrap_i64]; unfold wrap64; omega
/-- Where arguments lie: one behind the other. -/
theorem Vls.lie {w : World} {v : Value} {a : List Val} (h : Vls w v a) (hn : a ≠ []) : ∃ g off cap, v = .slice (some ⟨g, off, none⟩) a.length cap ∧ a.length ≤ cap ∧ g < w.heap.size ∧ ∀ j x, a[j]? = some x → ∀ k u, (encV x)[k]? = some u → w.cell? ⟨g, off + j * 3 + k, none⟩ = some u := by
  obtain ⟨ao, cap, rfl, h1, h2, h3, h4⟩ := h
  obtain ⟨g, off, rfl, hlt, hc⟩ := h4 hn
  exact ⟨g, off, cap, rfl, h1, hlt, hc⟩
/-- A value's three cells. -/
theorem Val.three (a : Val) : ∃ t n s, encV a = [.bool t, .int .i64 n, .string s] := by
  cases a with
  | num n => exact ⟨_, _, _, rfl⟩
  | text s => exact ⟨_, _, _, rfl⟩
/-- A fact that stays while nothing old turns, beside how far the world has come. -/
structure Hold (w : World) (Q : World → Prop) (w' : World) : Prop where
  below : Below w.heap.size w w'
  stays : ∀ w1 w2, Below w1.heap.size w1 w2 → Q w1 → Q w2
  out : Q w'
theorem Hold.on {w w1 w2 : World} {Q : World → Prop} (h : Hold w Q w1) (hb : Below w1.heap.size w1 w2) : Hold w Q w2 :=
  ⟨below_then h.below hb h.below.size, h.stays, h.stays _ _ hb h.out⟩
/-- A cell of a block that is there. -/
theorem stays_cell {g i : Nat} {u : Value} {w1 w2 : World} (hb : Below w1.heap.size w1 w2) (hg : g < w1.heap.size) (h : w1.cell? ⟨g, i, none⟩ = some u) : w2.cell? ⟨g, i, none⟩ = some u := (hb.cell (p := ⟨g, i, none⟩) hg).trans h
theorem drew1 (w : World) : Below w.heap.size w w.drew := ⟨rfl, rfl, rfl, Nat.le_refl _, fun _ _ => rfl⟩
theorem alloc1 (w : World) (o : Obj) : Below w.heap.size w (w.alloc o) := (Below.refl _ w).alloc (Nat.le_refl _) o

end Go.Proofs.YtfimoobgbodbmaaGreatDoor
