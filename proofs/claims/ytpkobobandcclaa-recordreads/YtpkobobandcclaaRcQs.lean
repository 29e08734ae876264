/- The state of the document's own reading of a record. -/
import Derived.Test.YtpkobobandcclaaRcRows
import Derived.Test.YtpkobobandcclaaRcRefLays
import Derived.Test.YtpkobobandcclaaRefRead
namespace Go.Proofs.Ytpkobobandcclaa
open Go.RowKit
set_option linter.unusedVariables false

/-- The array's first cells. -/
structure Arr (F : Nat) (xs : List Int) (w : World) : Prop where
  blk : ∃ A : Array Value, w.heap[F]? = some (.cells A 58 (0, 0)) ∧ A.size = 6 ∧ A.toList.take xs.length = ict xs
theorem Arr.on {F : Nat} {xs : List Int} {w w' : World} (h : Arr F xs w) (hb : Below w.heap.size w w') : Arr F xs w' := by
  obtain ⟨A, h1, h2, h3⟩ := h.blk
  exact ⟨A, (hb.block _ (lt_of_block h1)).trans h1, h2, h3⟩
theorem Arr.at {F : Nat} {xs : List Int} {w : World} (h : Arr F xs w) {j : Nat} {x : Int} (hx : xs[j]? = some x) : w.cell? ⟨F, j, none⟩ = some (.int .i64 x) := by
  obtain ⟨A, h1, h2, h3⟩ := h.blk
  rw [cell_of_cells h1, ← Array.getElem?_toList]
  have hj := (List.getElem?_eq_some_iff.1 hx).1
  have : (A.toList.take xs.length)[j]? = some (.int .i64 x) := by rw [h3]; simp [ict, hx]
  rwa [List.getElem?_take_of_lt hj] at this
theorem Arr.push {F : Nat} {xs : List Int} {w : World} (h : Arr F xs w) (x : Int) (hl : xs.length < 6) : Arr F (xs ++ [x]) (w.setCell ⟨F, xs.length, none⟩ (.int .i64 x)) := by
  obtain ⟨A, h1, h2, h3⟩ := h.blk
  refine ⟨_, set_same h1, by simpa using h2, ?_⟩
  have hA : xs.length < A.toList.length := by simp; omega
  rw [List.length_append, List.length_singleton, Array.toList_setIfInBounds, set_snoc hA, h3, ict_append]
  rfl
theorem Arr.free {F : Nat} {xs : List Int} {w : World} (h : Arr F xs w) (j : Nat) : w.frozen? ⟨F, j, none⟩ = false := by
  obtain ⟨A, h1, h2, h3⟩ := h.blk
  exact free_of_cells h1
theorem Arr.some {F : Nat} {xs : List Int} {w : World} (h : Arr F xs w) {j : Nat} (hj : j < 6) : ∃ v, w.cell? ⟨F, j, none⟩ = some v := by
  obtain ⟨A, h1, h2, h3⟩ := h.blk
  exact ⟨A[j], by rw [cell_of_cells h1, Array.getElem?_eq_getElem]⟩
theorem Arr.start (w : World) (A : Array Value) (h : A.size = 6) : Arr w.heap.size [] (w.alloc (.cells A 58)) := ⟨A, new_block _ _, h, by simp [ict]⟩
theorem Arr.lt {F : Nat} {xs : List Int} {w : World} (h : Arr F xs w) : F < w.heap.size := by
  obtain ⟨A, h1, _⟩ := h.blk
  exact lt_of_block h1
/-- Another block is written. -/
theorem Arr.off {F : Nat} {xs : List Int} {w w' : World} {S : Nat → Prop} (h : Arr F xs w) (hs : Sav S w w') (hn : ¬ S F) : Arr F xs w' := by
  obtain ⟨A, h1, h2, h3⟩ := h.blk
  exact ⟨A, hs.at h1 hn, h2, h3⟩

/-- A number that is lacking refutes; what was read is known. -/
theorem rd_got {c : List Int} {p a : Nat} {xs : List Int} {x y : Int} (hB : Byt c) (h : Got c p xs a) (hr : rdNum c a = (x, y, true)) : y = ((a + 8 : Nat) : Int) ∧ Got c p (xs ++ [x]) (a + 8) := h.step hB hr
theorem rd_lost {c : List Int} {p a : Nat} {xs : List Int} {x y : Int} (h : Got c p xs a) (hr : rdNum c a = (x, y, false)) (hl : ∀ r, Body c p r → xs.length < (numsR r).length) : ∀ r, ¬ Body c p r := fun r hb => h.fail (by rw [hr]) hb (hl r hb)

structure QS (W : World) (F R : Nat) (nums : List Int) (f0 f1 f2 f3 f4 : Int) (sv pv : Value) (ys : List Int) (ps : List KV) (w : World) : Prop where
  arr : Arr F nums w
  rcd : w.heap[R]? = some (.cells #[.int .i64 f0, .int .i64 f1, .int .i64 f2, .int .i64 f3, .int .i64 f4, sv, pv] 33 (0, 0))
  set : w.ownsRow W.heap.size 3 1 sv ys.length (ict ys)
  prs : w.ownsRow W.heap.size 57 2 pv ps.length (fl encP ps)
  res : w.heap[W.heap.size]? = some (.cells #[.int .i64 0, .int .i64 0, .int .i64 0, .int .i64 0, .int .i64 0, .slice none 0 0, .slice none 0 0] 33 (0, 0))
  bel : Below W.heap.size W w
  rlo : W.heap.size < R
section
variable {W : World} {F R : Nat} {nums : List Int} {f0 f1 f2 f3 f4 : Int} {sv pv : Value} {ys : List Int} {ps : List KV} {w : World}
theorem QS.low (h : QS W F R nums f0 f1 f2 f3 f4 sv pv ys ps w) : W.heap.size ≤ w.heap.size := h.bel.size
theorem QS.on (h : QS W F R nums f0 f1 f2 f3 f4 sv pv ys ps w) {w' : World} (hb : Below w.heap.size w w') : QS W F R nums f0 f1 f2 f3 f4 sv pv ys ps w' :=
  ⟨h.arr.on hb, (hb.block _ (lt_of_block h.rcd)).trans h.rcd, owns_below h.set hb, owns_below h.prs hb, (hb.block _ (lt_of_block h.res)).trans h.res, below_then h.bel hb h.low, h.rlo⟩
theorem QS.pushSet (h : QS W F R nums f0 f1 f2 f3 f4 sv pv ys ps w) {w' : World} {v : Value} {x : Int} (ho : w'.ownsRow W.heap.size 3 1 v (ys.length + 1) (ict ys ++ [.int .i64 x])) (hg : w.grownBy w' sv.ownBlock) : QS W F R nums f0 f1 f2 f3 f4 v pv (ys ++ [x]) ps (w'.setCell ⟨R, 5, none⟩ v) := by
  have hr := h.rlo
  have hrc : w'.heap[R]? = _ := grown_at h.set hg h.rcd (by decide)
  have hrs : w'.heap[W.heap.size]? = _ := grown_at h.set hg h.res (by decide)
  have s2 : Sav (Just R) w' (w'.setCell ⟨R, 5, none⟩ v) := (Sav.refl _ w').setCell (just R) 5 v
  have hb2 : Below W.heap.size W w' := h.bel.grown hg h.low (fun k hk => (h.set.lt k hk).1)
  obtain ⟨A, a1, a2, a3⟩ := h.arr.blk
  have a1' : w'.heap[F]? = some (.cells A 58 (0, 0)) := grown_at h.set hg a1 (by decide)
  refine ⟨⟨A, s2.at a1' (fun e => ?_), a2, a3⟩, by rw [set_same hrc]; rfl, ?_, ?_, s2.at hrs (fun e => by unfold Just at e; omega), hb2.trans (s2.below (fun k hk => by unfold Just at hk; omega) hb2.size), hr⟩
  · unfold Just at e
    rw [e, hrc] at a1'
    cases a1'
  · have : w'.ownsRow W.heap.size 3 1 v (ys ++ [x]).length (ict (ys ++ [x])) := by rw [List.length_append, ict_append]; exact ho
    exact owns_sav this s2 (fun q hq e => owns_ne this hrc (by decide) (by rw [hq, e]))
  · have : w'.ownsRow W.heap.size 57 2 pv ps.length (fl encP ps) := owns_grown h.prs h.set (by decide) hg
    exact owns_sav this s2 (fun q hq e => owns_ne this hrc (by decide) (by rw [hq, e]))
theorem QS.pushPair (h : QS W F R nums f0 f1 f2 f3 f4 sv pv ys ps w) {w' : World} {v : Value} {x : KV} (ho : w'.ownsRow W.heap.size 57 2 v (ps.length + 1) (fl encP ps ++ [.string x.1, .string x.2])) (hg : w.grownBy w' pv.ownBlock) : QS W F R nums f0 f1 f2 f3 f4 sv v ys (ps ++ [x]) (w'.setCell ⟨R, 6, none⟩ v) := by
  have hr := h.rlo
  have hrc : w'.heap[R]? = _ := grown_at h.prs hg h.rcd (by decide)
  have hrs : w'.heap[W.heap.size]? = _ := grown_at h.prs hg h.res (by decide)
  have s2 : Sav (Just R) w' (w'.setCell ⟨R, 6, none⟩ v) := (Sav.refl _ w').setCell (just R) 6 v
  have hb2 : Below W.heap.size W w' := h.bel.grown hg h.low (fun k hk => (h.prs.lt k hk).1)
  obtain ⟨A, a1, a2, a3⟩ := h.arr.blk
  have a1' : w'.heap[F]? = some (.cells A 58 (0, 0)) := grown_at h.prs hg a1 (by decide)
  refine ⟨⟨A, s2.at a1' (fun e => ?_), a2, a3⟩, by rw [set_same hrc]; rfl, ?_, ?_, s2.at hrs (fun e => by unfold Just at e; omega), hb2.trans (s2.below (fun k hk => by unfold Just at hk; omega) hb2.size), hr⟩
  · unfold Just at e
    rw [e, hrc] at a1'
    cases a1'
  · have : w'.ownsRow W.heap.size 3 1 sv ys.length (ict ys) := owns_grown h.set h.prs (by decide) hg
    exact owns_sav this s2 (fun q hq e => owns_ne this hrc (by decide) (by rw [hq, e]))
  · have : w'.ownsRow W.heap.size 57 2 v (ps ++ [x]).length (fl encP (ps ++ [x])) := by rw [List.length_append, fl_append]; exact ho
    exact owns_sav this s2 (fun q hq e => owns_ne this hrc (by decide) (by rw [hq, e]))
end
end Go.Proofs.Ytpkobobandcclaa
