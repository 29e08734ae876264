/- Letters taken from a place and doubled, over lists. No program in this text. -/
import Derived.Test.YtocedfagfmkgdaaNetMath
namespace Go.Proofs.Ytocedfagfmkgdaa
set_option linter.unusedVariables false

section
variable {α : Type}
/-- What is taken. -/
def tookN (d : α) (l : List α) (i : Int) : α := if placeN l i = true then l.getD i.toNat d else d
/-- What is left. -/
def leftN (l : List α) (i : Int) : List α := if placeN l i = true then outN l i.toNat else l
/-- There is such a place, and room. -/
def okD (l : List α) (i : Int) : Bool := placeN l i && decide (l.length < 128)
/-- With the one at a place twice. -/
def dblN (l : List α) (i : Int) : List α := if okD l i = true then l ++ (l[i.toNat]?).toList else l
theorem tookN_yes {d : α} {l : List α} {k : Nat} {x : α} (h : l[k]? = some x) : placeN l (k : Int) = true ∧ tookN d l (k : Int) = x ∧ leftN l (k : Int) = outN l k := by
  have hk := (List.getElem?_eq_some_iff.1 h).1
  have hp : placeN l (k : Int) = true := by unfold placeN; simp; omega
  refine ⟨hp, ?_, ?_⟩
  · unfold tookN
    rw [if_pos hp, Int.toNat_natCast, List.getD_eq_getElem?_getD, h]
    rfl
  · unfold leftN
    rw [if_pos hp, Int.toNat_natCast]
theorem tookN_no {d : α} {l : List α} {i : Int} (h : placeN l i = false) : tookN d l i = d ∧ leftN l i = l := by
  unfold tookN leftN
  rw [h]
  exact ⟨rfl, rfl⟩
theorem dblN_yes {l : List α} {k : Nat} {x : α} (h : l[k]? = some x) (hr : l.length < 128) : okD l (k : Int) = true ∧ dblN l (k : Int) = l ++ [x] := by
  have hk := (List.getElem?_eq_some_iff.1 h).1
  have hp : okD l (k : Int) = true := by unfold okD placeN; simp; omega
  refine ⟨hp, ?_⟩
  unfold dblN
  rw [if_pos hp, Int.toNat_natCast, h]
  rfl
theorem dblN_full {l : List α} {i : Int} (hr : 128 ≤ l.length) : okD l i = false ∧ dblN l i = l := by
  have hp : okD l i = false := by unfold okD; simp; omega
  refine ⟨hp, ?_⟩
  unfold dblN
  rw [hp]
  rfl
theorem dblN_none {l : List α} {i : Int} (h : placeN l i = false) : okD l i = false ∧ dblN l i = l := by
  have hp : okD l i = false := by unfold okD; rw [h]; rfl
  refine ⟨hp, ?_⟩
  unfold dblN
  rw [hp]
  rfl
end
section
variable {α β : Type}
theorem map_outN (f : α → β) (l : List α) (k : Nat) : (outN l k).map f = outN (l.map f) k := by simp [outN]
end
end Go.Proofs.Ytocedfagfmkgdaa
