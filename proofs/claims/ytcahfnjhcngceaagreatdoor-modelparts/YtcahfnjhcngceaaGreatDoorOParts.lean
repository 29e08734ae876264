/- What a whole says of its splits and parts. -/
import Derived.Test.YtcahfnjhcngceaaGreatDoorOJobAt
namespace Go.Proofs.YtcahfnjhcngceaaGreatDoor
open Go.RowKit Go.Lib
set_option linter.unusedVariables false
set_option maxRecDepth 100000

theorem firstRes_zero {xs : List (List KV × Int)} (h : (firstRes xs).1 = 0) : ∀ x ∈ xs, x.2 = 0 := by
  cases e : firstOf xs with
  | none => exact firstOf_none.1 e
  | some q =>
    rw [firstRes_some e] at h
    exact absurd h (firstOf_not _ _ e)
theorem whole_told {j : JobV} (hp : 1 ≤ j.parts) (h : ¬ (wholeD j).2.1 = 0) : (wholeD j).1 = [] := by
  rw [wholeD_eq hp] at h ⊢
  unfold wholeR at h ⊢
  by_cases h1 : (firstRes (splitsD j)).1 = 0
  · rw [if_pos h1] at h ⊢
    by_cases h2 : (firstRes (partsD j)).1 = 0
    · rw [if_pos h2] at h
      exact absurd rfl h
    · rw [if_neg h2]
  · rw [if_neg h1]
theorem whole_fine {j : JobV} (hp : 1 ≤ j.parts) (h : (wholeD j).2.1 = 0) : (∀ x ∈ splitsD j, x.2 = 0) ∧ (∀ y ∈ partsD j, y.2 = 0) ∧ (wholeD j).1 = (partsD j).map fun x => x.1 := by
  rw [wholeD_eq hp] at h ⊢
  unfold wholeR at h ⊢
  by_cases h1 : (firstRes (splitsD j)).1 = 0
  · rw [if_pos h1] at h ⊢
    by_cases h2 : (firstRes (partsD j)).1 = 0
    · rw [if_pos h2]
      exact ⟨firstRes_zero h1, firstRes_zero h2, rfl⟩
    · rw [if_neg h2] at h
      exact absurd h h2
  · rw [if_neg h1] at h
    exact absurd h h1
theorem partsD_at {j : JobV} {q : Nat} (hq : q < j.parts.toNat) : (partsD j)[q]? = some (partD j q) := by
  unfold partsD
  rw [List.getElem?_map, List.getElem?_range hq]
  rfl
theorem split_srt (mp cb : List Inst) (f : Int) (rs : List KV) : srt (splitL mp cb f rs).1 = (splitL mp cb f rs).1 := srt_self (splitL_rises mp cb f rs)
theorem part_each {j : JobV} {q : Int} (h : ∀ x ∈ splitsD j, x.2 = 0) : partD j q = eachL j.rd (srt (onlyD j q (splitsD j)).flatten) j.fuel := partOfL_fine h
theorem onlyD_fits {j : JobV} (F : JobFit j) (M : MayIs j) (q : Int) : FitsF j.rd (srt (onlyD j q (splitsD j)).flatten) ∧ (onlyD j q (splitsD j)).flatten.length ≤ 1000 := by
  have hfl : (onlyD j q (splitsD j)).flatten.length ≤ 240 := by
    have h1 := onlyD_few (j := j) (p := q) (splitsD_few j)
    have h2 : (splitsD j).length ≤ 6 := by rw [splitsD_len]; exact M.sp
    omega
  have hok := onlyD_ok (j := j) (p := q) (splitsD_ok F)
  refine ⟨⟨F.rd, by have := bad_short M.rd; omega, by rw [length_srt]; omega, fun x hx => ?_⟩, by omega⟩
  have := hok x (mem_srt.1 hx)
  exact ⟨small_len (by have := this.1; omega), small_len (by have := this.2; omega)⟩
end Go.Proofs.YtcahfnjhcngceaaGreatDoor
