/- What the statements of chapter 6 ask of vm.Run and vm.Steps, as one premise; and that their own first look passes. -/
import Derived.Test.YtobgobmfhgagbaaGreatDoorLGreat
import Derived.Test.YtobgobmfhgagbaaGreatDoorGRun
import Derived.Test.YtobgobmfhgagbaaGreatDoorGProg
namespace Go.Proofs.YtobgobmfhgagbaaGreatDoor
open Go.RowKit Go.Lib
set_option linter.unusedVariables false
set_option maxRecDepth 100000

/-- What is handed to a run: numbers of 64 bits, no more than any machine holds. -/
structure Fits (l : List Inst) (key : ByteArray) (vals : List ByteArray) : Prop where
  nums : ∀ x ∈ l, I64 x.2.1
  len : l.length ≤ 100
  key : key.size ≤ maxLen
  few : vals.length ≤ 100
  vals : ∀ v ∈ vals, v.size ≤ maxLen
theorem own_prs {w : World} {base n : Nat} {x : Value} {ps : List Pr} (h : w.ownsRow base 34 2 x n (fl encP ps)) : Prs w x ps := Reads.own encP_len (by decide) h

abbrev kB : ByteArray := ⟨#[107]⟩
abbrev aB : ByteArray := ⟨#[97]⟩
abbrev bB : ByteArray := ⟨#[98]⟩
theorem small_len {s : ByteArray} (h : s.size ≤ 100) : s.size ≤ maxLen := by unfold maxLen; omega
theorem fits_first : Fits firstP kB [aB, bB] := ⟨by intro x hx; simp only [firstP, List.mem_cons, List.mem_nil_iff, or_false] at hx; rcases hx with rfl | rfl | rfl | rfl <;> exact i64_small (by simp) (by simp), by simp [firstP], small_len (by decide), by simp, by intro v hv; simp at hv; rcases hv with rfl | rfl <;> exact small_len (by decide)⟩
theorem fits_loop : Fits [(19, 0, e0)] kB [] := ⟨by intro x hx; simp at hx; subst hx; exact i64_small (by simp) (by simp), by simp, small_len (by decide), by simp, by simp⟩

end Go.Proofs.YtobgobmfhgagbaaGreatDoor
