/- Slices of whole numbers: how they read. -/
import Derived.Test.YtpnjjiibcllgiaaProg
import Derived.Test.YtpnjjiibcllgiaaSav
import Derived.Room.AppendFits
import Derived.Laws.AppendOwnNone
import Derived.WalkSpells
import Derived.WalkLawsBesides
namespace Go.Proofs.Ytpnjjiibcllgiaa
open Go.RowKit
set_option linter.unusedVariables false

/-- Whole numbers as cells. -/
def ict (l : List Int) : List Value := l.map (Value.int .i64)
theorem ict_length (l : List Int) : (ict l).length = l.length := by simp [ict]
theorem ict_append (a b : List Int) : ict (a ++ b) = ict a ++ ict b := by simp [ict]
theorem ict_at {l : List Int} {j : Nat} (h : j < l.length) : (ict l)[j]? = some (.int .i64 (l.getD j 0)) := by
  simp [ict, List.getElem?_eq_getElem h, List.getD]

/-- v is a slice of whole numbers that reads as l in the world w. -/
def Is (w : World) (v : Value) (l : List Int) : Prop :=
  ∃ ao cap, v = .slice ao l.length cap ∧ l.length ≤ cap ∧ cap ≤ maxLen ∧ (ao = none → l = [] ∧ cap = 0) ∧
    (l ≠ [] → ∃ b off, ao = some ⟨b, off, none⟩ ∧ b < w.heap.size ∧ ∀ j, j < l.length → w.cell? ⟨b, off + j, none⟩ = some (.int .i64 (l.getD j 0)))
theorem Is.below {w w' : World} {v : Value} {l : List Int} (h : Is w v l) (hb : Below w.heap.size w w') : Is w' v l := by
  obtain ⟨ao, cap, rfl, h1, h2, h3, h4⟩ := h
  refine ⟨ao, cap, rfl, h1, h2, h3, fun hl => ?_⟩
  obtain ⟨b, off, rfl, hlt, hc⟩ := h4 hl
  exact ⟨b, off, rfl, Nat.lt_of_lt_of_le hlt hb.size, fun j hj => (hb.cell (p := ⟨b, off + j, none⟩) hlt).trans (hc j hj)⟩
/-- What the call owns reads as it must. -/
theorem Is.own {w : World} {base g n cap : Nat} {l : List Int} (h : w.ownsRow base 3 1 (.slice (some ⟨g, 0, none⟩) n cap) n (ict l)) : Is w (.slice (some ⟨g, 0, none⟩) n cap) l := by
  have hn : l.length = n := by have := h.1; rw [ict_length] at this; omega
  subst hn
  have hcell := fun j (hj : j < l.length) => (h.cellAt j (by omega)).trans (ict_at hj)
  rcases h.2 with ⟨h', _⟩ | ⟨g', cap', cur, h', hb, hg, hnc, hm, _, _⟩
  · cases h'
  · simp only [Value.slice.injEq, Option.some.injEq, Addr.mk.injEq, and_true, true_and] at h'
    obtain ⟨rfl, rfl⟩ := h'
    exact ⟨some ⟨g, 0, none⟩, cap, rfl, hnc, hm, fun e => (by cases e), fun _ => ⟨g, 0, rfl, (Array.getElem?_eq_some_iff.1 hg).1, fun j hj => by rw [Nat.zero_add]; exact hcell j hj⟩⟩
theorem Try.info3 : (Try.prog.info? 3).map (fun i => (i.zero, i.size, i.bytes)) = some (some (.int .i64 0), 1, 8) := by kernel_rfl

end Go.Proofs.Ytpnjjiibcllgiaa
