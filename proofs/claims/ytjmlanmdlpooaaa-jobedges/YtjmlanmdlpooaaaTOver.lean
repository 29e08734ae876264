/- OverPairs: what is owned is written over, and nothing else turns. -/
import Derived.Test.YtjmlanmdlpooaaaTPairs
namespace Go.Proofs.Ytjmlanmdlpooaaa
open Go.RowKit
set_option linter.unusedVariables false

theorem owns_grown_ne {w w' : World} {e s n base : Nat} {v : Value} {xs : List Value} {r : Option Nat} (h : w.ownsRow base e s v n xs) (hg : w.grownBy w' r) (hne : ∀ g, v.ownBlock = some g → r ≠ some g) : w'.ownsRow base e s v n xs := by
  refine ⟨h.1, ?_⟩
  rcases h.2 with h1 | ⟨g, cap, cur, rfl, hb, hh, q⟩
  · exact .inl h1
  · refine .inr ⟨g, cap, cur, rfl, hb, ?_, q⟩
    rw [hg.block g (Array.getElem?_eq_some_iff.1 hh).1 (fun e => hne g rfl e.symm)]
    exact hh
theorem owns_lt {w : World} {e s n base : Nat} {v : Value} {xs : List Value} (h : w.ownsRow base e s v n xs) {g : Nat} (hg : v.ownBlock = some g) : g < w.heap.size := by
  rcases h.2 with ⟨rfl, _⟩ | ⟨g', cap, cur, rfl, hb, hh, q⟩
  · cases hg
  · cases hg
    exact (Array.getElem?_eq_some_iff.1 hh).1
end Go.Proofs.Ytjmlanmdlpooaaa
