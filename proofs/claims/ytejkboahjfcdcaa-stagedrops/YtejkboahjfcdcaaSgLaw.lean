/- What the laws of layer 18 share: small keys; acts in a later world; a slice that is apart from a stage. -/
import Derived.Test.YtejkboahjfcdcaaSgAwake
import Derived.Test.YtejkboahjfcdcaaSgActs
import Derived.Test.YtejkboahjfcdcaaLowC
namespace Go.Proofs.Ytejkboahjfcdcaa
open Go.RowKit
set_option linter.unusedVariables false

theorem wf_small {x : Int} (h1 : -1000 ≤ x) (h2 : x ≤ 1000) : (Lit.int .i64 x).wf = true := by
  have e1 : IntKind.i64.min = -9223372036854775808 := by decide
  have e2 : IntKind.i64.max = 9223372036854775807 := by decide
  simp only [Lit.wf, e1, e2, Bool.and_eq_true, decide_eq_true_eq]
  omega
/-- The acts' cells are as they were. -/
theorem acts_later {W w : World} {b off : Nat} {l : List ActV} (hc : Acts W b off l) (hb : b < W.heap.size) (h : Below W.heap.size W w) {k : Nat} (hk : k < l.length) :
    ∃ ao c, w.cell? ⟨b, off + k * 5, none⟩ = some (.int .i64 l[k].1) ∧ w.cell? ⟨b, off + k * 5 + 1, none⟩ = some (.int .i64 l[k].2.1) ∧ w.cell? ⟨b, off + k * 5 + 2, none⟩ = some (.int .i64 l[k].2.2.1) ∧ w.cell? ⟨b, off + k * 5 + 3, none⟩ = some (.int .i64 l[k].2.2.2.1) ∧ w.cell? ⟨b, off + k * 5 + 4, none⟩ = some (.slice ao l[k].2.2.2.2.length c) ∧ Prs W (.slice ao l[k].2.2.2.2.length c) l[k].2.2.2.2 ∧ W64 (l[k].2.1, l[k].2.2.1) := by
  obtain ⟨ao, c, c0, c1, c2, c3, c4, hp, w1, w2⟩ := hc.at hk
  exact ⟨ao, c, (h.cell (p := ⟨b, off + k * 5, none⟩) hb).trans c0, (h.cell (p := ⟨b, off + k * 5 + 1, none⟩) hb).trans c1, (h.cell (p := ⟨b, off + k * 5 + 2, none⟩) hb).trans c2, (h.cell (p := ⟨b, off + k * 5 + 3, none⟩) hb).trans c3, (h.cell (p := ⟨b, off + k * 5 + 4, none⟩) hb).trans c4, hp, w1, w2⟩
/-- A row of pairs that is none of a stage's. -/
structure WantG (B b : Nat) (mv : Value) (X : List ((Int × Int) × Pay)) (u : Value) (ps : List KV) (w : World) : Prop where
  row : w.ownsRow B 53 2 u ps.length (fl encP ps)
  off : ∀ g, u.ownBlock = some g → ¬ InG b mv X g
section
variable {B b : Nat} {mv mv' : Value} {X X' : List ((Int × Int) × Pay)} {W w w' : World} {u u' : Value} {ps qs : List KV}
theorem WantG.nil (B b : Nat) (mv : Value) (X : List ((Int × Int) × Pay)) (w : World) : WantG B b mv X (.slice none 0 0) [] w := ⟨World.ownsRow_nil _ _ _ _, fun g h => by cases h⟩
theorem WantG.below (h : WantG B b mv X u ps w) (hb : Below w.heap.size w w') : WantG B b mv X u ps w' := ⟨owns_below h.row hb, h.off⟩
theorem WantG.turn (h : WantG B b mv X u ps w) (hs : Sav (InG b mv X) w w') (hn : NextG w b mv X mv' X') : WantG B b mv' X' u ps w' :=
  ⟨owns_sav h.row hs h.off, fun g hg e => (hn g e).elim (h.off g hg) (fun h2 => by have := (h.row.lt g hg).2; omega)⟩
/-- It has grown. -/
theorem WantG.more (h : WantG B b mv X u ps w) (hG : OnG B b mv X W w) (ho : w'.ownsRow B 53 2 u' (ps.length + qs.length) (fl encP ps ++ fl encP qs)) (hg : w.grownBy w' u.ownBlock) (hat : u'.ownBlock = u.ownBlock ∨ u'.ownBlock = some w.heap.size) : WantG B b mv X u' (ps ++ qs) w' ∧ OnG B b mv X W w' := by
  have hs : Sav (fun g => u.ownBlock = some g) w w' := Sav.grown hg (fun g hg => hg)
  refine ⟨⟨by rw [List.length_append, fl_append]; exact ho, fun g hg2 e => ?_⟩, ⟨hG.sg.sav hs (fun g hg2 e => h.off g e hg2), hG.bel.trans (hs.below (fun g hg2 => (h.row.lt g hg2).1) hG.sg.low)⟩⟩
  rcases hat with h1 | h1
  · exact h.off g (by rw [← h1]; exact hg2) e
  · rw [h1] at hg2
    cases hg2
    have := (hG.sg.lt e).2
    omega
end
end Go.Proofs.Ytejkboahjfcdcaa
