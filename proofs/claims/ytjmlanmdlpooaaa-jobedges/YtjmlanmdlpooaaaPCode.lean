/- Slices of instructions: how they read; GreatCode and Bad over them. -/
import Derived.Test.YtjmlanmdlpooaaaPJudge
import Derived.Test.YtjmlanmdlpooaaaPGood
import Derived.Laws.AppendOwn
namespace Go.Proofs.Ytjmlanmdlpooaaa
open Go.RowKit
set_option linter.unusedVariables false

/-- Three cells hold an instruction. -/
def Lies (w : World) (b off : Nat) (x : Inst) : Prop :=
  w.cell? ⟨b, off, none⟩ = some (.int .i64 x.1) ∧ w.cell? ⟨b, off + 1, none⟩ = some (.int .i64 x.2.1) ∧ w.cell? ⟨b, off + 2, none⟩ = some (.string x.2.2)
theorem Lies.below {w w' : World} {b off : Nat} {x : Inst} (h : Lies w b off x) (hb : Below w.heap.size w w') (hlt : b < w.heap.size) : Lies w' b off x :=
  ⟨(hb.cell (p := ⟨b, off, none⟩) hlt).trans h.1, (hb.cell (p := ⟨b, off + 1, none⟩) hlt).trans h.2.1, (hb.cell (p := ⟨b, off + 2, none⟩) hlt).trans h.2.2⟩

/-- v is a slice of instructions that reads as l in the world w. -/
def Co (w : World) (v : Value) (l : List Inst) : Prop :=
  ∃ ao cap, v = .slice ao l.length cap ∧ l.length ≤ cap ∧ cap ≤ maxLen ∧ (ao = none → l = [] ∧ cap = 0) ∧
    (l ≠ [] → ∃ b off, ao = some ⟨b, off, none⟩ ∧ b < w.heap.size ∧ ∀ j, j < l.length → Lies w b (off + j * 3) (l.getD j zInst))
theorem Co.below {w w' : World} {v : Value} {l : List Inst} (h : Co w v l) (hb : Below w.heap.size w w') : Co w' v l := by
  obtain ⟨ao, cap, rfl, h1, h2, h3, h4⟩ := h
  refine ⟨ao, cap, rfl, h1, h2, h3, fun hl => ?_⟩
  obtain ⟨b, off, rfl, hlt, hc⟩ := h4 hl
  exact ⟨b, off, rfl, Nat.lt_of_lt_of_le hlt hb.size, fun j hj => (hc j hj).below hb hlt⟩

/-- Instructions as cells. -/
def icl (l : List Inst) : List Value := l.flatMap fun x => [.int .i64 x.1, .int .i64 x.2.1, .string x.2.2]
theorem icl_length (l : List Inst) : (icl l).length = l.length * 3 := by
  induction l with
  | nil => rfl
  | cons x l ih =>
    show ((icl l).length + 1 + 1 + 1) = (l.length + 1) * 3
    omega
theorem icl_append (a b : List Inst) : icl (a ++ b) = icl a ++ icl b := by simp [icl]
theorem icl_at : ∀ (l : List Inst) (j : Nat), j < l.length → (icl l)[j * 3]? = some (.int .i64 (l.getD j zInst).1) ∧ (icl l)[j * 3 + 1]? = some (.int .i64 (l.getD j zInst).2.1) ∧ (icl l)[j * 3 + 2]? = some (.string (l.getD j zInst).2.2)
  | [], j, h => by simp at h
  | x :: l, 0, _ => ⟨rfl, rfl, rfl⟩
  | x :: l, j + 1, h => by
    have ih := icl_at l j (by simpa using h)
    have e : icl (x :: l) = [Value.int .i64 x.1, .int .i64 x.2.1, .string x.2.2] ++ icl l := rfl
    have e2 : (x :: l).getD (j + 1) zInst = l.getD j zInst := rfl
    rw [e, e2, List.getElem?_append_right (by simp; omega), List.getElem?_append_right (by simp; omega), List.getElem?_append_right (by simp; omega)]
    have k0 : (j + 1) * 3 - 3 = j * 3 := by omega
    have k1 : (j + 1) * 3 + 1 - 3 = j * 3 + 1 := by omega
    have k2 : (j + 1) * 3 + 2 - 3 = j * 3 + 2 := by omega
    simp only [List.length_cons, List.length_nil]
    rw [k0, k1, k2]
    exact ih
theorem icl_oneCell (l : List Inst) : ∀ u ∈ icl l, u.oneCell' = true := by
  intro u hu
  unfold icl at hu
  obtain ⟨x, _, hx⟩ := List.mem_flatMap.1 hu
  simp at hx
  rcases hx with rfl | rfl | rfl <;> rfl

/-- What the call owns reads as it must. -/
theorem Co.own {w : World} {base n : Nat} {v : Value} {l : List Inst} (h : w.ownsRow base 50 3 v n (icl l)) : Co w v l := by
  have hn : l.length = n := by have := h.1; rw [icl_length] at this; omega
  subst hn
  rcases h.2 with ⟨h', h0⟩ | ⟨g, cap, cur, h', hb, hg, hnc, hm, hs, ht⟩
  · subst h'
    have : l = [] := List.eq_nil_of_length_eq_zero h0
    subst this
    exact ⟨none, 0, rfl, Nat.le_refl _, by unfold maxLen; omega, fun _ => ⟨rfl, rfl⟩, fun h => absurd rfl h⟩
  · subst h'
    refine ⟨some ⟨g, 0, none⟩, cap, rfl, hnc, hm, fun e => (by cases e), fun _ => ⟨g, 0, rfl, (Array.getElem?_eq_some_iff.1 hg).1, fun j hj => ?_⟩⟩
    obtain ⟨a0, a1, a2⟩ := icl_at l j hj
    refine ⟨?_, ?_, ?_⟩
    · rw [Nat.zero_add, h.cellAt _ (by omega)]; exact a0
    · rw [Nat.zero_add, h.cellAt _ (by omega)]; exact a1
    · rw [Nat.zero_add, h.cellAt _ (by omega)]; exact a2
end Go.Proofs.Ytjmlanmdlpooaaa
