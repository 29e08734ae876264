/- How an ack of layer 17's statements reads. -/
import Derived.Test.YtaobiohdhdklaaaWnAwake
import Derived.Test.YtaobiohdhdklaaaRds
namespace Go.Proofs.Ytaobiohdhdklaaa
open Go.RowKit
set_option linter.unusedVariables false
abbrev ActV := Int × Int
def rAct : Rd ActV := rPair 1 (rInt .i64) (rInt .i64)
theorem opens_act : Opens Try.prog 34 2 rAct :=
  opens_struct Try.underlying34 (by kernel_rfl) (opensF_cons rfl (by kernel_rfl) (opens_int Try.underlying3) (opensF_last rfl (by kernel_rfl) rfl (opens_int Try.underlying3)))
theorem opens_acts : Opens Try.prog 22 1 (rSlice 2 rAct) := opens_slice Try.underlying22 (by kernel_rfl) (by decide) opens_act
theorem act_cells {w : World} {ds : List Value} {a : ActV} (hl : ds.length = 2) (h : rAct w ds a) : ds = [.int .i64 a.1, .int .i64 a.2] := by
  match ds, hl with
  | [x, y], _ =>
    obtain ⟨⟨h1, _⟩, h2, _⟩ := h
    simp at h1 h2
    rw [h1, h2]
/-- Acts that lie in block b, from off on. -/
def Acts (w : World) (b off : Nat) (l : List ActV) : Prop := ∀ (j : Nat) (a : ActV), l[j]? = some a → ∃ ds : List Value, ds.length = 2 ∧ rAct w ds a ∧ ∀ (k : Nat) (u : Value), ds[k]? = some u → w.cell? ⟨b, off + j * 2 + k, none⟩ = some u
theorem Acts.at {w : World} {l : List ActV} {b off : Nat} (hc : Acts w b off l) {k : Nat} (hk : k < l.length) :
    w.cell? ⟨b, off + k * 2, none⟩ = some (.int .i64 l[k].1) ∧ w.cell? ⟨b, off + k * 2 + 1, none⟩ = some (.int .i64 l[k].2) := by
  obtain ⟨ds, hd, hr, hu⟩ := hc k l[k] (List.getElem?_eq_getElem hk)
  have he := act_cells hd hr
  subst he
  exact ⟨hu 0 _ rfl, hu 1 _ rfl⟩
end Go.Proofs.Ytaobiohdhdklaaa
