/- Lists of pairs and of texts held against each other: SamePairs, SameTexts, Same of the program and of the reference. -/
import Derived.Test.YtjmlanmdlpooaaaTOver
import Derived.Test.YtjmlanmdlpooaaaSMath
namespace Go.Proofs.Ytjmlanmdlpooaaa
open Go.RowKit
set_option linter.unusedVariables false

theorem bytes_inj {x y : ByteArray} (h : x.toList = y.toList) : x = y := by
  rw [ByteArray.toList_eq, ByteArray.toList_eq] at h
  cases x; cases y
  simp only [ByteArray.mk.injEq]
  exact Array.toList_inj.1 h
theorem pair_neq_ne (x y : ByteArray × ByteArray) (h : x ≠ y) (w : World) : (binOp .neq 48 (prV x) (prV y)).run Try.prog w = .ok (.bool true) w := by
  have u9 := Try.underlying9
  have a9 := Try.isAgg9
  have z9 := Try.sizeOf9
  have hS : Try.prog.underlying 48 = some (.struct (Try.prog.fieldsOf 48)) := by kernel_rfl
  have hp : Try.prog.stoodInHeld 48 = false := by kernel_rfl
  rw [run_neq_struct, show (10000 : Nat) = 9999 + 1 from rfl, run_equalIn_agg w 9999 48 _ _ hS hp]
  simp only [Program.fieldsOf, Try.underlying48]
  obtain ⟨x0, x1⟩ := x
  obtain ⟨y0, y1⟩ := y
  by_cases h0 : x0 = y0
  · subst h0
    have h1 : ¬ x1 = y1 := fun e => h (by rw [e])
    go_simp
    exact fun e => h1 (bytes_inj e)
  · go_simp
    exact fun e => absurd (bytes_inj e) h0
theorem take_same {α : Type} {l m : List α} {k : Nat} (h : l.take k = m.take k) (hl : l.length = m.length) (hk : k < l.length) (he : l[k]? = m[k]?) : l.take (k + 1) = m.take (k + 1) := by
  rw [List.take_succ_eq_append_getElem hk, List.take_succ_eq_append_getElem (by omega), h]
  rw [List.getElem?_eq_getElem hk, List.getElem?_eq_getElem (by omega)] at he
  rw [Option.some.inj he]
theorem take_less {α : Type} {l m : List α} {k : Nat} {x y : α} (hx : l[k]? = some x) (hy : m[k]? = some y) (h : x ≠ y) : ¬ l = m := by
  rintro rfl
  rw [hx] at hy
  exact h (Option.some.inj hy)
theorem Prs.cell? {w : World} {ao : Option Addr} {m cap : Nat} {l : List (ByteArray × ByteArray)} (h : Prs w (.slice ao m cap) l) {j : Nat} (hj : j < l.length) : ∃ b off x, l[j]? = some x ∧ ao = some ⟨b, off, none⟩ ∧ b < w.heap.size ∧ w.cell? ⟨b, off + j * 2, none⟩ = some (.string x.1) ∧ w.cell? ⟨b, off + j * 2 + 1, none⟩ = some (.string x.2) := by
  obtain ⟨b, off, e, hlt, h0, h1⟩ := h.cell hj
  exact ⟨b, off, _, List.getElem?_eq_getElem hj, e, hlt, h0, h1⟩
theorem Txs.cell? {w : World} {ao : Option Addr} {m cap : Nat} {l : List ByteArray} (h : Txs w (.slice ao m cap) l) {j : Nat} (hj : j < l.length) : ∃ b off x, l[j]? = some x ∧ ao = some ⟨b, off, none⟩ ∧ b < w.heap.size ∧ w.cell? ⟨b, off + j, none⟩ = some (.string x) := by
  obtain ⟨b, off, e, hlt, h0⟩ := h.cell hj
  exact ⟨b, off, _, List.getElem?_eq_getElem hj, e, hlt, h0⟩

end Go.Proofs.Ytjmlanmdlpooaaa
