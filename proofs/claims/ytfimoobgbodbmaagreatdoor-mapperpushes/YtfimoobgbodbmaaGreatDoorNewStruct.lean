/- A whole struct is stored into a block that is new: the block is that struct. No program in this text. -/
import Derived.WalkKit
import Derived.Deep.MidRow
import Derived.Test.YtfimoobgbodbmaaGreatDoorGSeq
namespace Go.Proofs.YtfimoobgbodbmaaGreatDoor
open Go.RowKit

theorem set_new (w : World) (zs : Array Value) (t : TypeId) (i : Nat) (v : Value) : (w.alloc (.cells zs t)).setCell ⟨w.heap.size, i, none⟩ v = w.alloc (.cells (zs.setIfInBounds i v) t) := by
  simp [go_sem]
def setAll : Array Value → Nat → List Value → Array Value
  | zs, _, [] => zs
  | zs, o, v :: r => setAll (zs.setIfInBounds o v) (o + 1) r
theorem setCells_new (w : World) (t : TypeId) : ∀ (vs : List Value) (o : Nat) (zs : Array Value), (w.alloc (.cells zs t)).setCells w.heap.size o vs = w.alloc (.cells (setAll zs o vs) t)
  | [], _, _ => rfl
  | v :: r, o, zs => by rw [World.setCells, set_new, setCells_new w t r (o + 1)]; rfl
theorem setAll_at : ∀ (vs : List Value) (o : Nat) (zs : Array Value) (j : Nat), o + vs.length ≤ zs.size → (setAll zs o vs)[j]? = if o ≤ j ∧ j < o + vs.length then vs[j - o]? else zs[j]?
  | [], o, zs, j, _ => by rw [if_neg (by simp only [List.length_nil]; omega)]; rfl
  | v :: r, o, zs, j, h => by
    rw [List.length_cons] at h
    rw [setAll, setAll_at r (o + 1) _ j (by simp; omega)]
    by_cases h1 : o + 1 ≤ j ∧ j < o + 1 + r.length
    · rw [if_pos h1, if_pos (by simp; omega), show j - o = (j - (o + 1)) + 1 by omega, List.getElem?_cons_succ]
    · rw [if_neg h1]
      by_cases h2 : j = o
      · subst h2
        rw [if_pos (by simp), Nat.sub_self, List.getElem?_cons_zero, Array.getElem?_setIfInBounds, if_pos rfl, if_pos (by omega)]
      · rw [if_neg (by simp; omega), Array.getElem?_setIfInBounds_ne (by omega)]
theorem setAll_size : ∀ (vs : List Value) (o : Nat) (zs : Array Value), (setAll zs o vs).size = zs.size
  | [], _, _ => rfl
  | v :: r, o, zs => by rw [setAll, setAll_size r]; simp
theorem setAll_all (zs cs : Array Value) (h : zs.size = cs.size) : setAll zs 0 cs.toList = cs := by
  apply Array.ext_getElem?
  intro j
  rw [setAll_at _ _ _ _ (by simp; omega)]
  by_cases hj : j < cs.size
  · rw [if_pos (by simp; omega)]
    simp
  · rw [if_neg (by simp; omega), Array.getElem?_eq_none (by omega), Array.getElem?_eq_none (by omega)]
/-- A whole struct is stored into a new block. -/
theorem run_store_new {P : Program} (w : World) (t : TypeId) (zs cs : Array Value) (hz : zs.size = cs.size) (hi : (P.info? t).map (·.size) = some cs.size) (h1 : cs.all (·.oneCell') = true) :
    (Instr.storeAt t (.pointer (some ⟨w.heap.size, 0, none⟩)) (.agg cs)).run P (w.alloc (.cells zs t)) = .ok () (w.alloc (.cells cs t)) := by
  rw [run_storeAt_mid _ _ _ _ _ ?_ hi h1, setCells_new, setAll_all zs cs hz]
  intro j hj
  have hb := new_block w (.cells zs t)
  refine ⟨?_, free_of_cells hb⟩
  rw [cell_of_cells hb, Array.getElem?_eq_getElem (by omega)]
  rfl
/-- An operation whose run is known, its slot written out. -/
theorem wpList_ran {P : Program} {ops : Array Oper} {rest : List Oper} {o : Oper} {a : Act} {w : World} {Q : Exit → Act → World → Prop} (hg : o.guard = none) (d : Nat) (hd : o.dst = some d) (v : Value) (w' : World)
    (hr : (execOp a.eval o).run P w = .ok (.value v) w') (h : wpList P ops Q rest (a.put (some d) v) w') : wpList P ops Q (o :: rest) a w :=
  wpList_plain hg fun K hK => by
    unfold Oper.wp
    rw [hr]
    simp only [Oper.upon, hd]
    exact hK _ _ h
/-- A store whose run is known. -/
theorem wpList_stored {P : Program} {ops : Array Oper} {rest : List Oper} {o : Oper} {a : Act} {w : World} {Q : Exit → Act → World → Prop} (hg : o.guard = none) (t : TypeId) (x y : Operand) (ho : o.op = .store t x y) (hd : o.dst = none) (w' : World)
    (hr : (Instr.storeAt t (a.eval x) (a.eval y)).run P w = .ok () w') (h : wpList P ops Q rest a w') : wpList P ops Q (o :: rest) a w :=
  wpList_plain hg fun K hK => by
    unfold Oper.wp
    have : (execOp a.eval o).run P w = .ok .skip w' := by
      simp [execOp, ho, hr]
    rw [this]
    simp only [Oper.upon, hd]
    exact hK _ _ h
end Go.Proofs.YtfimoobgbodbmaaGreatDoor
