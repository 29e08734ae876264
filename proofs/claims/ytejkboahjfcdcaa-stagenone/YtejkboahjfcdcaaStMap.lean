/- A map by a struct of two whole numbers, whatever its elements: which value stands at which key. No program in this text. -/
import Derived.Maps.RangeWalk
import Derived.DeepKeys4
import Derived.Test.YtejkboahjfcdcaaSav
import Derived.Test.YtejkboahjfcdcaaStMath
namespace Go.Proofs.Ytejkboahjfcdcaa
open Go.RowKit
open Go.Maps (Keyed)
set_option linter.unusedVariables false

/-- An element reads as itself. -/
def selfElem (v : Value) : Option (DataW Value × List MemPlace) := some (.held v, [])
abbrev KeyT := Int × Int
def W64 (x : KeyT) : Prop := (Lit.int .i64 x.1).wf = true ∧ (Lit.int .i64 x.2).wf = true
/-- A key as a value, and what it reads as. -/
def kv (x : KeyT) : Value := .agg #[.int .i64 x.1, .int .i64 x.2]
def klit (x : KeyT) : Lit := .string (keyBytes [.int .i64 x.1, .int .i64 x.2])
/-- Keys of type k are structs of two whole numbers. -/
structure KeyTwo (P : Program) (k : TypeId) : Prop where
  law : Keyed P k
  of : ∀ x, W64 x → keyOf P k (kv x) = some (klit x)
  inv : ∀ v y, keyOf P k v = some y → ∃ x, W64 x ∧ v = kv x ∧ y = klit x
theorem kv_inj {x y : KeyT} (h : kv x = kv y) : x = y := by
  unfold kv at h
  simp only [Value.agg.injEq, Array.mk.injEq, List.cons.injEq, Value.int.injEq, true_and, and_true] at h
  exact Prod.ext h.1 h.2
theorem KeyTwo.inj {P : Program} {k : TypeId} (K : KeyTwo P k) {x y : KeyT} (hx : W64 x) (hy : W64 y) (h : klit x = klit y) : x = y :=
  kv_inj (K.law.inj (K.of x hx) (by rw [h]; exact K.of y hy))
theorem keyCell_some {P : Program} {d : Nat} {t : TypeId} (u : P.underlying t = some (.int .i64)) {v : Value} {l : List Lit} (h : P.keyLits (d + 1) t [v] = some l) : ∃ n, v = .int .i64 n ∧ (Lit.int .i64 n).wf = true ∧ l = [.int .i64 n] := by
  unfold Program.keyLits at h
  rw [u] at h
  cases v with
  | int q n =>
    simp only [Option.ite_none_right_eq_some] at h
    obtain ⟨⟨rfl, h2⟩, h3⟩ := h
    exact ⟨n, rfl, h2, by cases h3; rfl⟩
  | _ => simp at h
theorem keyCell_mk {P : Program} {d : Nat} {t : TypeId} (u : P.underlying t = some (.int .i64)) {n : Int} (h : (Lit.int .i64 n).wf = true) : P.keyLits (d + 1) t [.int .i64 n] = some [.int .i64 n] := by
  unfold Program.keyLits
  rw [u]
  simp [h]
/-- A struct type of two fields of kind int is such a key type. -/
theorem keyTwo_of {P : Program} {k : TypeId} {f0 f1 : Field} (hl : laidOutB P = true) (hrow : k < P.types.size) (hk : P.keyType k = true) (hk3 : P.keyTypeAt 3 k = true)
    (hu : P.underlying k = some (.struct #[f0, f1])) (h0 : f0.offset = 0) (h1 : f1.offset = 1) (n0 : (f0.name != "_") = true) (n1 : (f1.name != "_") = true)
    (u0 : P.underlying f0.type = some (.int .i64)) (u1 : P.underlying f1.type = some (.int .i64)) (c : P.cellsOf k = 2) (c0 : P.cellsOf f0.type = 1) (c1 : P.cellsOf f1.type = 1) : KeyTwo P k := by
  have hpos : 0 < P.types.size := Nat.lt_of_le_of_lt (Nat.zero_le k) hrow
  obtain ⟨d, hd⟩ : ∃ d, P.types.size = d + 1 := ⟨P.types.size - 1, by omega⟩
  have hlits : ∀ a b : Value, P.keyLits (P.types.size + 1) k [a, b] = (P.keyLits (d + 1) f0.type [a]).bind (fun la => (P.keyLits (d + 1) f1.type [b]).bind (fun lb => some (la ++ lb))) := by
    intro a b
    rw [hd]
    conv => lhs; unfold Program.keyLits
    rw [hu]
    simp only [c]
    simp [n0, n1, h0, h1, c0, c1]
    cases P.keyLits (d + 1) f0.type [a] with
    | none => rfl
    | some la =>
      cases P.keyLits (d + 1) f1.type [b] with
      | none => rfl
      | some lb => simp
  refine ⟨Keyed.of_law (deep_law_laid hl (m := 3) (by omega) hrow hk3 (by rw [hu])), fun x hx => ?_, fun v y h => ?_⟩
  · unfold keyOf
    rw [hu]
    show (if (P.keyType k && (kv x).formed P k) = true then (P.keyLits (P.types.size + 1) k [.int .i64 x.1, .int .i64 x.2]).map _ else none) = _
    rw [hlits, keyCell_mk u0 hx.1, keyCell_mk u1 hx.2, hk]
    simp [Value.formed, kv, hu, c, klit]
  · unfold keyOf at h
    rw [hu] at h
    simp only [hk, Bool.true_and, Option.ite_none_right_eq_some] at h
    obtain ⟨hf, h⟩ := h
    cases v with
    | agg cs =>
      simp only [Value.formed, hu, c, beq_iff_eq] at hf
      obtain ⟨a, b, rfl⟩ : ∃ a b, cs = #[a, b] := by
        have hl2 : cs.toList.length = 2 := by simpa using hf
        match hcs : cs.toList, hl2 with
        | [a, b], _ => exact ⟨a, b, by rw [← hcs]⟩
      rw [show (Value.agg #[a, b]).cells.toList = [a, b] from rfl, hlits] at h
      cases hA : P.keyLits (d + 1) f0.type [a] with
      | none => rw [hA] at h; simp at h
      | some la =>
        cases hB : P.keyLits (d + 1) f1.type [b] with
        | none => rw [hA, hB] at h; simp at h
        | some lb =>
          obtain ⟨n, rfl, w1, rfl⟩ := keyCell_some u0 hA
          obtain ⟨m, rfl, w2, rfl⟩ := keyCell_some u1 hB
          rw [hA, hB] at h
          refine ⟨(n, m), ⟨w1, w2⟩, rfl, ?_⟩
          simpa [klit] using h.symm
    | _ => simp [Value.formed, hu] at hf

/-- What stands at each key, of the map's own reading and of a plain list, is one. -/
structure RelD (D : DataW Value) (l : List (KeyT × Value)) : Prop where
  has : ∀ x, W64 x → Maps.has D (klit x) = (lookS l x).isSome
  at_ : ∀ x, W64 x → ∀ z, D.atKey (klit x) z = (match lookS l x with | some v => .held v | none => z)
  size : Maps.size D = l.length
/-- Block b is a map in which just these values stand at just these keys. -/
structure MapIs (P : Program) (k : TypeId) (b : Nat) (l : List (KeyT × Value)) (w : World) : Prop where
  ex : ∃ D : DataW Value, w.ownsMap P k selfElem b l.length D ∧ RelD D l
  apart : l.Pairwise (fun p q => p.1 ≠ q.1)
  wf : ∀ p ∈ l, W64 p.1
theorem isKey (x : KeyT) : WideAt.IsKeyLit (klit x) := trivial
theorem owns_tight {P : Program} {k : TypeId} {w : World} {b n : Nat} {D : DataW Value} (h : w.ownsMap P k selfElem b n D) : w.ownsMap P k selfElem b (Maps.size D) D := by
  obtain ⟨es, clock, hb, F, hs, rfl⟩ := h
  exact ⟨es, clock, hb, F, by simp [Maps.size, length_sorted], rfl⟩
theorem MapIs.made (P : Program) (k : TypeId) (w : World) : MapIs P k w.heap.size [] (w.alloc (.map #[] 0)) :=
  ⟨⟨.map [], World.ownsMap_made w P k selfElem, ⟨fun _ _ => rfl, fun _ _ _ => rfl, rfl⟩⟩, .nil, fun _ h => absurd h (by simp)⟩
theorem MapIs.lt {P : Program} {k : TypeId} {b : Nat} {l : List (KeyT × Value)} {w : World} (h : MapIs P k b l w) : b < w.heap.size := by
  obtain ⟨D, h1, _⟩ := h.ex
  exact h1.lt
theorem MapIs.kept {P : Program} {k : TypeId} {b : Nat} {l : List (KeyT × Value)} {w w' : World} {row : Option Nat} (h : MapIs P k b l w) (hg : w.grownBy w' row) (hne : some b ≠ row) : MapIs P k b l w' := by
  obtain ⟨D, h1, h2⟩ := h.ex
  exact ⟨⟨D, h1.kept hg hne, h2⟩, h.apart, h.wf⟩
theorem MapIs.sav {P : Program} {k : TypeId} {b : Nat} {l : List (KeyT × Value)} {w w' : World} {S : Nat → Prop} (h : MapIs P k b l w) (hs : Sav S w w') (hn : ¬ S b) : MapIs P k b l w' := by
  obtain ⟨D, ⟨es, clock, hb, rest⟩, h2⟩ := h.ex
  exact ⟨⟨D, ⟨es, clock, hs.at hb hn, rest⟩, h2⟩, h.apart, h.wf⟩
theorem MapIs.below {P : Program} {k : TypeId} {b : Nat} {l : List (KeyT × Value)} {w w' : World} (h : MapIs P k b l w) (hb : Below w.heap.size w w') : MapIs P k b l w' :=
  h.sav (Sav.of_below (S := Non) hb) (fun h => h)
theorem RelD.put {P : Program} {k : TypeId} (K : KeyTwo P k) {D : DataW Value} {l : List (KeyT × Value)} (h : RelD D l) (hD : Maps.Tidy D) {x : KeyT} (hx : W64 x) (v : Value) : RelD (D.put (klit x) (.held v)) (setS l x v) := by
  refine ⟨fun y hy => ?_, fun y hy z => ?_, ?_⟩
  · by_cases e : y = x
    · subst e
      rw [Maps.has_put_same hD.isMap (isKey y), lookS_set_same]
      rfl
    · rw [Maps.has_put_other (fun e2 => e (K.inj hy hx e2)), lookS_set_other l x v e]
      exact h.has y hy
  · by_cases e : y = x
    · subst e
      rw [Maps.atKey_put_same hD.isMap (isKey y), lookS_set_same]
    · rw [Maps.atKey_put_other (fun e2 => e (K.inj hy hx e2)), lookS_set_other l x v e]
      exact h.at_ y hy z
  · rw [Maps.size_put hD, setS_len, h.has x hx, h.size]
theorem RelD.del {P : Program} {k : TypeId} (K : KeyTwo P k) {D : DataW Value} {l : List (KeyT × Value)} (h : RelD D l) (hD : Maps.Tidy D) (hl : l.Pairwise (fun p q => p.1 ≠ q.1)) {x : KeyT} (hx : W64 x) : RelD (D.del (klit x)) (l.filter (fun p => !decide (p.1 = x))) := by
  have hf : ∀ y, lookS (l.filter (fun p => !decide (p.1 = x))) y = if (!decide (y = x)) = true then lookS l y else none := fun y => lookS_filter l (fun p => !decide (p = x)) y
  refine ⟨fun y hy => ?_, fun y hy z => ?_, ?_⟩
  · rw [hf]
    by_cases e : y = x
    · subst e
      rw [Maps.has_del_same, if_neg (by simp)]
      rfl
    · rw [Maps.has_del_other (fun e2 => e (K.inj hy hx e2)), if_pos (by simpa using e)]
      exact h.has y hy
  · rw [hf]
    by_cases e : y = x
    · subst e
      rw [Maps.atKey_del_same, if_neg (by simp)]
    · rw [Maps.atKey_del_other (fun e2 => e (K.inj hy hx e2)), if_pos (by simpa using e)]
      exact h.at_ y hy z
  · have h1 := Maps.size_del hD (k := klit x)
    have h2 := strike_length x hl
    rw [h.has x hx, h.size] at h1
    exact Nat.add_right_cancel (h1.trans h2.symm)
theorem setS_wf {l : List (KeyT × Value)} (h : ∀ p ∈ l, W64 p.1) {x : KeyT} (hx : W64 x) (v : Value) : ∀ p ∈ setS l x v, W64 p.1 := by
  intro p hp
  rcases setS_mem hp with e | e | e
  · rw [e]; exact hx
  · exact h p e.1
  · exact h p e.1

section
variable {P : Program} (w : World) {ops : Array Oper} {rest : List Oper} {o : Oper} {a : Act} {Q : Exit → Act → World → Prop}
/-- What a look-up tells, and that nothing turns. -/
theorem look_is {k e t : TypeId} (K : KeyTwo P k) (ht : P.underlying t = some (.map k e)) {z : Value} (hz : (zeroValue e).run P w = .ok z w) {b : Nat} {l : List (KeyT × Value)} (h : MapIs P k b l w) {x : KeyT} (hx : W64 x) :
    (Instr.lookup t (.map (some b)) (kv x) false).run P w = .ok ((lookS l x).getD z) w ∧ (Instr.lookup t (.map (some b)) (kv x) true).run P w = .ok (.tuple #[(lookS l x).getD z, .bool (lookS l x).isSome]) w := by
  obtain ⟨D, h1, h2⟩ := h.ex
  have hv : ∀ v (ps : List MemPlace), selfElem v = some (D.atKey (klit x) (.held z), ps) → v = (lookS l x).getD z := by
    intro v ps hv
    rw [h2.at_ x hx] at hv
    unfold selfElem at hv
    cases hl : lookS l x with
    | none => rw [hl] at hv; simp at hv; simpa using hv.1
    | some u => rw [hl] at hv; simp at hv; simpa using hv.1
  obtain ⟨v, ps, hr, e⟩ := h1.lookup K.law ht hz (zd := .held z) (zp := []) rfl (K.of x hx)
  obtain ⟨u, qs, hr2, e2⟩ := h1.look_ok K.law ht hz (zd := .held z) (zp := []) rfl (K.of x hx)
  rw [hv v ps e] at hr
  rw [hv u qs e2, h2.has x hx] at hr2
  exact ⟨hr, hr2⟩
/-- 'm[k]'. -/
theorem wpList_lookup_map (hg : o.guard = none) (m i : Operand) (t : TypeId) (hop : o.op = Op.lookup t m i false) (k e : TypeId) (K : KeyTwo P k) (ht : P.underlying t = some (.map k e)) {z : Value} (hz : (zeroValue e).run P w = .ok z w)
    (b : Nat) (l : List (KeyT × Value)) (hm : a.eval m = .map (some b)) (h : MapIs P k b l w) (x : KeyT) (hi : a.eval i = kv x) (hx : W64 x)
    (v : Value) (hv : (lookS l x).getD z = v) (hK : wpList P ops Q rest (a.put o.dst v) w) : wpList P ops Q (o :: rest) a w := by
  refine wpList_plain hg fun K' hK' => ?_
  have hrun := (look_is w K ht hz h hx).1
  rw [hv] at hrun
  unfold Oper.wp
  simp [execOp, hop, hm, hi, hrun, Result.andThen]
  exact hK' _ _ hK
/-- 'v, ok := m[k]'. -/
theorem wpList_lookup_map_ok (hg : o.guard = none) (m i : Operand) (t : TypeId) (hop : o.op = Op.lookup t m i true) (k e : TypeId) (K : KeyTwo P k) (ht : P.underlying t = some (.map k e)) {z : Value} (hz : (zeroValue e).run P w = .ok z w)
    (b : Nat) (l : List (KeyT × Value)) (hm : a.eval m = .map (some b)) (h : MapIs P k b l w) (x : KeyT) (hi : a.eval i = kv x) (hx : W64 x)
    (v : Value) (ok : Bool) (hv : (lookS l x).getD z = v) (hok : (lookS l x).isSome = ok) (hK : wpList P ops Q rest (a.put o.dst (.tuple #[v, .bool ok])) w) : wpList P ops Q (o :: rest) a w := by
  refine wpList_plain hg fun K' hK' => ?_
  have hrun := (look_is w K ht hz h hx).2
  rw [hv, hok] at hrun
  unfold Oper.wp
  simp [execOp, hop, hm, hi, hrun, Result.andThen]
  exact hK' _ _ hK
theorem tidy_of {k : TypeId} (K : KeyTwo P k) {b n : Nat} {D : DataW Value} (h : w.ownsMap P k selfElem b n D) : Maps.Tidy D := h.tidy K.law
/-- 'm[k] = v'. -/
theorem wpList_update_map (hg : o.guard = none) (m i u : Operand) (t : TypeId) (hop : o.op = Op.mapUpdate t m i u) (k e : TypeId) (K : KeyTwo P k) (ht : P.underlying t = some (.map k e))
    (b : Nat) (l : List (KeyT × Value)) (hm : a.eval m = .map (some b)) (h : MapIs P k b l w) (hn : l.length < maxLen) (x : KeyT) (hi : a.eval i = kv x) (hx : W64 x) (v : Value) (hv : a.eval u = v)
    (hK : ∀ w', MapIs P k b (setS l x v) w' → w.grownBy w' (some b) → wpList P ops Q rest (a.put o.dst undef) w') : wpList P ops Q (o :: rest) a w := by
  obtain ⟨D, h1, h2⟩ := h.ex
  refine wpList_mapUpdate_own w hg m i u t hop k e K.law ht selfElem b l.length D hm h1 hn (kv x) v (klit x) hi hv (K.of x hx) (.held v) [] rfl (fun w' h3 hg3 => hK w' ?_ hg3)
  have hr := h2.put K (tidy_of w K h1) hx v
  refine ⟨⟨_, ?_, hr⟩, setS_apart h.apart x v, setS_wf h.wf hx v⟩
  rw [← hr.size]
  exact owns_tight h3
/-- 'delete(m, k)'. -/
theorem wpList_delete_map (hg : o.guard = none) (m i : Operand) (t k : TypeId) (hop : o.op = Op.call { callee := Callee.builtin Builtin.delete, args := #[m, i], argTypes := #[t, k] }) (e : TypeId) (K : KeyTwo P k) (ht : P.underlying t = some (.map k e))
    (b : Nat) (l : List (KeyT × Value)) (hm : a.eval m = .map (some b)) (h : MapIs P k b l w) (x : KeyT) (hi : a.eval i = kv x) (hx : W64 x)
    (hK : ∀ w', MapIs P k b (l.filter (fun p => !decide (p.1 = x))) w' → w.grownBy w' (some b) → wpList P ops Q rest (a.put o.dst (.tuple #[])) w') : wpList P ops Q (o :: rest) a w := by
  obtain ⟨D, h1, h2⟩ := h.ex
  refine wpList_delete_own w hg m i t k hop e K.law ht selfElem b l.length D hm h1 (kv x) (klit x) hi (K.of x hx) (fun w' h3 h4 => hK w' ?_ h4.grown)
  have hr := h2.del K (tidy_of w K h1) h.apart hx
  refine ⟨⟨_, ?_, hr⟩, h.apart.filter _, fun p hp => h.wf p (List.mem_filter.1 hp).1⟩
  rw [← hr.size]
  exact owns_tight h3
/-- 'len(m)'. -/
theorem wpList_len_map (hg : o.guard = none) (m : Operand) (t : TypeId) (hop : o.op = Op.call { callee := Callee.builtin Builtin.len, args := #[m], argTypes := #[t] }) (k e : TypeId) (ht : P.underlying t = some (.map k e))
    (b : Nat) (l : List (KeyT × Value)) (hm : a.eval m = .map (some b)) (h : MapIs P k b l w) (hK : wpList P ops Q rest (a.put o.dst (.int .i64 l.length)) w) : wpList P ops Q (o :: rest) a w := by
  obtain ⟨D, h1, h2⟩ := h.ex
  refine wpList_len_own w hg m t hop k e ht selfElem b l.length D hm h1 ?_
  rw [h2.size]
  exact hK
end

/-- 'for k := range m' under way: block r goes over the map in block b; which keys are still to come. -/
structure RangeIs (P : Program) (k : TypeId) (b r : Nat) (l : List (KeyT × Value)) (todo : KeyT → Bool) (cnt : Nat) (w : World) : Prop where
  ex : ∃ (D : DataW Value) (left : Lit → Bool) (n : Nat), w.ranges P k selfElem b r n D left cnt ∧ RelD D l ∧ ∀ x, W64 x → left (klit x) = todo x
  apart : l.Pairwise (fun p q => p.1 ≠ q.1)
  wf : ∀ p ∈ l, W64 p.1
theorem RangeIs.map {P : Program} {k : TypeId} {b r : Nat} {l : List (KeyT × Value)} {todo : KeyT → Bool} {cnt : Nat} {w : World} (h : RangeIs P k b r l todo cnt w) : MapIs P k b l w := by
  obtain ⟨D, left, n, h1, h2, _⟩ := h.ex
  exact ⟨⟨D, by rw [← h2.size]; exact owns_tight h1.owns, h2⟩, h.apart, h.wf⟩
theorem RangeIs.left_eq {P : Program} {k : TypeId} {b r : Nat} {l : List (KeyT × Value)} {todo : KeyT → Bool} {cnt : Nat} {w : World} (h : RangeIs P k b r l todo cnt w) : w.rangeLeft b r = cnt := by
  obtain ⟨D, left, n, h1, _⟩ := h.ex
  exact h1.left_eq
theorem RangeIs.lt {P : Program} {k : TypeId} {b r : Nat} {l : List (KeyT × Value)} {todo : KeyT → Bool} {cnt : Nat} {w : World} (h : RangeIs P k b r l todo cnt w) : r < w.heap.size := by
  obtain ⟨D, left, n, h1, _⟩ := h.ex
  exact h1.lt
theorem RangeIs.kept {P : Program} {k : TypeId} {b r : Nat} {l : List (KeyT × Value)} {todo : KeyT → Bool} {cnt : Nat} {w w' : World} {row : Option Nat} (h : RangeIs P k b r l todo cnt w) (hg : w.grownBy w' row) (h1 : some b ≠ row) (h2 : some r ≠ row) : RangeIs P k b r l todo cnt w' := by
  obtain ⟨D, left, n, h3, h4, h5⟩ := h.ex
  exact ⟨⟨D, left, n, h3.kept hg h1 h2, h4, h5⟩, h.apart, h.wf⟩
theorem sameKey_klit {P : Program} {k : TypeId} (K : KeyTwo P k) {x y : KeyT} (hx : W64 x) (hy : W64 y) : (klit y).sameKey (klit x) = decide (y = x) := by
  rw [Bool.eq_iff_iff, WideAt.sameKey_iff (isKey x), decide_eq_true_eq]
  exact ⟨K.inj hy hx, fun e => by rw [e]⟩
section
variable {P : Program} (w : World) {ops : Array Oper} {rest : List Oper} {o : Oper} {a : Act} {Q : Exit → Act → World → Prop}
/-- 'range m'. -/
theorem wpList_range_map (hg : o.guard = none) (m : Operand) (t : TypeId) (hop : o.op = Op.range t m) (k e : TypeId) (K : KeyTwo P k) (ht : P.underlying t = some (.map k e)) (b : Nat) (l : List (KeyT × Value)) (hm : a.eval m = .map (some b)) (h : MapIs P k b l w)
    (hK : ∀ w', RangeIs P k b w.heap.size l (fun x => (lookS l x).isSome) l.length w' → w.grownBy w' none → w'.heap.size = w.heap.size + 1 → wpList P ops Q rest (a.put o.dst (.pointer (some ⟨w.heap.size, 0, none⟩))) w') : wpList P ops Q (o :: rest) a w := by
  obtain ⟨D, h1, h2⟩ := h.ex
  refine wpList_range_own w hg m t hop k e K.law ht selfElem b l.length D hm h1 (fun w' h3 h4 h5 => hK w' ⟨⟨D, Maps.has D, l.length, ?_, h2, h2.has⟩, h.apart, h.wf⟩ h4 h5)
  rw [← h2.size] at h3 ⊢
  exact h3
/-- The step. -/
theorem wpList_next_map (hg : o.guard = none) (it : Operand) (hop : o.op = Op.next it false) (k : TypeId) (K : KeyTwo P k) (b r : Nat) (l : List (KeyT × Value)) (todo : KeyT → Bool) (cnt : Nat) (hit : a.eval it = .pointer (some ⟨r, 0, none⟩)) (h : RangeIs P k b r l todo cnt w)
    (hDone : (∀ x, W64 x → todo x = false) → wpList P ops Q rest (a.put o.dst (.tuple #[.bool false])) w)
    (hMore : ∀ (x : KeyT) (v : Value) (w' : World) (cnt' : Nat), W64 x → todo x = true → lookS l x = some v → RangeIs P k b r l (fun y => todo y && !decide (y = x)) cnt' w' → cnt' < cnt → w.grownBy w' (some r) → w'.heap.size = w.heap.size →
      (Instr.entry (.pointer (some ⟨r, 0, none⟩))).run P w' = .ok (.tuple #[.agg #[.int .i64 x.1, .int .i64 x.2], v]) w' → wpList P ops Q rest (a.put o.dst (.tuple #[.bool true, .agg #[.int .i64 x.1, .int .i64 x.2], v])) w') : wpList P ops Q (o :: rest) a w := by
  obtain ⟨D, left, n, h1, h2, h3⟩ := h.ex
  refine wpList_next_ranges w hg it hop k K.law selfElem (kv : KeyT → Value) (id : Value → Value) (fun key kl hkey => by obtain ⟨x, _, e, _⟩ := K.inv key kl hkey; exact ⟨x, e⟩) (fun v y _ => ⟨v, rfl⟩) b r n D left cnt hit h1 (fun _ hl => hDone (fun x hx => by rw [← h3 x hx]; exact hl _)) ?_
  intro x v kl y w' cnt' hkey hlk hv hat hrg hlt hgr hsz hen
  obtain ⟨x', hx, e, rfl⟩ := K.inv _ _ hkey
  obtain rfl := kv_inj e
  have htx : todo x = true := by rw [← h3 x hx]; exact hlk
  have hlook : lookS l x = some v := by
    have h5 := hat (.lit .nil)
    rw [h2.at_ x hx] at h5
    unfold selfElem at hv
    cases hv
    cases hl : lookS l x with
    | none => rw [hl] at h5; simp at h5
    | some u =>
      rw [hl] at h5
      simp only [DataW.held.injEq] at h5
      exact congrArg some h5
  refine hMore x v w' cnt' hx htx hlook ⟨⟨D, _, n, hrg, h2, fun y hy => ?_⟩, h.apart, h.wf⟩ hlt hgr hsz hen
  show (left (klit y) && !(klit y).sameKey (klit x)) = _
  rw [h3 y hy, sameKey_klit K hx hy]
/-- 'delete(m, k)' in the round. -/
theorem wpList_delete_range (hg : o.guard = none) (m i : Operand) (t k : TypeId) (hop : o.op = Op.call { callee := Callee.builtin Builtin.delete, args := #[m, i], argTypes := #[t, k] }) (e : TypeId) (K : KeyTwo P k) (ht : P.underlying t = some (.map k e))
    (b r : Nat) (l : List (KeyT × Value)) (todo : KeyT → Bool) (cnt : Nat) (hm : a.eval m = .map (some b)) (h : RangeIs P k b r l todo cnt w) (x : KeyT) (hi : a.eval i = kv x) (hx : W64 x)
    (hK : ∀ w' cnt', RangeIs P k b r (l.filter (fun p => !decide (p.1 = x))) (fun y => todo y && !decide (y = x)) cnt' w' → cnt' ≤ cnt → w.grownBy w' (some b) → wpList P ops Q rest (a.put o.dst (.tuple #[])) w') : wpList P ops Q (o :: rest) a w := by
  obtain ⟨D, left, n, h1, h2, h3⟩ := h.ex
  refine wpList_delete_ranges w hg m i t k hop e K.law ht selfElem b r n D left cnt hm h1 (kv x) (klit x) hi (K.of x hx) (fun w' cnt' hrg hle hturn => hK w' cnt' ⟨⟨_, _, n, hrg, h2.del K (h1.owns.tidy K.law) h.apart hx, fun y hy => ?_⟩, h.apart.filter _, fun p hp => h.wf p (List.mem_filter.1 hp).1⟩ hle hturn.grown)
  show (left (klit y) && !(klit y).sameKey (klit x)) = _
  rw [h3 y hy, sameKey_klit K hx hy]
end
end Go.Proofs.Ytejkboahjfcdcaa
