/- 'm[k] = append(m[k], ..)': an entry of a map by two whole numbers that is held ready, and then filled; a nil map. No program in this text. -/
import Derived.WideKeyEntry
import Derived.Laws.IdiomRangeMap
import Derived.Test.YtejkboahjfcdcaaStMap
import Derived.Test.YtejkboahjfcdcaaHeldBy
namespace Go.Proofs.Ytejkboahjfcdcaa
open Go.RowKit
open Go.Maps (Keyed)
open Go.ChangeMaps (setBlock)
set_option linter.unusedVariables false

theorem KeyTwo.deep {P : Program} {k : TypeId} (K : KeyTwo P k) : Go.WideMaps.KeyLaw P k where
  str h := by
    obtain ⟨x, _, _, e⟩ := K.inv _ _ h
    exact ⟨_, e⟩
  inj := K.law.inj
  check := K.law.check
  find := K.law.find
  stays := K.law.stays
theorem heap_setBlock (w : World) {b : Nat} {o o' : Obj} (h : w.heap[b]? = some o) : (setBlock w b o').heap[b]? = some o' := by
  have hlt := (Array.getElem?_eq_some_iff.1 h).1
  show (w.heap.setIfInBounds b o')[b]? = _
  rw [Array.getElem?_setIfInBounds, if_pos rfl, if_pos hlt]
theorem sav_setBlock (w : World) (b : Nat) (o : Obj) : Sav (Just b) w (setBlock w b o) :=
  ⟨rfl, rfl, rfl, by simp [setBlock], fun k _ hn => by
    show (w.heap.setIfInBounds b o)[k]? = _
    rw [Array.getElem?_setIfInBounds, if_neg (fun e => hn e.symm)]⟩
theorem size_setBlock (w : World) (b : Nat) (o : Obj) : (setBlock w b o).heap.size = w.heap.size := by simp [setBlock]
theorem setBlock_inj {w : World} {b : Nat} {o o1 o2 : Obj} (h : w.heap[b]? = some o) (e : setBlock w b o1 = setBlock w b o2) : o1 = o2 := by
  have h1 := heap_setBlock w (o' := o1) h
  rw [e, heap_setBlock w (o' := o2) h] at h1
  exact (Option.some.inj h1).symm
theorem key_once : ∀ {l : List MapEntry}, l.Pairwise (fun x y => x.key ≠ y.key) → ∀ {a b : MapEntry}, a ∈ l → b ∈ l → a.key = b.key → a = b
  | [], _, _, _, h, _, _ => nomatch h
  | r :: l, hp, a, b, ha, hb, e => by
    have h1 := List.pairwise_cons.1 hp
    rcases List.mem_cons.1 ha with ea | ha2
    · rcases List.mem_cons.1 hb with eb | hb2
      · rw [ea, eb]
      · rw [ea] at e
        exact absurd e (h1.1 b hb2)
    · rcases List.mem_cons.1 hb with eb | hb2
      · rw [eb] at e
        exact absurd e.symm (h1.1 a ha2)
      · exact key_once h1.2 ha2 hb2 e
/-- An entry is held ready; whatever is made of the world but its map, it is then filled, as a store would have. -/
theorem MapIs.entry {P : Program} {k e t : TypeId} (K : KeyTwo P k) (ht : P.underlying t = some (.map k e)) {z : Value} (hz : ∀ u : World, (zeroValue e).run P u = .ok z u) {b : Nat} {l : List (KeyT × Value)} {w : World} (h : MapIs P k b l w) (hn : l.length < maxLen) {x : KeyT} (hx : W64 x) :
    ∃ (st : Int) (es : Array MapEntry) (c : Nat), (Instr.mapEntry t (.map (some b)) (kv x)).run P w = .ok (.tuple #[(lookS l x).getD z, .int .i64 st]) (setBlock w b (.map es c)) ∧
      ∀ (w2 : World) (v : Value), w2.heap[b]? = some (.map es c) → ∃ w3, (Instr.entryStore t (.map (some b)) (.int .i64 st) v).run P w2 = .ok () w3 ∧ MapIs P k b (setS l x v) w3 ∧ Sav (Just b) w2 w3 := by
  obtain ⟨D, h1, h2⟩ := id h.ex
  obtain ⟨es0, clock, hb, F, hs, hD⟩ := id h1
  obtain ⟨v0, st, es1, c1, r1, r2, r3⟩ := Go.WideElems.entry_then_store (H := Value) K.deep ht hz hb F (K.of x hx)
  have hl := (look_is w K ht (hz w) h hx).1
  have hv0 : v0 = (lookS l x).getD z := by
    rcases Maps.fit_look false K.law ht (hz w) hb F (K.of x hx) with ⟨hrun, hno, -⟩ | ⟨e0, y, hm, hk, hrun, -, -, -⟩
    · rw [hl] at hrun
      rcases r2 with ⟨e1, he1, hk1, -⟩ | ⟨-, rfl⟩
      · exact absurd hk1 (hno e1 he1)
      · simpa using hrun.symm
    · rw [hl] at hrun
      rcases r2 with ⟨e1, he1, hk1, rfl⟩ | ⟨hno, -⟩
      · have hp := ((MapKept.stamped_iff es0 clock).1 F.stamped).2.2
        have := key_once hp he1 hm (by rw [hk1, hk])
        rw [this]
        simpa using hrun.symm
      · exact absurd hk (hno e0 hm)
  refine ⟨(st : Int), es1, c1, by rw [← hv0]; exact r1, fun w2 v hw2 => ?_⟩
  obtain ⟨es', clock', r4, r5⟩ := r3 w2 v hw2
  obtain ⟨w', hrun, ho', hg'⟩ := h1.update K.law ht hn (K.of x hx) (val := v) (d := .held v) (ps := []) rfl
  rw [r5] at hrun
  obtain rfl : setBlock w b (.map es' clock') = w' := by simpa using hrun
  refine ⟨_, r4, ?_, sav_setBlock _ _ _⟩
  have hr := h2.put K (tidy_of w K h1) hx v
  obtain ⟨es2, clock2, hb2, F2, hs2, hD2⟩ := owns_tight ho'
  rw [heap_setBlock w hb] at hb2
  obtain ⟨rfl, rfl⟩ : es' = es2 ∧ clock' = clock2 := by simpa using hb2
  exact ⟨⟨_, by rw [← hr.size]; exact ⟨es', clock', heap_setBlock w2 hw2, F2, hs2, hD2⟩, hr⟩, setS_apart h.apart x v, setS_wf h.wf hx v⟩
end Go.Proofs.Ytejkboahjfcdcaa
