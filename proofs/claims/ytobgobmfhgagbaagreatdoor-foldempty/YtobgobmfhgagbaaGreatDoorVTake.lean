/- take of the program's machine: what is needed is taken off the stack. -/
import Derived.Test.YtobgobmfhgagbaaGreatDoorVPush
namespace Go.Proofs.YtobgobmfhgagbaaGreatDoor
open Go.RowKit Go.Lib
set_option linter.unusedVariables false
set_option maxRecDepth 100000

/-- A value's three cells. -/
def tri : Val → Bool × Int × ByteArray
  | .num n => (false, n, ⟨#[]⟩)
  | .text s => (true, 0, s)
theorem encV_tri (a : Val) : encV a = [.bool (tri a).1, .int .i64 (tri a).2.1, .string (tri a).2.2] := by cases a <;> rfl
theorem vV_tri (a : Val) : vV a = .agg #[.bool (tri a).1, .int .i64 (tri a).2.1, .string (tri a).2.2] := by cases a <;> rfl
abbrev zV : Val := .num 0
/-- Three values, one behind the other. -/
abbrev nine (a b c : Val) : Array Value := #[.bool (tri a).1, .int .i64 (tri a).2.1, .string (tri a).2.2, .bool (tri b).1, .int .i64 (tri b).2.1, .string (tri b).2.2, .bool (tri c).1, .int .i64 (tri c).2.1, .string (tri c).2.2]
abbrev triV (a : Val) : Value := .agg #[.bool (tri a).1, .int .i64 (tri a).2.1, .string (tri a).2.2]
abbrev opV (a b c : Val) : Value := .agg (nine a b c)
def encK (k : Int) : List Value := [.int .i64 k]
theorem encK_len : ∀ x, (encK x).length = 1 := fun _ => rfl
/-- Does a value fit what is needed? -/
def fitsT (k : Int) (t : Bool) : Bool := k == 0 || ((k == 2) == t)
def sel (av : List Val) (k j : Nat) : Val := if j < k then av.getD j zV else zV

theorem fits_calls (k : Int) (t : Bool) (n : Int) (s : ByteArray) (w : World) : Calls Tryz.prog 108 #[.int .i64 k, .agg #[.bool t, .int .i64 n, .string s]] w fun e w' => e = .returned (.bool (fitsT k t)) ∧ Below w.heap.size w w' := by
  have hb : ∀ o1, Below w.heap.size w (w.alloc o1) := fun o1 => alloc1 w o1
  unfold fitsT
  by_cases h0 : k = 0
  · subst h0
    go_enter Tryz.func108, Tryz.ntmps108
    go_wp2
    go_ret
    exact ⟨rfl, hb _⟩
  · have e0 : (k == 0) = false := by simpa using h0
    rw [e0]
    by_cases h2 : k = 2
    · subst h2
      cases t <;>
      (go_enter Tryz.func108, Tryz.ntmps108
       go_wp2
       go_ret
       exact ⟨rfl, hb _⟩)
    · have e2 : (k == 2) = false := by simpa using h2
      rw [e2]
      cases t <;>
      (go_enter Tryz.func108, Tryz.ntmps108
       go_wp2
       go_ret
       exact ⟨rfl, hb _⟩)

section
variable {w : World} {G : Nat} {a b c : Val} {t : TypeId}
theorem nine_one (a b c : Val) : (nine a b c).all (·.oneCell') = true := by simp [Value.oneCell']
theorem nine0 (h : w.heap[G]? = some (.cells (nine a b c) t (0, 0))) (x : Val) : (((w.setCell ⟨G, 0, none⟩ (.bool (tri x).1)).setCell ⟨G, 1, none⟩ (.int .i64 (tri x).2.1)).setCell ⟨G, 2, none⟩ (.string (tri x).2.2)).heap[G]? = some (.cells (nine x b c) t (0, 0)) :=
  heap_setCell_same _ G 2 _ _ _ (heap_setCell_same _ G 1 _ _ _ (heap_setCell_same w G 0 _ _ _ h))
theorem nine1 (h : w.heap[G]? = some (.cells (nine a b c) t (0, 0))) (x : Val) : (((w.setCell ⟨G, 3, none⟩ (.bool (tri x).1)).setCell ⟨G, 4, none⟩ (.int .i64 (tri x).2.1)).setCell ⟨G, 5, none⟩ (.string (tri x).2.2)).heap[G]? = some (.cells (nine a x c) t (0, 0)) :=
  heap_setCell_same _ G 5 _ _ _ (heap_setCell_same _ G 4 _ _ _ (heap_setCell_same w G 3 _ _ _ h))
theorem nine2 (h : w.heap[G]? = some (.cells (nine a b c) t (0, 0))) (x : Val) : (((w.setCell ⟨G, 6, none⟩ (.bool (tri x).1)).setCell ⟨G, 7, none⟩ (.int .i64 (tri x).2.1)).setCell ⟨G, 8, none⟩ (.string (tri x).2.2)).heap[G]? = some (.cells (nine a b x) t (0, 0)) :=
  heap_setCell_same _ G 8 _ _ _ (heap_setCell_same _ G 7 _ _ _ (heap_setCell_same w G 6 _ _ _ h))
theorem set3_heap {i1 i2 i3 g : Nat} {x y z : Value} (hne : g ≠ G) : (((w.setCell ⟨G, i1, none⟩ x).setCell ⟨G, i2, none⟩ y).setCell ⟨G, i3, none⟩ z).heap[g]? = w.heap[g]? := by
  rw [Below.heap_setCell _ _ _ _ hne, Below.heap_setCell _ _ _ _ hne, Below.heap_setCell _ _ _ _ hne]
theorem below_set3 {w0 : World} {B : Nat} (h : Below B w0 w) (hb : B ≤ G) (i1 i2 i3 : Nat) (x y z : Value) : Below B w0 (((w.setCell ⟨G, i1, none⟩ x).setCell ⟨G, i2, none⟩ y).setCell ⟨G, i3, none⟩ z) := below_set (below_set (below_set h hb _ _) hb _ _) hb _ _
theorem below_row {w0 : World} {B : Nat} (h : Below B w0 w) (hb : B ≤ G) (cs : Array Value) : Below B w0 (w.setRow G cs) :=
  ⟨h.os, h.tape, h.output, by simpa using h.size, fun k hk => (setRow_other w G k cs (by omega)).trans (h.block k hk)⟩
theorem below_both {w' : World} {B g j : Nat} {v : Value} (h : Below B w w') (hg : g < B) : Below B (w.setCell ⟨g, j, none⟩ v) (w'.setCell ⟨g, j, none⟩ v) := by
  refine ⟨h.os, h.tape, h.output, by simpa [World.setCell] using h.size, fun k hk => ?_⟩
  by_cases e : k = g
  · subst e
    have := h.block k hk
    simp only [World.setCell, Array.getElem?_modify, if_true, this]
  · rw [Below.heap_setCell _ _ _ _ e, Below.heap_setCell _ _ _ _ e]
    exact h.block k hk
end
theorem sel0 (av : List Val) (j : Nat) : sel av 0 j = zV := rfl
theorem sel_lt {av : List Val} {k j : Nat} (h : j < k) : sel av k j = av.getD j zV := by unfold sel; rw [if_pos h]
theorem sel_ge {av : List Val} {k j : Nat} (h : k ≤ j) : sel av k j = zV := by unfold sel; rw [if_neg (by omega)]
theorem set_same {w : World} {b j : Nat} {cs : Array Value} {t : TypeId} {v : Value} (h : w.heap[b]? = some (.cells cs t (0, 0))) (hv : cs[j]? = some v) : w.setCell ⟨b, j, none⟩ v = w := by
  obtain ⟨hj, hv⟩ := Array.getElem?_eq_some_iff.1 hv
  have e : cs.setIfInBounds j v = cs := by
    apply Array.ext_getElem?
    intro k
    by_cases hk : j = k
    · subst hk
      rw [set_self hj, Array.getElem?_eq_getElem hj, hv]
    · rw [Array.getElem?_setIfInBounds_ne hk]
  have hh : (w.setCell ⟨b, j, none⟩ v).heap = w.heap := by
    apply Array.ext_getElem?
    intro k
    by_cases hk : k = b
    · subst hk
      rw [set_block h, e, h]
    · exact Below.heap_setCell _ _ _ _ hk
  have : (w.setCell ⟨b, j, none⟩ v) = { w with heap := (w.setCell ⟨b, j, none⟩ v).heap } := by unfold World.setCell; rfl
  rw [this, hh]
/-- The kinds that are needed, as they lie. -/
theorem ks_cell {w : World} {kb ko : Nat} {ks : List Int} (h : ∀ j x, ks[j]? = some x → ∀ k u, (encK x)[k]? = some u → w.cell? ⟨kb, ko + j * 1 + k, none⟩ = some u) {j : Nat} (hj : j < ks.length) : w.cell? ⟨kb, ko + j, none⟩ = some (.int .i64 (ks.getD j 0)) := by
  have := h j ks[j] (List.getElem?_eq_getElem hj) 0 _ rfl
  rw [List.getD_eq_getElem?_getD, List.getElem?_eq_getElem hj]
  simpa using this
theorem st_cell {w : World} {g off : Nat} {l av s : List Val} (h : ∀ j x, l[j]? = some x → ∀ k u, (encV x)[k]? = some u → w.cell? ⟨g, off + j * 3 + k, none⟩ = some u) (hl : l = s.reverse ++ av) {k : Nat} (hk : k < av.length) :
    w.cell? ⟨g, off + (s.length + k) * 3, none⟩ = some (.bool (tri (av.getD k zV)).1) ∧ w.cell? ⟨g, off + (s.length + k) * 3 + 1, none⟩ = some (.int .i64 (tri (av.getD k zV)).2.1) ∧ w.cell? ⟨g, off + (s.length + k) * 3 + 2, none⟩ = some (.string (tri (av.getD k zV)).2.2) := by
  have hx : l[s.length + k]? = some (av.getD k zV) := by
    rw [hl, List.getElem?_append_right (by simp), List.getD_eq_getElem?_getD, List.length_reverse, Nat.add_sub_cancel_left, List.getElem?_eq_getElem hk]
    rfl
  have h0 := h _ _ hx 0 _ (by rw [encV_tri]; rfl)
  have h1 := h _ _ hx 1 _ (by rw [encV_tri]; rfl)
  have h2 := h _ _ hx 2 _ (by rw [encV_tri]; rfl)
  exact ⟨h0, h1, h2⟩
theorem fits_more {ks : List Int} {av : List Val} {k : Nat} (h : ∀ q, q < k → fitsT (ks.getD q 0) (tri (av.getD q zV)).1 = true) (h1 : fitsT (ks.getD k 0) (tri (av.getD k zV)).1 = true) : ∀ q, q < k + 1 → fitsT (ks.getD q 0) (tri (av.getD q zV)).1 = true := by
  intro q hq
  by_cases e : q = k
  · subst e; exact h1
  · exact h q (by omega)

variable {E : Fx} {vs vt : Value} {m : St} {i : Int} {d : Nat} {w : World}
set_option maxHeartbeats 2000000 in
/-- Too few. -/
theorem take_under (h : VMac E m i d w) {v : Value} {ks : List Int} (hv : Reads 1 encK w v ks) (hk : m.stack.length < ks.length) (h3 : ks.length ≤ 3) :
    Calls Tryz.prog 99 #[.pointer (some ⟨E.b, 0, none⟩), v] w fun e w' => e = .returned (.tuple #[opV zV zV zV, .int .i64 1]) ∧ VMac E m i d w' := by
  obtain ⟨vs, vt, h⟩ := h
  obtain ⟨vs0, vs2, rfl⟩ := own_slice h.st
  obtain ⟨ao, cap, rfl, h1, h2, -, -⟩ := hv
  have H := hid (fun o1 o2 => ((h.on (alloc1 w o1)).on (alloc1 _ o2)))
  have c4 : ((w.alloc (Obj.cells #[.bool false, .int .i64 0, .string ⟨#[]⟩, .bool false, .int .i64 0, .string ⟨#[]⟩, .bool false, .int .i64 0, .string ⟨#[]⟩] 138)).alloc (Obj.cells #[.bool false, .int .i64 0, .string ⟨#[]⟩, .bool false, .int .i64 0, .string ⟨#[]⟩, .bool false, .int .i64 0, .string ⟨#[]⟩] 138)).cell? ⟨E.b, 4, none⟩ = some (.slice vs0 m.stack.length vs2) := ((h.on (alloc1 w _)).on (alloc1 _ _)).cS
  have hd : decide ((m.stack.length : Int) - (ks.length : Int) < 0) = true := by simp; omega
  have hd2 : (m.stack.length : Int) - (ks.length : Int) < 0 := by omega
  generalize m.stack.length = N at *
  clear h
  go_enter Tryz.func99, Tryz.ntmps99
  go_wp2
  refine bodyPost_ret (v := .tuple #[opV zV zV zV, .int .i64 1]) (by simp [results, Tryz.results99, go_sem, tri]) rfl ⟨rfl, _, _, H.out _ _⟩

set_option maxHeartbeats 4000000 in
/-- Enough: of the kinds that are needed, or not. -/
theorem take_enough (h : VMac E m i d w) {v : Value} {ks : List Int} (hv : Reads 1 encK w v ks) {av s : List Val} (hst : m.stack = av.reverse ++ s) (hl : av.length = ks.length) (h3 : ks.length ≤ 3) (h0 : 0 < ks.length) (hs : s.length ≤ 16) :
    Calls Tryz.prog 99 #[.pointer (some ⟨E.b, 0, none⟩), v] w fun e w' =>
      ((∀ k, k < ks.length → fitsT (ks.getD k 0) (tri (av.getD k zV)).1 = true) → e = .returned (.tuple #[opV (sel av ks.length 0) (sel av ks.length 1) (sel av ks.length 2), .int .i64 0]) ∧ VMac E { m with stack := s } i d w') ∧
      ((∃ k, k < ks.length ∧ fitsT (ks.getD k 0) (tri (av.getD k zV)).1 = false) → e = .returned (.tuple #[opV zV zV zV, .int .i64 2]) ∧ VMac E m i d w') := by
  obtain ⟨vs, vt, h⟩ := h
  obtain ⟨vs0, vs2, rfl⟩ := own_slice h.st
  obtain ⟨ao, cap, rfl, h1, h2, -, h5⟩ := hv
  obtain ⟨kb, ko, rfl, hkb, hkc⟩ := h5 (by intro e; rw [e] at h0; simp at h0)
  have hN : m.stack.length = s.length + ks.length := by rw [hst]; simp; omega
  have hR : Vls w (.slice vs0 m.stack.length vs2) m.stack.reverse := Reads.own encV_len (by decide) h.st
  obtain ⟨g, off, cap2, heq, hl2, hgl, hgc⟩ := hR.lie (by intro e; have := congrArg List.length e; simp at this; rw [this] at hN; simp at hN; omega)
  simp only [List.length_reverse, Value.slice.injEq, true_and] at heq
  obtain ⟨rfl, rfl⟩ := heq
  have hrev : m.stack.reverse = s.reverse ++ av := by rw [hst, List.reverse_append, List.reverse_reverse]
  have hown : w.ownsRow E.w0.heap.size 81 3 (.slice (some ⟨g, off, none⟩) s.length vs2) s.length (fl encV s.reverse) := by
    have := h.st
    rw [hrev, fl_append] at this
    exact owns_cut this (by omega) (by rw [fl_length encV_len]; simp)
  have HO := hid (h.stack (l := s) hown)
  have HG := hid (fun k (hk : k < av.length) => st_cell hgc hrev hk)
  have HK := hid (fun k (hk : k < ks.length) => ks_cell hkc hk)
  have H := hid h
  have hbl := h.lt
  have c4 : ((w.alloc (Obj.cells #[.bool false, .int .i64 0, .string ⟨#[]⟩, .bool false, .int .i64 0, .string ⟨#[]⟩, .bool false, .int .i64 0, .string ⟨#[]⟩] 138)).alloc (Obj.cells #[.bool false, .int .i64 0, .string ⟨#[]⟩, .bool false, .int .i64 0, .string ⟨#[]⟩, .bool false, .int .i64 0, .string ⟨#[]⟩] 138)).cell? ⟨E.b, 4, none⟩ = some (.slice (some ⟨g, off, none⟩) m.stack.length vs2) := ((h.on (alloc1 w _)).on (alloc1 _ _)).cS
  have hd : decide ((m.stack.length : Int) - (ks.length : Int) < 0) = false := by simp; omega
  have hlow : (m.stack.length : Int) - (ks.length : Int) = (s.length : Int) := by omega
  have HBW := hid (show Below w.heap.size w ((w.alloc (Obj.cells #[.bool false, .int .i64 0, .string ⟨#[]⟩, .bool false, .int .i64 0, .string ⟨#[]⟩, .bool false, .int .i64 0, .string ⟨#[]⟩] 138)).alloc (Obj.cells #[.bool false, .int .i64 0, .string ⟨#[]⟩, .bool false, .int .i64 0, .string ⟨#[]⟩, .bool false, .int .i64 0, .string ⟨#[]⟩] 138)) from below_then (alloc1 w _) (alloc1 _ _) (by simp))
  have HR0 := hid (show ((w.alloc (Obj.cells #[.bool false, .int .i64 0, .string ⟨#[]⟩, .bool false, .int .i64 0, .string ⟨#[]⟩, .bool false, .int .i64 0, .string ⟨#[]⟩] 138)).alloc (Obj.cells #[.bool false, .int .i64 0, .string ⟨#[]⟩, .bool false, .int .i64 0, .string ⟨#[]⟩, .bool false, .int .i64 0, .string ⟨#[]⟩] 138)).heap[w.heap.size]? = some (.cells #[.bool false, .int .i64 0, .string ⟨#[]⟩, .bool false, .int .i64 0, .string ⟨#[]⟩, .bool false, .int .i64 0, .string ⟨#[]⟩] 138 (0, 0)) from ((alloc1 _ _).block _ (by simp)).trans (new_block _ _))
  have HG0 := hid (show ((w.alloc (Obj.cells #[.bool false, .int .i64 0, .string ⟨#[]⟩, .bool false, .int .i64 0, .string ⟨#[]⟩, .bool false, .int .i64 0, .string ⟨#[]⟩] 138)).alloc (Obj.cells #[.bool false, .int .i64 0, .string ⟨#[]⟩, .bool false, .int .i64 0, .string ⟨#[]⟩, .bool false, .int .i64 0, .string ⟨#[]⟩] 138)).heap[w.heap.size + 1]? = some (.cells (nine zV zV zV) 138 (0, 0)) from by
    have := new_block (w.alloc (Obj.cells #[.bool false, .int .i64 0, .string ⟨#[]⟩, .bool false, .int .i64 0, .string ⟨#[]⟩, .bool false, .int .i64 0, .string ⟨#[]⟩] 138)) (Obj.cells #[.bool false, .int .i64 0, .string ⟨#[]⟩, .bool false, .int .i64 0, .string ⟨#[]⟩, .bool false, .int .i64 0, .string ⟨#[]⟩] 138)
    rw [show (w.alloc (Obj.cells #[.bool false, .int .i64 0, .string ⟨#[]⟩, .bool false, .int .i64 0, .string ⟨#[]⟩, .bool false, .int .i64 0, .string ⟨#[]⟩] 138)).heap.size = w.heap.size + 1 by simp] at this
    exact this)
  have hcap : s.length ≤ vs2 := by simp only [List.length_reverse] at hl2; omega
  clear hgc hR hkc h5 h hown hrev hl2
  obtain ⟨N, eN⟩ : ∃ N, m.stack.length = N := ⟨_, rfl⟩
  rw [eN] at hN c4 hd hlow H
  go_enter Tryz.func99, Tryz.ntmps99
  go_wp2
  go_loopw [23] (fun j wr => ∃ k : Nat, k ≤ ks.length ∧ j = .int .i64 k ∧ Below w.heap.size w wr ∧ wr.heap[w.heap.size]? = some (.cells #[.bool false, .int .i64 0, .string ⟨#[]⟩, .bool false, .int .i64 0, .string ⟨#[]⟩, .bool false, .int .i64 0, .string ⟨#[]⟩] 138 (0, 0)) ∧ wr.heap[w.heap.size + 1]? = some (.cells (nine (sel av k 0) (sel av k 1) (sel av k 2)) 138 (0, 0)) ∧ ∀ q, q < k → fitsT (ks.getD q 0) (tri (av.getD q zV)).1 = true) (fun j _ => ks.length - (Go.RowKit.intOf j).toNat)
  case atStart => exact ⟨0, by omega, rfl, HBW.out, HR0.out, HG0.out, fun q hq => by omega⟩
  case round =>
    clear c4
    obtain ⟨k, hk, rfl, hbel, hr, hg, hf⟩ := hrel
    have HW := hid hbel
    have HR := hid hr
    have HB := hid hg
    have HF := hid hf
    clear hbel hr hg hf HBW HR0 HG0
    have H3 := hid (H.out.on HW.out)
    have c4 := H3.out.cS
    have f4 := H3.out.free 4
    by_cases hkl : k < ks.length
    · have hkl' : k = 0 ∨ k = 1 ∨ k = 2 := by omega
      have ck : wr.cell? ⟨kb, ko + k, none⟩ = some (.int .i64 (ks.getD k 0)) := (HW.out.cell (p := ⟨kb, ko + k, none⟩) hkb).trans (HK.out k hkl)
      have s0 : wr.cell? ⟨g, off + (s.length + k) * 3, none⟩ = _ := (HW.out.cell (p := ⟨g, _, none⟩) hgl).trans (HG.out k (by omega)).1
      have s1 : wr.cell? ⟨g, off + (s.length + k) * 3 + 1, none⟩ = _ := (HW.out.cell (p := ⟨g, _, none⟩) hgl).trans (HG.out k (by omega)).2.1
      have s2 : wr.cell? ⟨g, off + (s.length + k) * 3 + 2, none⟩ = _ := (HW.out.cell (p := ⟨g, _, none⟩) hgl).trans (HG.out k (by omega)).2.2
      have hd4 : decide ((k : Int) < (ks.length : Int)) = true := by simp; omega
      have HX := hid (show ∀ b, fitsT (ks.getD k 0) (tri (av.getD k zV)).1 = b → fitsT (ks.getD k 0) (tri (av.getD k zV)).1 = b from fun _ h => h)
      obtain ⟨x, ex⟩ : ∃ x, x = av.getD k zV := ⟨_, rfl⟩
      obtain ⟨kk, ekk⟩ : ∃ kk, kk = ks.getD k 0 := ⟨_, rfl⟩
      rw [← ex] at s0 s1 s2
      rw [← ekk] at ck
      have EX := hid ex
      have EK := hid ekk
      clear ex ekk
      have hgb : g ≠ w.heap.size + 1 := by omega
      rcases hkl' with rfl | rfl | rfl
      · have HB1 := hid (show wr.heap[w.heap.size + 1]? = some (.cells (nine zV zV zV) 138 (0, 0)) from HB.out)
        have p0 : wr.cell? ⟨w.heap.size + 1, 0, none⟩ = some (.bool (tri zV).1) := cell_of_cells HB1.out
        have p1 : wr.cell? ⟨w.heap.size + 1, 1, none⟩ = some (.int .i64 (tri zV).2.1) := cell_of_cells HB1.out
        have p2 : wr.cell? ⟨w.heap.size + 1, 2, none⟩ = some (.string (tri zV).2.2) := cell_of_cells HB1.out
        have z0 : wr.frozen? ⟨w.heap.size + 1, 0, none⟩ = false := free_of_cells HB1.out
        have z1 : wr.frozen? ⟨w.heap.size + 1, 1, none⟩ = false := free_of_cells HB1.out
        have z2 : wr.frozen? ⟨w.heap.size + 1, 2, none⟩ = false := free_of_cells HB1.out
        have HB2 := hid (nine0 HB1.out x)
        have q0 : (((wr.setCell ⟨w.heap.size + 1, 0, none⟩ (.bool (tri x).1)).setCell ⟨w.heap.size + 1, 1, none⟩ (.int .i64 (tri x).2.1)).setCell ⟨w.heap.size + 1, 2, none⟩ (.string (tri x).2.2)).cell? ⟨w.heap.size + 1, 0, none⟩ = some (.bool (tri x).1) := cell_of_cells HB2.out
        have q1 : (((wr.setCell ⟨w.heap.size + 1, 0, none⟩ (.bool (tri x).1)).setCell ⟨w.heap.size + 1, 1, none⟩ (.int .i64 (tri x).2.1)).setCell ⟨w.heap.size + 1, 2, none⟩ (.string (tri x).2.2)).cell? ⟨w.heap.size + 1, 1, none⟩ = some (.int .i64 (tri x).2.1) := cell_of_cells HB2.out
        have q2 : (((wr.setCell ⟨w.heap.size + 1, 0, none⟩ (.bool (tri x).1)).setCell ⟨w.heap.size + 1, 1, none⟩ (.int .i64 (tri x).2.1)).setCell ⟨w.heap.size + 1, 2, none⟩ (.string (tri x).2.2)).cell? ⟨w.heap.size + 1, 2, none⟩ = some (.string (tri x).2.2) := cell_of_cells HB2.out
        have HW2 := hid (show Below w.heap.size w (((wr.setCell ⟨w.heap.size + 1, 0, none⟩ (.bool (tri x).1)).setCell ⟨w.heap.size + 1, 1, none⟩ (.int .i64 (tri x).2.1)).setCell ⟨w.heap.size + 1, 2, none⟩ (.string (tri x).2.2)) from below_set3 HW.out (by omega) _ _ _ _ _ _)
        have HR2 := hid (show (((wr.setCell ⟨w.heap.size + 1, 0, none⟩ (.bool (tri x).1)).setCell ⟨w.heap.size + 1, 1, none⟩ (.int .i64 (tri x).2.1)).setCell ⟨w.heap.size + 1, 2, none⟩ (.string (tri x).2.2)).heap[w.heap.size]? = _ from (set3_heap (by omega)).trans HR.out)
        try simp only [Nat.add_zero] at s0 s1 s2 ck
        go_wp2_with fail
        refine (fits_calls kk (tri x).1 (tri x).2.1 (tri x).2.2 _).mono ?_
        rintro e w5 ⟨rfl, hb5⟩
        have HW5 := hid (below_then HW2.out hb5 HW2.out.size)
        have HR5 := hid ((hb5.block _ (Array.getElem?_eq_some_iff.1 HR2.out).1).trans HR2.out)
        have HB5 := hid ((hb5.block _ (Array.getElem?_eq_some_iff.1 HB2.out).1).trans HB2.out)
        clear hb5 HW2 HR2 HB2 q0 q1 q2 p0 p1 p2 z0 z1 z2 s0 s1 s2 ck
        by_cases hfit : fitsT kk (tri x).1 = true
        · go_wp2
          go_roundw
          case rel => exact ⟨0 + 1, by omega, by go_num, HW5.out, HR5.out, by
            have e := HB5.out
            rw [EX.out] at e
            exact e, fits_more HF.out (by rw [← EX.out, ← EK.out]; exact hfit)⟩
          case measure => simp [Go.RowKit.intOf]; omega
        · have hfit : fitsT kk (tri x).1 = false := by simpa using hfit
          have i0 : w5.setCell ⟨w.heap.size, 0, none⟩ (.bool false) = w5 := set_same HR5.out rfl
          have r0 : w5.cell? ⟨w.heap.size, 0, none⟩ = some (.bool false) := cell_of_cells HR5.out
          have y0 : w5.frozen? ⟨w.heap.size, 0, none⟩ = false := free_of_cells HR5.out
          have i1 : w5.setCell ⟨w.heap.size, 1, none⟩ (.int .i64 0) = w5 := set_same HR5.out rfl
          have r1 : w5.cell? ⟨w.heap.size, 1, none⟩ = some (.int .i64 0) := cell_of_cells HR5.out
          have y1 : w5.frozen? ⟨w.heap.size, 1, none⟩ = false := free_of_cells HR5.out
          have i2 : w5.setCell ⟨w.heap.size, 2, none⟩ (.string ⟨#[]⟩) = w5 := set_same HR5.out rfl
          have r2 : w5.cell? ⟨w.heap.size, 2, none⟩ = some (.string ⟨#[]⟩) := cell_of_cells HR5.out
          have y2 : w5.frozen? ⟨w.heap.size, 2, none⟩ = false := free_of_cells HR5.out
          have i3 : w5.setCell ⟨w.heap.size, 3, none⟩ (.bool false) = w5 := set_same HR5.out rfl
          have r3 : w5.cell? ⟨w.heap.size, 3, none⟩ = some (.bool false) := cell_of_cells HR5.out
          have y3 : w5.frozen? ⟨w.heap.size, 3, none⟩ = false := free_of_cells HR5.out
          have i4 : w5.setCell ⟨w.heap.size, 4, none⟩ (.int .i64 0) = w5 := set_same HR5.out rfl
          have r4 : w5.cell? ⟨w.heap.size, 4, none⟩ = some (.int .i64 0) := cell_of_cells HR5.out
          have y4 : w5.frozen? ⟨w.heap.size, 4, none⟩ = false := free_of_cells HR5.out
          have i5 : w5.setCell ⟨w.heap.size, 5, none⟩ (.string ⟨#[]⟩) = w5 := set_same HR5.out rfl
          have r5 : w5.cell? ⟨w.heap.size, 5, none⟩ = some (.string ⟨#[]⟩) := cell_of_cells HR5.out
          have y5 : w5.frozen? ⟨w.heap.size, 5, none⟩ = false := free_of_cells HR5.out
          have i6 : w5.setCell ⟨w.heap.size, 6, none⟩ (.bool false) = w5 := set_same HR5.out rfl
          have r6 : w5.cell? ⟨w.heap.size, 6, none⟩ = some (.bool false) := cell_of_cells HR5.out
          have y6 : w5.frozen? ⟨w.heap.size, 6, none⟩ = false := free_of_cells HR5.out
          have i7 : w5.setCell ⟨w.heap.size, 7, none⟩ (.int .i64 0) = w5 := set_same HR5.out rfl
          have r7 : w5.cell? ⟨w.heap.size, 7, none⟩ = some (.int .i64 0) := cell_of_cells HR5.out
          have y7 : w5.frozen? ⟨w.heap.size, 7, none⟩ = false := free_of_cells HR5.out
          have i8 : w5.setCell ⟨w.heap.size, 8, none⟩ (.string ⟨#[]⟩) = w5 := set_same HR5.out rfl
          have r8 : w5.cell? ⟨w.heap.size, 8, none⟩ = some (.string ⟨#[]⟩) := cell_of_cells HR5.out
          have y8 : w5.frozen? ⟨w.heap.size, 8, none⟩ = false := free_of_cells HR5.out
          go_wp2
          refine bodyPost_ret (v := .tuple #[opV zV zV zV, .int .i64 2]) (by simp [results, Tryz.results99, go_sem, tri, r0, r1, r2, r3, r4, r5, r6, r7, r8]) rfl ⟨fun h => ?_, fun _ => ⟨rfl, _, _, H.out.on HW5.out⟩⟩
          · have := h 0 (by omega)
            rw [← EX.out, ← EK.out, hfit] at this
            cases this
      · have HB1 := hid (show wr.heap[w.heap.size + 1]? = some (.cells (nine (av.getD 0 zV) zV zV) 138 (0, 0)) from HB.out)
        have p0 : wr.cell? ⟨w.heap.size + 1, 3, none⟩ = some (.bool (tri zV).1) := cell_of_cells HB1.out
        have p1 : wr.cell? ⟨w.heap.size + 1, 4, none⟩ = some (.int .i64 (tri zV).2.1) := cell_of_cells HB1.out
        have p2 : wr.cell? ⟨w.heap.size + 1, 5, none⟩ = some (.string (tri zV).2.2) := cell_of_cells HB1.out
        have z0 : wr.frozen? ⟨w.heap.size + 1, 3, none⟩ = false := free_of_cells HB1.out
        have z1 : wr.frozen? ⟨w.heap.size + 1, 4, none⟩ = false := free_of_cells HB1.out
        have z2 : wr.frozen? ⟨w.heap.size + 1, 5, none⟩ = false := free_of_cells HB1.out
        have HB2 := hid (nine1 HB1.out x)
        have q0 : (((wr.setCell ⟨w.heap.size + 1, 3, none⟩ (.bool (tri x).1)).setCell ⟨w.heap.size + 1, 4, none⟩ (.int .i64 (tri x).2.1)).setCell ⟨w.heap.size + 1, 5, none⟩ (.string (tri x).2.2)).cell? ⟨w.heap.size + 1, 3, none⟩ = some (.bool (tri x).1) := cell_of_cells HB2.out
        have q1 : (((wr.setCell ⟨w.heap.size + 1, 3, none⟩ (.bool (tri x).1)).setCell ⟨w.heap.size + 1, 4, none⟩ (.int .i64 (tri x).2.1)).setCell ⟨w.heap.size + 1, 5, none⟩ (.string (tri x).2.2)).cell? ⟨w.heap.size + 1, 4, none⟩ = some (.int .i64 (tri x).2.1) := cell_of_cells HB2.out
        have q2 : (((wr.setCell ⟨w.heap.size + 1, 3, none⟩ (.bool (tri x).1)).setCell ⟨w.heap.size + 1, 4, none⟩ (.int .i64 (tri x).2.1)).setCell ⟨w.heap.size + 1, 5, none⟩ (.string (tri x).2.2)).cell? ⟨w.heap.size + 1, 5, none⟩ = some (.string (tri x).2.2) := cell_of_cells HB2.out
        have HW2 := hid (show Below w.heap.size w (((wr.setCell ⟨w.heap.size + 1, 3, none⟩ (.bool (tri x).1)).setCell ⟨w.heap.size + 1, 4, none⟩ (.int .i64 (tri x).2.1)).setCell ⟨w.heap.size + 1, 5, none⟩ (.string (tri x).2.2)) from below_set3 HW.out (by omega) _ _ _ _ _ _)
        have HR2 := hid (show (((wr.setCell ⟨w.heap.size + 1, 3, none⟩ (.bool (tri x).1)).setCell ⟨w.heap.size + 1, 4, none⟩ (.int .i64 (tri x).2.1)).setCell ⟨w.heap.size + 1, 5, none⟩ (.string (tri x).2.2)).heap[w.heap.size]? = _ from (set3_heap (by omega)).trans HR.out)
        try simp only [Nat.add_zero] at s0 s1 s2 ck
        go_wp2_with fail
        refine (fits_calls kk (tri x).1 (tri x).2.1 (tri x).2.2 _).mono ?_
        rintro e w5 ⟨rfl, hb5⟩
        have HW5 := hid (below_then HW2.out hb5 HW2.out.size)
        have HR5 := hid ((hb5.block _ (Array.getElem?_eq_some_iff.1 HR2.out).1).trans HR2.out)
        have HB5 := hid ((hb5.block _ (Array.getElem?_eq_some_iff.1 HB2.out).1).trans HB2.out)
        clear hb5 HW2 HR2 HB2 q0 q1 q2 p0 p1 p2 z0 z1 z2 s0 s1 s2 ck
        by_cases hfit : fitsT kk (tri x).1 = true
        · go_wp2
          go_roundw
          case rel => exact ⟨1 + 1, by omega, by go_num, HW5.out, HR5.out, by
            have e := HB5.out
            rw [EX.out] at e
            exact e, fits_more HF.out (by rw [← EX.out, ← EK.out]; exact hfit)⟩
          case measure => simp [Go.RowKit.intOf]; omega
        · have hfit : fitsT kk (tri x).1 = false := by simpa using hfit
          have i0 : w5.setCell ⟨w.heap.size, 0, none⟩ (.bool false) = w5 := set_same HR5.out rfl
          have r0 : w5.cell? ⟨w.heap.size, 0, none⟩ = some (.bool false) := cell_of_cells HR5.out
          have y0 : w5.frozen? ⟨w.heap.size, 0, none⟩ = false := free_of_cells HR5.out
          have i1 : w5.setCell ⟨w.heap.size, 1, none⟩ (.int .i64 0) = w5 := set_same HR5.out rfl
          have r1 : w5.cell? ⟨w.heap.size, 1, none⟩ = some (.int .i64 0) := cell_of_cells HR5.out
          have y1 : w5.frozen? ⟨w.heap.size, 1, none⟩ = false := free_of_cells HR5.out
          have i2 : w5.setCell ⟨w.heap.size, 2, none⟩ (.string ⟨#[]⟩) = w5 := set_same HR5.out rfl
          have r2 : w5.cell? ⟨w.heap.size, 2, none⟩ = some (.string ⟨#[]⟩) := cell_of_cells HR5.out
          have y2 : w5.frozen? ⟨w.heap.size, 2, none⟩ = false := free_of_cells HR5.out
          have i3 : w5.setCell ⟨w.heap.size, 3, none⟩ (.bool false) = w5 := set_same HR5.out rfl
          have r3 : w5.cell? ⟨w.heap.size, 3, none⟩ = some (.bool false) := cell_of_cells HR5.out
          have y3 : w5.frozen? ⟨w.heap.size, 3, none⟩ = false := free_of_cells HR5.out
          have i4 : w5.setCell ⟨w.heap.size, 4, none⟩ (.int .i64 0) = w5 := set_same HR5.out rfl
          have r4 : w5.cell? ⟨w.heap.size, 4, none⟩ = some (.int .i64 0) := cell_of_cells HR5.out
          have y4 : w5.frozen? ⟨w.heap.size, 4, none⟩ = false := free_of_cells HR5.out
          have i5 : w5.setCell ⟨w.heap.size, 5, none⟩ (.string ⟨#[]⟩) = w5 := set_same HR5.out rfl
          have r5 : w5.cell? ⟨w.heap.size, 5, none⟩ = some (.string ⟨#[]⟩) := cell_of_cells HR5.out
          have y5 : w5.frozen? ⟨w.heap.size, 5, none⟩ = false := free_of_cells HR5.out
          have i6 : w5.setCell ⟨w.heap.size, 6, none⟩ (.bool false) = w5 := set_same HR5.out rfl
          have r6 : w5.cell? ⟨w.heap.size, 6, none⟩ = some (.bool false) := cell_of_cells HR5.out
          have y6 : w5.frozen? ⟨w.heap.size, 6, none⟩ = false := free_of_cells HR5.out
          have i7 : w5.setCell ⟨w.heap.size, 7, none⟩ (.int .i64 0) = w5 := set_same HR5.out rfl
          have r7 : w5.cell? ⟨w.heap.size, 7, none⟩ = some (.int .i64 0) := cell_of_cells HR5.out
          have y7 : w5.frozen? ⟨w.heap.size, 7, none⟩ = false := free_of_cells HR5.out
          have i8 : w5.setCell ⟨w.heap.size, 8, none⟩ (.string ⟨#[]⟩) = w5 := set_same HR5.out rfl
          have r8 : w5.cell? ⟨w.heap.size, 8, none⟩ = some (.string ⟨#[]⟩) := cell_of_cells HR5.out
          have y8 : w5.frozen? ⟨w.heap.size, 8, none⟩ = false := free_of_cells HR5.out
          go_wp2
          refine bodyPost_ret (v := .tuple #[opV zV zV zV, .int .i64 2]) (by simp [results, Tryz.results99, go_sem, tri, r0, r1, r2, r3, r4, r5, r6, r7, r8]) rfl ⟨fun h => ?_, fun _ => ⟨rfl, _, _, H.out.on HW5.out⟩⟩
          · have := h 1 (by omega)
            rw [← EX.out, ← EK.out, hfit] at this
            cases this
      · have HB1 := hid (show wr.heap[w.heap.size + 1]? = some (.cells (nine (av.getD 0 zV) (av.getD 1 zV) zV) 138 (0, 0)) from HB.out)
        have p0 : wr.cell? ⟨w.heap.size + 1, 6, none⟩ = some (.bool (tri zV).1) := cell_of_cells HB1.out
        have p1 : wr.cell? ⟨w.heap.size + 1, 7, none⟩ = some (.int .i64 (tri zV).2.1) := cell_of_cells HB1.out
        have p2 : wr.cell? ⟨w.heap.size + 1, 8, none⟩ = some (.string (tri zV).2.2) := cell_of_cells HB1.out
        have z0 : wr.frozen? ⟨w.heap.size + 1, 6, none⟩ = false := free_of_cells HB1.out
        have z1 : wr.frozen? ⟨w.heap.size + 1, 7, none⟩ = false := free_of_cells HB1.out
        have z2 : wr.frozen? ⟨w.heap.size + 1, 8, none⟩ = false := free_of_cells HB1.out
        have HB2 := hid (nine2 HB1.out x)
        have q0 : (((wr.setCell ⟨w.heap.size + 1, 6, none⟩ (.bool (tri x).1)).setCell ⟨w.heap.size + 1, 7, none⟩ (.int .i64 (tri x).2.1)).setCell ⟨w.heap.size + 1, 8, none⟩ (.string (tri x).2.2)).cell? ⟨w.heap.size + 1, 6, none⟩ = some (.bool (tri x).1) := cell_of_cells HB2.out
        have q1 : (((wr.setCell ⟨w.heap.size + 1, 6, none⟩ (.bool (tri x).1)).setCell ⟨w.heap.size + 1, 7, none⟩ (.int .i64 (tri x).2.1)).setCell ⟨w.heap.size + 1, 8, none⟩ (.string (tri x).2.2)).cell? ⟨w.heap.size + 1, 7, none⟩ = some (.int .i64 (tri x).2.1) := cell_of_cells HB2.out
        have q2 : (((wr.setCell ⟨w.heap.size + 1, 6, none⟩ (.bool (tri x).1)).setCell ⟨w.heap.size + 1, 7, none⟩ (.int .i64 (tri x).2.1)).setCell ⟨w.heap.size + 1, 8, none⟩ (.string (tri x).2.2)).cell? ⟨w.heap.size + 1, 8, none⟩ = some (.string (tri x).2.2) := cell_of_cells HB2.out
        have HW2 := hid (show Below w.heap.size w (((wr.setCell ⟨w.heap.size + 1, 6, none⟩ (.bool (tri x).1)).setCell ⟨w.heap.size + 1, 7, none⟩ (.int .i64 (tri x).2.1)).setCell ⟨w.heap.size + 1, 8, none⟩ (.string (tri x).2.2)) from below_set3 HW.out (by omega) _ _ _ _ _ _)
        have HR2 := hid (show (((wr.setCell ⟨w.heap.size + 1, 6, none⟩ (.bool (tri x).1)).setCell ⟨w.heap.size + 1, 7, none⟩ (.int .i64 (tri x).2.1)).setCell ⟨w.heap.size + 1, 8, none⟩ (.string (tri x).2.2)).heap[w.heap.size]? = _ from (set3_heap (by omega)).trans HR.out)
        try simp only [Nat.add_zero] at s0 s1 s2 ck
        go_wp2_with fail
        refine (fits_calls kk (tri x).1 (tri x).2.1 (tri x).2.2 _).mono ?_
        rintro e w5 ⟨rfl, hb5⟩
        have HW5 := hid (below_then HW2.out hb5 HW2.out.size)
        have HR5 := hid ((hb5.block _ (Array.getElem?_eq_some_iff.1 HR2.out).1).trans HR2.out)
        have HB5 := hid ((hb5.block _ (Array.getElem?_eq_some_iff.1 HB2.out).1).trans HB2.out)
        clear hb5 HW2 HR2 HB2 q0 q1 q2 p0 p1 p2 z0 z1 z2 s0 s1 s2 ck
        by_cases hfit : fitsT kk (tri x).1 = true
        · go_wp2
          go_roundw
          case rel => exact ⟨2 + 1, by omega, by go_num, HW5.out, HR5.out, by
            have e := HB5.out
            rw [EX.out] at e
            exact e, fits_more HF.out (by rw [← EX.out, ← EK.out]; exact hfit)⟩
          case measure => simp [Go.RowKit.intOf]; omega
        · have hfit : fitsT kk (tri x).1 = false := by simpa using hfit
          have i0 : w5.setCell ⟨w.heap.size, 0, none⟩ (.bool false) = w5 := set_same HR5.out rfl
          have r0 : w5.cell? ⟨w.heap.size, 0, none⟩ = some (.bool false) := cell_of_cells HR5.out
          have y0 : w5.frozen? ⟨w.heap.size, 0, none⟩ = false := free_of_cells HR5.out
          have i1 : w5.setCell ⟨w.heap.size, 1, none⟩ (.int .i64 0) = w5 := set_same HR5.out rfl
          have r1 : w5.cell? ⟨w.heap.size, 1, none⟩ = some (.int .i64 0) := cell_of_cells HR5.out
          have y1 : w5.frozen? ⟨w.heap.size, 1, none⟩ = false := free_of_cells HR5.out
          have i2 : w5.setCell ⟨w.heap.size, 2, none⟩ (.string ⟨#[]⟩) = w5 := set_same HR5.out rfl
          have r2 : w5.cell? ⟨w.heap.size, 2, none⟩ = some (.string ⟨#[]⟩) := cell_of_cells HR5.out
          have y2 : w5.frozen? ⟨w.heap.size, 2, none⟩ = false := free_of_cells HR5.out
          have i3 : w5.setCell ⟨w.heap.size, 3, none⟩ (.bool false) = w5 := set_same HR5.out rfl
          have r3 : w5.cell? ⟨w.heap.size, 3, none⟩ = some (.bool false) := cell_of_cells HR5.out
          have y3 : w5.frozen? ⟨w.heap.size, 3, none⟩ = false := free_of_cells HR5.out
          have i4 : w5.setCell ⟨w.heap.size, 4, none⟩ (.int .i64 0) = w5 := set_same HR5.out rfl
          have r4 : w5.cell? ⟨w.heap.size, 4, none⟩ = some (.int .i64 0) := cell_of_cells HR5.out
          have y4 : w5.frozen? ⟨w.heap.size, 4, none⟩ = false := free_of_cells HR5.out
          have i5 : w5.setCell ⟨w.heap.size, 5, none⟩ (.string ⟨#[]⟩) = w5 := set_same HR5.out rfl
          have r5 : w5.cell? ⟨w.heap.size, 5, none⟩ = some (.string ⟨#[]⟩) := cell_of_cells HR5.out
          have y5 : w5.frozen? ⟨w.heap.size, 5, none⟩ = false := free_of_cells HR5.out
          have i6 : w5.setCell ⟨w.heap.size, 6, none⟩ (.bool false) = w5 := set_same HR5.out rfl
          have r6 : w5.cell? ⟨w.heap.size, 6, none⟩ = some (.bool false) := cell_of_cells HR5.out
          have y6 : w5.frozen? ⟨w.heap.size, 6, none⟩ = false := free_of_cells HR5.out
          have i7 : w5.setCell ⟨w.heap.size, 7, none⟩ (.int .i64 0) = w5 := set_same HR5.out rfl
          have r7 : w5.cell? ⟨w.heap.size, 7, none⟩ = some (.int .i64 0) := cell_of_cells HR5.out
          have y7 : w5.frozen? ⟨w.heap.size, 7, none⟩ = false := free_of_cells HR5.out
          have i8 : w5.setCell ⟨w.heap.size, 8, none⟩ (.string ⟨#[]⟩) = w5 := set_same HR5.out rfl
          have r8 : w5.cell? ⟨w.heap.size, 8, none⟩ = some (.string ⟨#[]⟩) := cell_of_cells HR5.out
          have y8 : w5.frozen? ⟨w.heap.size, 8, none⟩ = false := free_of_cells HR5.out
          go_wp2
          refine bodyPost_ret (v := .tuple #[opV zV zV zV, .int .i64 2]) (by simp [results, Tryz.results99, go_sem, tri, r0, r1, r2, r3, r4, r5, r6, r7, r8]) rfl ⟨fun h => ?_, fun _ => ⟨rfl, _, _, H.out.on HW5.out⟩⟩
          · have := h 2 (by omega)
            rw [← EX.out, ← EK.out, hfit] at this
            cases this
    · obtain rfl : k = ks.length := by omega
      have hd4 : decide ((ks.length : Int) < (ks.length : Int)) = false := by simp
      obtain ⟨a0, e0⟩ : ∃ x, sel av ks.length 0 = x := ⟨_, rfl⟩
      obtain ⟨a1, e1⟩ : ∃ x, sel av ks.length 1 = x := ⟨_, rfl⟩
      obtain ⟨a2, e2⟩ : ∃ x, sel av ks.length 2 = x := ⟨_, rfl⟩
      rw [e0, e1, e2] at HB
      have HE := hid (And.intro e0 (And.intro e1 e2))
      clear e0 e1 e2
      have HR2 := hid (show (wr.setCell ⟨E.b, 4, none⟩ (.slice (some ⟨g, off, none⟩) s.length vs2)).heap[w.heap.size]? = some (.cells #[.bool false, .int .i64 0, .string ⟨#[]⟩, .bool false, .int .i64 0, .string ⟨#[]⟩, .bool false, .int .i64 0, .string ⟨#[]⟩] 138 (0, 0)) from (Below.heap_setCell _ _ _ _ (by simp only; omega)).trans HR.out)
      have HB2 := hid (show (wr.setCell ⟨E.b, 4, none⟩ (.slice (some ⟨g, off, none⟩) s.length vs2)).heap[w.heap.size + 1]? = some (.cells (nine a0 a1 a2) 138 (0, 0)) from (Below.heap_setCell _ _ _ _ (by simp only; omega)).trans HB.out)
      have HW2 := hid (show Below w.heap.size (w.setCell ⟨E.b, 4, none⟩ (.slice (some ⟨g, off, none⟩) s.length vs2)) (wr.setCell ⟨E.b, 4, none⟩ (.slice (some ⟨g, off, none⟩) s.length vs2)) from below_both HW.out hbl)
      have hinf : (Tryz.prog.info? 138).map (·.size) = some (nine a0 a1 a2).size := by kernel_rfl
      go_wp2_with (first | refine wpList_load_row rfl 138 _ rfl (w.heap.size + 1) rfl 138 (nine a0 a1 a2) (0, 0) _ HB2.out Tryz.underlying138 rfl hinf ?_ | refine wpList_store_row rfl 138 _ _ rfl w.heap.size (nine a0 a1 a2) rfl rfl 138 _ HR2.out hinf rfl (nine_one a0 a1 a2) ?_)
      have hR := setRow_heap _ _ _ (nine a0 a1 a2) _ _ HR2.out
      have t0 : ((wr.setCell ⟨E.b, 4, none⟩ (.slice (some ⟨g, off, none⟩) s.length vs2)).setRow w.heap.size (nine a0 a1 a2)).cell? ⟨w.heap.size, 0, none⟩ = some (.bool (tri a0).1) := cell_of_cells hR
      have t1 : ((wr.setCell ⟨E.b, 4, none⟩ (.slice (some ⟨g, off, none⟩) s.length vs2)).setRow w.heap.size (nine a0 a1 a2)).cell? ⟨w.heap.size, 1, none⟩ = some (.int .i64 (tri a0).2.1) := cell_of_cells hR
      have t2 : ((wr.setCell ⟨E.b, 4, none⟩ (.slice (some ⟨g, off, none⟩) s.length vs2)).setRow w.heap.size (nine a0 a1 a2)).cell? ⟨w.heap.size, 2, none⟩ = some (.string (tri a0).2.2) := cell_of_cells hR
      have t3 : ((wr.setCell ⟨E.b, 4, none⟩ (.slice (some ⟨g, off, none⟩) s.length vs2)).setRow w.heap.size (nine a0 a1 a2)).cell? ⟨w.heap.size, 3, none⟩ = some (.bool (tri a1).1) := cell_of_cells hR
      have t4 : ((wr.setCell ⟨E.b, 4, none⟩ (.slice (some ⟨g, off, none⟩) s.length vs2)).setRow w.heap.size (nine a0 a1 a2)).cell? ⟨w.heap.size, 4, none⟩ = some (.int .i64 (tri a1).2.1) := cell_of_cells hR
      have t5 : ((wr.setCell ⟨E.b, 4, none⟩ (.slice (some ⟨g, off, none⟩) s.length vs2)).setRow w.heap.size (nine a0 a1 a2)).cell? ⟨w.heap.size, 5, none⟩ = some (.string (tri a1).2.2) := cell_of_cells hR
      have t6 : ((wr.setCell ⟨E.b, 4, none⟩ (.slice (some ⟨g, off, none⟩) s.length vs2)).setRow w.heap.size (nine a0 a1 a2)).cell? ⟨w.heap.size, 6, none⟩ = some (.bool (tri a2).1) := cell_of_cells hR
      have t7 : ((wr.setCell ⟨E.b, 4, none⟩ (.slice (some ⟨g, off, none⟩) s.length vs2)).setRow w.heap.size (nine a0 a1 a2)).cell? ⟨w.heap.size, 7, none⟩ = some (.int .i64 (tri a2).2.1) := cell_of_cells hR
      have t8 : ((wr.setCell ⟨E.b, 4, none⟩ (.slice (some ⟨g, off, none⟩) s.length vs2)).setRow w.heap.size (nine a0 a1 a2)).cell? ⟨w.heap.size, 8, none⟩ = some (.string (tri a2).2.2) := cell_of_cells hR
      refine bodyPost_ret (v := .tuple #[opV a0 a1 a2, .int .i64 0]) (by simp [results, Tryz.results99, go_sem, t0, t1, t2, t3, t4, t5, t6, t7, t8]) rfl ⟨fun _ => ⟨by rw [HE.out.1, HE.out.2.1, HE.out.2.2], _, _, HO.out.on (by rw [show (w.setCell ⟨E.b, 4, none⟩ (.slice (some ⟨g, off, none⟩) s.length vs2)).heap.size = w.heap.size by simp [World.setCell]]; exact below_row HW2.out (Nat.le_refl _) _)⟩, fun h => ?_⟩
      obtain ⟨k, hk, h⟩ := h
      rw [HF.out k hk] at h
      cases h
end Go.Proofs.YtobgobmfhgagbaaGreatDoor
