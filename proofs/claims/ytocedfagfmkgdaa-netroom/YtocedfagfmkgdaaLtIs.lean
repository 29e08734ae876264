/- Letters as they lie in memory: how a letter, a slice of letters and a slice of acts read, and how they come in. -/
import Derived.Test.YtocedfagfmkgdaaLPairs
import Derived.Test.YtocedfagfmkgdaaSArg
import Derived.Test.YtocedfagfmkgdaaIntsArg
import Derived.Test.YtocedfagfmkgdaaAppAt
namespace Go.Proofs.Ytocedfagfmkgdaa
open Go.RowKit
set_option linter.unusedVariables false

/-- A letter as plain data. -/
structure LetV where
  from_ : Int
  to_ : Int
  kind : Int
  split : Int
  attempt : Int
  part : Int
  seq : Int
  next : Int
  epoch : Int
  reason : Int
  set : List Int
  prs : List KV
  deriving DecidableEq
def zeroL : LetV := ⟨0, 0, 0, 0, 0, 0, 0, 0, 0, 0, [], []⟩
/-- Slices that read as a letter's two lists. -/
structure LetIs (w : World) (so : Option Addr) (sc : Nat) (po : Option Addr) (pc : Nat) (r : LetV) : Prop where
  set : Is w (.slice so r.set.length sc) r.set
  prs : Prs w (.slice po r.prs.length pc) r.prs
theorem LetIs.below {w w' : World} {so : Option Addr} {sc : Nat} {po : Option Addr} {pc : Nat} {r : LetV} (h : LetIs w so sc po pc r) (hb : Below w.heap.size w w') : LetIs w' so sc po pc r := ⟨h.set.below hb, h.prs.below hb⟩
theorem Is.nil (w : World) : Is w (.slice none 0 0) [] := ⟨none, 0, rfl, Nat.le_refl _, by unfold maxLen; omega, fun _ => ⟨rfl, rfl⟩, fun h => absurd rfl h⟩
theorem ints_own {w : World} {B : Nat} {v : Value} {l : List Int} (h : w.ownsRow B 3 1 v l.length (ict l)) : Is w v l := by
  rcases h.2 with ⟨rfl, h0⟩ | ⟨g, cap, cur, rfl, _⟩
  · have := List.eq_nil_of_length_eq_zero h0
    subst this
    exact Is.nil w
  · exact Is.own h
theorem Is.len {w : World} {ao : Option Addr} {m cap : Nat} {l : List Int} (h : Is w (.slice ao m cap) l) : l.length ≤ 9223372036854775807 := by
  obtain ⟨ao', cap', e, h1, h2, _⟩ := h
  unfold maxLen at h2
  omega
theorem prs_len {w : World} {ao : Option Addr} {m cap : Nat} {l : List KV} (h : Prs w (.slice ao m cap) l) : l.length ≤ 9223372036854775807 := by
  obtain ⟨ao', cap', e, h1, h2, _⟩ := h
  unfold maxLen at h2
  omega
/-- Cells that lie one behind the other. -/
def At (w : World) (b : Nat) (cs : List Value) : Prop := ∀ i v, cs[i]? = some v → w.cell? ⟨b, i, none⟩ = some v
theorem At.below {w w' : World} {b : Nat} {cs : List Value} (h : At w b cs) (hb : Below w.heap.size w w') (hlt : b < w.heap.size) : At w' b cs := fun i v hi => (hb.cell (p := ⟨b, i, none⟩) hlt).trans (h i v hi)
theorem At.new (w : World) (cs : Array Value) (t : TypeId) : At (w.alloc (.cells cs t)) w.heap.size cs.toList := by
  intro i v h
  simpa [go_sem] using h

/-! ### Slices of letters -/
/-- A letter, and where its lists lie. -/
structure LetX where
  r : LetV
  so : Option Addr
  sc : Nat
  po : Option Addr
  pc : Nat
def LetX.cs (x : LetX) : Array Value := #[.int .i64 x.r.from_, .int .i64 x.r.to_, .int .i64 x.r.kind, .int .i64 x.r.split, .int .i64 x.r.attempt, .int .i64 x.r.part, .int .i64 x.r.seq, .int .i64 x.r.next, .int .i64 x.r.epoch, .int .i64 x.r.reason, .slice x.so x.r.set.length x.sc, .slice x.po x.r.prs.length x.pc]
def encL (x : LetX) : List Value := (#[.int .i64 x.r.from_, .int .i64 x.r.to_, .int .i64 x.r.kind, .int .i64 x.r.split, .int .i64 x.r.attempt, .int .i64 x.r.part, .int .i64 x.r.seq, .int .i64 x.r.next, .int .i64 x.r.epoch, .int .i64 x.r.reason, .slice x.so x.r.set.length x.sc, .slice x.po x.r.prs.length x.pc] : Array Value).toList
theorem encL_len : ∀ x, (encL x).length = 12 := fun _ => rfl
theorem encL_one : ∀ x, ∀ u ∈ encL x, u.oneCell' = true := by intro x u hu; simp [encL] at hu; rcases hu with rfl | rfl | rfl | rfl | rfl | rfl | rfl | rfl | rfl | rfl | rfl | rfl <;> rfl
def LetX.Is (w : World) (x : LetX) : Prop := LetIs w x.so x.sc x.po x.pc x.r
theorem LetX.Is.below {w w' : World} {x : LetX} (h : x.Is w) (hb : Below w.heap.size w w') : x.Is w' := LetIs.below h hb
def zeroX : LetX := ⟨zeroL, none, 0, none, 0⟩
/-- A letter of two numbers alone. -/
def plainX (a b : Int) : LetX := ⟨⟨a, b, 0, 0, 0, 0, 0, 0, 0, 0, [], []⟩, none, 0, none, 0⟩
theorem plainX_is (a b : Int) (w : World) : (plainX a b).Is w := ⟨Is.nil w, ⟨none, 0, rfl, Nat.le_refl _, by unfold maxLen; omega, fun _ => ⟨rfl, rfl⟩, fun h => absurd rfl h⟩⟩
/-- v is a slice of letters, and where their lists lie. -/
def LetsX (w : World) (v : Value) (xs : List LetX) : Prop := Reads 12 encL w v xs ∧ ∀ x ∈ xs, x.Is w
theorem LetsX.below {w w' : World} {v : Value} {xs : List LetX} (h : LetsX w v xs) (hb : Below w.heap.size w w') : LetsX w' v xs := ⟨h.1.below hb, fun x hx => LetIs.below (h.2 x hx) hb⟩
theorem LetsX.slice {w : World} {v : Value} {xs : List LetX} (h : LetsX w v xs) : ∃ ao cap, v = .slice ao xs.length cap ∧ xs.length ≤ cap ∧ cap ≤ maxLen ∧ (ao = none → xs = [] ∧ cap = 0) := by
  obtain ⟨⟨ao, cap, rfl, h1, h2, h3, h4⟩, _⟩ := h
  exact ⟨ao, cap, rfl, h1, h2, h3⟩
theorem LetsX.cell {w : World} {ao : Option Addr} {m cap : Nat} {xs : List LetX} (h : LetsX w (.slice ao m cap) xs) {j : Nat} (hj : j < xs.length) :
    ∃ b off x, xs[j]? = some x ∧ ao = some ⟨b, off, none⟩ ∧ b < w.heap.size ∧ x.Is w ∧ w.cell? ⟨b, off + j * 12, none⟩ = some (.int .i64 x.r.from_) ∧ w.cell? ⟨b, off + j * 12 + 1, none⟩ = some (.int .i64 x.r.to_) ∧ w.cell? ⟨b, off + j * 12 + 2, none⟩ = some (.int .i64 x.r.kind) ∧ w.cell? ⟨b, off + j * 12 + 3, none⟩ = some (.int .i64 x.r.split) ∧ w.cell? ⟨b, off + j * 12 + 4, none⟩ = some (.int .i64 x.r.attempt) ∧ w.cell? ⟨b, off + j * 12 + 5, none⟩ = some (.int .i64 x.r.part) ∧ w.cell? ⟨b, off + j * 12 + 6, none⟩ = some (.int .i64 x.r.seq) ∧ w.cell? ⟨b, off + j * 12 + 7, none⟩ = some (.int .i64 x.r.next) ∧ w.cell? ⟨b, off + j * 12 + 8, none⟩ = some (.int .i64 x.r.epoch) ∧ w.cell? ⟨b, off + j * 12 + 9, none⟩ = some (.int .i64 x.r.reason) ∧ w.cell? ⟨b, off + j * 12 + 10, none⟩ = some (.slice x.so x.r.set.length x.sc) ∧ w.cell? ⟨b, off + j * 12 + 11, none⟩ = some (.slice x.po x.r.prs.length x.pc) := by
  obtain ⟨h1, h3⟩ := h
  obtain ⟨b, off, e, hlt, hc⟩ := h1.cells (j := j) hj
  refine ⟨b, off, xs[j], List.getElem?_eq_getElem hj, e, hlt, h3 _ (List.getElem_mem hj), ?_⟩
  exact ⟨hc 0 _ rfl, hc 1 _ rfl, hc 2 _ rfl, hc 3 _ rfl, hc 4 _ rfl, hc 5 _ rfl, hc 6 _ rfl, hc 7 _ rfl, hc 8 _ rfl, hc 9 _ rfl, hc 10 _ rfl, hc 11 _ rfl⟩
theorem LetsX.nil (w : World) : LetsX w (.slice none 0 0) [] := ⟨Reads.nil w, fun x hx => by simp at hx⟩
/-- The first k letters. -/
theorem LetsX.take {w : World} {ao : Option Addr} {m cap : Nat} {xs : List LetX} (h : LetsX w (.slice ao m cap) xs) {k : Nat} (hk : k ≤ xs.length) : LetsX w (.slice ao k cap) (xs.take k) := by
  obtain ⟨h1, h3⟩ := h
  have hc : Reads 12 encL w (.slice ao (xs.take k).length cap) (xs.take k) := Reads.cut (r := xs.drop k) (by rw [List.take_append_drop]; exact h1)
  have hl : (xs.take k).length = k := by rw [List.length_take]; omega
  rw [hl] at hc
  exact ⟨hc, fun x hx => h3 x (List.mem_of_mem_take hx)⟩
/-- New slices of letters. -/
theorem LetsX.made (x : LetX) (w : World) (h : x.Is w) : LetsX (w.alloc (.cells #[.int .i64 x.r.from_, .int .i64 x.r.to_, .int .i64 x.r.kind, .int .i64 x.r.split, .int .i64 x.r.attempt, .int .i64 x.r.part, .int .i64 x.r.seq, .int .i64 x.r.next, .int .i64 x.r.epoch, .int .i64 x.r.reason, .slice x.so x.r.set.length x.sc, .slice x.po x.r.prs.length x.pc] 36)) (.slice (some ⟨w.heap.size, 0, none⟩) 1 1) [x] :=
  ⟨by have := Reads.made encL_len (by decide) 36 [x] w (by simp); exact this, fun y hy => by rw [List.mem_singleton.1 hy]; exact LetIs.below h (alloc_one _ _)⟩
def twoCs (x y : LetX) : Array Value := (encL x ++ encL y).toArray
theorem LetsX.two (x y : LetX) (w : World) (h : x.Is w) (k : y.Is w) : LetsX (w.alloc (.cells (twoCs x y) 36)) (.slice (some ⟨w.heap.size, 0, none⟩) 2 2) [x, y] :=
  ⟨by have := Reads.made encL_len (by decide) 36 [x, y] w (by simp); simp only [fl, List.flatMap_cons, List.flatMap_nil, List.append_nil] at this; exact this, fun z hz => by
    rcases List.mem_cons.1 hz with rfl | hz
    · exact LetIs.below h (alloc_one _ _)
    · rw [List.mem_singleton.1 hz]; exact LetIs.below k (alloc_one _ _)⟩

/-! ### As they come in -/
abbrev MsgT := Int × Int × Int × Int × Int × Int × Int × Int × List Int × List (ByteArray × ByteArray)
abbrev rMsg : Rd MsgT := rPair 1 (rInt .i64) (rPair 1 (rInt .i64) (rPair 1 (rInt .i64) (rPair 1 (rInt .i64) (rPair 1 (rInt .i64) (rPair 1 (rInt .i64) (rPair 1 (rInt .i64) (rPair 1 (rInt .i64) (rPair 1 (rSlice 1 (rInt .i64)) (rSlice 2 rPr)))))))))
theorem opens_msg : Opens Try.prog 34 10 rMsg :=
  opens_struct Try.underlying34 (by kernel_rfl) (opensF_cons rfl (by kernel_rfl) (opens_int Try.underlying3) (opensF_cons rfl (by kernel_rfl) (opens_int Try.underlying3) (opensF_cons rfl (by kernel_rfl) (opens_int Try.underlying3) (opensF_cons rfl (by kernel_rfl) (opens_int Try.underlying3) (opensF_cons rfl (by kernel_rfl) (opens_int Try.underlying3) (opensF_cons rfl (by kernel_rfl) (opens_int Try.underlying3) (opensF_cons rfl (by kernel_rfl) (opens_int Try.underlying3) (opensF_cons rfl (by kernel_rfl) (opens_int Try.underlying3) (opensF_cons rfl (by kernel_rfl) opens_ints (opensF_last rfl (by kernel_rfl) rfl opens_pairs))))))))))
abbrev LetT := Int × Int × MsgT
abbrev rLet : Rd LetT := rPair 1 (rInt .i64) (rPair 1 (rInt .i64) rMsg)
theorem opens_let : Opens Try.prog 36 12 rLet :=
  opens_struct Try.underlying36 (by kernel_rfl) (opensF_cons rfl (by kernel_rfl) (opens_int Try.underlying3) (opensF_cons rfl (by kernel_rfl) (opens_int Try.underlying3) (opensF_last rfl (by kernel_rfl) rfl opens_msg)))
abbrev ActT := Int × Int × LetT × LetT
abbrev rAct : Rd ActT := rPair 1 (rInt .i64) (rPair 1 (rInt .i64) (rPair 12 rLet rLet))
theorem opens_act : Opens Try.prog 38 26 rAct :=
  opens_struct Try.underlying38 (by kernel_rfl) (opensF_cons rfl (by kernel_rfl) (opens_int Try.underlying3) (opensF_cons rfl (by kernel_rfl) (opens_int Try.underlying3) (opensF_cons rfl (by kernel_rfl) opens_let (opensF_last rfl (by kernel_rfl) rfl opens_let))))
theorem opens_acts : Opens Try.prog 22 1 (rSlice 26 rAct) := @opens_slice _ ⟨(0, 0, (0, 0, 0, 0, 0, 0, 0, 0, 0, 0, [], []), (0, 0, 0, 0, 0, 0, 0, 0, 0, 0, [], []))⟩ _ _ _ _ _ Try.underlying22 (by kernel_rfl) (by decide) opens_act
theorem let_arg {w : World} {ds : List Value} {a : LetT} (hl : ds.length = 12) (h : rLet w ds a) : ∃ x : LetX, x.Is w ∧ ds = encL x := by
  match ds, hl with
  | [x0, x1, x2, x3, x4, x5, x6, x7, x8, x9, xa, xb], _ =>
    obtain ⟨a0, a1, a2, a3, a4, a5, a6, a7, a8, a9, aa, ab⟩ := a
    obtain ⟨h0, h1, h2, h3, h4, h5, h6, h7, h8, h9, ha, hb⟩ := h
    have ka : Is w xa aa := (Is.arg ha).1
    have kb : Prs w xb ab := Prs.arg hb
    have e0 : x0 = .int .i64 a0 := by simpa [rInt] using h0.1
    have e1 : x1 = .int .i64 a1 := by simpa [rInt] using h1.1
    have e2 : x2 = .int .i64 a2 := by simpa [rInt] using h2.1
    have e3 : x3 = .int .i64 a3 := by simpa [rInt] using h3.1
    have e4 : x4 = .int .i64 a4 := by simpa [rInt] using h4.1
    have e5 : x5 = .int .i64 a5 := by simpa [rInt] using h5.1
    have e6 : x6 = .int .i64 a6 := by simpa [rInt] using h6.1
    have e7 : x7 = .int .i64 a7 := by simpa [rInt] using h7.1
    have e8 : x8 = .int .i64 a8 := by simpa [rInt] using h8.1
    have e9 : x9 = .int .i64 a9 := by simpa [rInt] using h9.1
    obtain ⟨so, sc, ea, -⟩ := id ka
    obtain ⟨po, pc, eb, -⟩ := id kb
    subst e0 e1 e2 e3 e4 e5 e6 e7 e8 e9 ea eb
    exact ⟨⟨⟨a0, a1, a2, a3, a4, a5, a6, a7, a8, a9, aa, ab⟩, so, sc, po, pc⟩, ⟨ka, kb⟩, rfl⟩

/-- An act, and where its letters' lists lie. -/
structure ActX where
  do_ : Int
  i_ : Int
  l : LetX
  m : LetX
def encA (x : ActX) : List Value := .int .i64 x.do_ :: .int .i64 x.i_ :: (encL x.l ++ encL x.m)
theorem encA_len : ∀ x, (encA x).length = 26 := fun _ => rfl
def ActX.Is (w : World) (x : ActX) : Prop := x.l.Is w ∧ x.m.Is w
theorem act_arg {w : World} {ds : List Value} {a : ActT} (hl : ds.length = 26) (h : rAct w ds a) : ∃ x : ActX, x.Is w ∧ ds = encA x := by
  obtain ⟨d0, d1, ds, rfl, hl2⟩ : ∃ d0 d1 ds', ds = d0 :: d1 :: ds' ∧ ds'.length = 24 := by
    match ds, hl with
    | d0 :: d1 :: ds', hl => exact ⟨d0, d1, ds', rfl, by simpa using hl⟩
  obtain ⟨a0, a1, al, am⟩ := a
  obtain ⟨h0, h1, h2, h3⟩ := h
  have e0 : d0 = .int .i64 a0 := by simpa [rInt] using h0.1
  have e1 : d1 = .int .i64 a1 := by simpa [rInt] using h1.1
  obtain ⟨x, hx, ex⟩ := let_arg (by simp [hl2]) h2
  obtain ⟨y, hy, ey⟩ := let_arg (by simp [hl2]) h3
  refine ⟨⟨a0, a1, x, y⟩, ⟨hx, hy⟩, ?_⟩
  subst e0 e1
  simp only [List.drop_succ_cons, List.drop_zero] at ex ey
  unfold encA
  simp only
  rw [← ex, ← ey, List.take_append_drop]
/-- v is a slice of acts. -/
def Acts (w : World) (v : Value) (xs : List ActX) : Prop := Reads 26 encA w v xs ∧ ∀ x ∈ xs, x.Is w
theorem Acts.below {w w' : World} {v : Value} {xs : List ActX} (h : Acts w v xs) (hb : Below w.heap.size w w') : Acts w' v xs := ⟨h.1.below hb, fun x hx => ⟨LetIs.below (h.2 x hx).1 hb, LetIs.below (h.2 x hx).2 hb⟩⟩
theorem Acts.arg {w : World} {v : Value} {l : List ActT} (h : rSlice 26 rAct w [v] l) : ∃ xs, Acts w v xs := by
  obtain ⟨ao, cap, hv, h1, h2, h3, h4⟩ := h
  obtain rfl : v = _ := by simpa using hv
  by_cases hl : l = []
  · subst hl
    exact ⟨[], ⟨ao, cap, rfl, h1, h2, fun e => ⟨rfl, (h3 e).2⟩, fun h => absurd rfl h⟩, fun x hx => by simp at hx⟩
  · obtain ⟨b, off, rfl, hlt, hc⟩ := h4 hl
    haveI : Inhabited ActX := ⟨⟨0, 0, zeroX, zeroX⟩⟩
    obtain ⟨f, hf⟩ := Go.Deep.choose_lt (α := ActX) (n := l.length) (p := fun j x => x.Is w ∧ ∀ k u, (encA x)[k]? = some u → w.cell? ⟨b, off + j * 26 + k, none⟩ = some u) (fun j hj => by
      obtain ⟨ds, hd, hr, hu⟩ := hc j l[j] (List.getElem?_eq_getElem hj)
      obtain ⟨x, hx, rfl⟩ := act_arg hd hr
      exact ⟨x, hx, hu⟩)
    refine ⟨(List.range l.length).map f, ⟨some ⟨b, off, none⟩, cap, by simp, by simpa using h1, h2, (fun e => by cases e), fun _ => ⟨b, off, rfl, hlt, fun j x hj k u hu => ?_⟩⟩, fun x hx => ?_⟩
    · have hjl : j < l.length := by have := (List.getElem?_eq_some_iff.1 hj).1; simpa using this
      rw [List.getElem?_map, List.getElem?_range hjl] at hj
      cases hj
      exact (hf j hjl).2 k u hu
    · obtain ⟨j, hj, rfl⟩ := List.mem_map.1 hx
      exact (hf j (by simpa using hj)).1
end Go.Proofs.Ytocedfagfmkgdaa
