/- Records as they lie in memory: how a record and a slice of records read, and how records come in. -/
import Derived.Test.YtpkobobandcclaaRcRead
import Derived.Test.YtpkobobandcclaaLPairs
import Derived.Test.YtpkobobandcclaaSArg
import Derived.Test.YtpkobobandcclaaIntsArg
namespace Go.Proofs.Ytpkobobandcclaa
open Go.RowKit
set_option linter.unusedVariables false

/-- Slices that read as a record's two lists. -/
structure RecIs (w : World) (so : Option Addr) (sc : Nat) (po : Option Addr) (pc : Nat) (r : RecV) : Prop where
  set : Is w (.slice so r.set.length sc) r.set
  prs : Prs w (.slice po r.prs.length pc) r.prs
theorem RecIs.below {w w' : World} {so : Option Addr} {sc : Nat} {po : Option Addr} {pc : Nat} {r : RecV} (h : RecIs w so sc po pc r) (hb : Below w.heap.size w w') : RecIs w' so sc po pc r := ⟨h.set.below hb, h.prs.below hb⟩
theorem Is.cell {w : World} {ao : Option Addr} {m cap : Nat} {l : List Int} (h : Is w (.slice ao m cap) l) {j : Nat} (hj : j < l.length) : ∃ b off x, l[j]? = some x ∧ ao = some ⟨b, off, none⟩ ∧ b < w.heap.size ∧ w.cell? ⟨b, off + j, none⟩ = some (.int .i64 x) := by
  obtain ⟨ao', cap', e, _, _, _, h4⟩ := h
  simp only [Value.slice.injEq] at e
  obtain ⟨rfl, -, rfl⟩ := e
  obtain ⟨b, off, rfl, hb, hc⟩ := h4 (by intro e; rw [e] at hj; simp at hj)
  refine ⟨b, off, l[j], List.getElem?_eq_getElem hj, rfl, hb, ?_⟩
  rw [hc j hj]
  simp [List.getD, List.getElem?_eq_getElem hj]
theorem Is.nil (w : World) : Is w (.slice none 0 0) [] := ⟨none, 0, rfl, Nat.le_refl _, by unfold maxLen; omega, fun _ => ⟨rfl, rfl⟩, fun h => absurd rfl h⟩
theorem ints_own {w : World} {B : Nat} {v : Value} {l : List Int} (h : w.ownsRow B 3 1 v l.length (ict l)) : Is w v l := by
  rcases h.2 with ⟨rfl, h0⟩ | ⟨g, cap, cur, rfl, _⟩
  · have := List.eq_nil_of_length_eq_zero h0
    subst this
    exact Is.nil w
  · exact Is.own h
theorem Is.len {w : World} {ao : Option Addr} {m cap : Nat} {l : List Int} (h : Is w (.slice ao m cap) l) : l.length ≤ 9223372036854775807 := by
  obtain ⟨ao', cap', e, h1, h2, _⟩ := h
  unfold maxLen at h2
  omega
theorem prs_len {w : World} {ao : Option Addr} {m cap : Nat} {l : List KV} (h : Prs w (.slice ao m cap) l) : l.length ≤ 9223372036854775807 := by
  obtain ⟨ao', cap', e, h1, h2, _⟩ := h
  unfold maxLen at h2
  omega
/-- Cells that lie one behind the other. -/
def At (w : World) (b : Nat) (cs : List Value) : Prop := ∀ i v, cs[i]? = some v → w.cell? ⟨b, i, none⟩ = some v
theorem At.below {w w' : World} {b : Nat} {cs : List Value} (h : At w b cs) (hb : Below w.heap.size w w') (hlt : b < w.heap.size) : At w' b cs := fun i v hi => (hb.cell (p := ⟨b, i, none⟩) hlt).trans (h i v hi)
theorem At.new (w : World) (cs : Array Value) (t : TypeId) : At (w.alloc (.cells cs t)) w.heap.size cs.toList := by
  intro i v h
  simpa [go_sem] using h

/-! ### Slices of records -/
/-- A record, and where its lists lie. -/
structure RecX where
  r : RecV
  so : Option Addr
  sc : Nat
  po : Option Addr
  pc : Nat
def encR (x : RecX) : List Value := (#[.int .i64 x.r.kind, .int .i64 x.r.part, .int .i64 x.r.split, .int .i64 x.r.attempt, .int .i64 x.r.reason, .slice x.so x.r.set.length x.sc, .slice x.po x.r.prs.length x.pc] : Array Value).toList
theorem encR_len : ∀ x, (encR x).length = 7 := fun _ => rfl
theorem encR_one : ∀ x, ∀ u ∈ encR x, u.oneCell' = true := by intro x u hu; simp [encR] at hu; rcases hu with rfl | rfl | rfl | rfl | rfl | rfl | rfl <;> rfl
def RecX.Is (w : World) (x : RecX) : Prop := RecIs w x.so x.sc x.po x.pc x.r
/-- v is a slice of records. -/
def Recs (w : World) (v : Value) (rs : List RecV) : Prop := ∃ xs : List RecX, Reads 7 encR w v xs ∧ xs.map (·.r) = rs ∧ ∀ x ∈ xs, x.Is w
theorem Recs.below {w w' : World} {v : Value} {rs : List RecV} (h : Recs w v rs) (hb : Below w.heap.size w w') : Recs w' v rs := by
  obtain ⟨xs, h1, h2, h3⟩ := h
  exact ⟨xs, h1.below hb, h2, fun x hx => (h3 x hx).below hb⟩
theorem Recs.slice {w : World} {v : Value} {rs : List RecV} (h : Recs w v rs) : ∃ ao cap, v = .slice ao rs.length cap ∧ rs.length ≤ cap ∧ cap ≤ maxLen ∧ (ao = none → rs = [] ∧ cap = 0) := by
  obtain ⟨xs, ⟨ao, cap, rfl, h1, h2, h3, h4⟩, rfl, _⟩ := h
  rw [List.length_map]
  refine ⟨ao, cap, rfl, h1, h2, fun e => ⟨?_, (h3 e).2⟩⟩
  rw [(h3 e).1]; rfl
theorem Recs.cell {w : World} {ao : Option Addr} {m cap : Nat} {rs : List RecV} (h : Recs w (.slice ao m cap) rs) {j : Nat} (hj : j < rs.length) :
    ∃ b off r so sc po pc, rs[j]? = some r ∧ ao = some ⟨b, off, none⟩ ∧ b < w.heap.size ∧ RecIs w so sc po pc r ∧ w.cell? ⟨b, off + j * 7, none⟩ = some (.int .i64 r.kind) ∧ w.cell? ⟨b, off + j * 7 + 1, none⟩ = some (.int .i64 r.part) ∧ w.cell? ⟨b, off + j * 7 + 2, none⟩ = some (.int .i64 r.split) ∧ w.cell? ⟨b, off + j * 7 + 3, none⟩ = some (.int .i64 r.attempt) ∧ w.cell? ⟨b, off + j * 7 + 4, none⟩ = some (.int .i64 r.reason) ∧ w.cell? ⟨b, off + j * 7 + 5, none⟩ = some (.slice so r.set.length sc) ∧ w.cell? ⟨b, off + j * 7 + 6, none⟩ = some (.slice po r.prs.length pc) := by
  obtain ⟨xs, h1, rfl, h3⟩ := h
  rw [List.length_map] at hj
  obtain ⟨b, off, e, hlt, hc⟩ := h1.cells (j := j) hj
  refine ⟨b, off, xs[j].r, xs[j].so, xs[j].sc, xs[j].po, xs[j].pc, by rw [List.getElem?_map, List.getElem?_eq_getElem hj]; rfl, e, hlt, h3 _ (List.getElem_mem hj), ?_⟩
  exact ⟨hc 0 _ rfl, hc 1 _ rfl, hc 2 _ rfl, hc 3 _ rfl, hc 4 _ rfl, hc 5 _ rfl, hc 6 _ rfl⟩
theorem Recs.nil (w : World) : Recs w (.slice none 0 0) [] := ⟨[], Reads.nil w, rfl, fun x hx => by simp at hx⟩
/-- The first k records. -/
theorem Recs.take {w : World} {ao : Option Addr} {m cap : Nat} {rs : List RecV} (h : Recs w (.slice ao m cap) rs) {k : Nat} (hk : k ≤ rs.length) : Recs w (.slice ao k cap) (rs.take k) := by
  obtain ⟨xs, h1, rfl, h3⟩ := h
  rw [List.length_map] at hk
  have hc : Reads 7 encR w (.slice ao (xs.take k).length cap) (xs.take k) := Reads.cut (r := xs.drop k) (by rw [List.take_append_drop]; exact h1)
  have hl : (xs.take k).length = k := by rw [List.length_take]; omega
  rw [hl] at hc
  exact ⟨_, hc, by rw [List.map_take], fun x hx => h3 x (List.mem_of_mem_take hx)⟩
/-- A new slice of records. -/
theorem Recs.made (x : RecX) (w : World) (h : x.Is w) : Recs (w.alloc (.cells #[.int .i64 x.r.kind, .int .i64 x.r.part, .int .i64 x.r.split, .int .i64 x.r.attempt, .int .i64 x.r.reason, .slice x.so x.r.set.length x.sc, .slice x.po x.r.prs.length x.pc] 33)) (.slice (some ⟨w.heap.size, 0, none⟩) 1 1) [x.r] :=
  ⟨[x], by have := Reads.made encR_len (by decide) 33 [x] w (by simp); exact this, rfl, fun y hy => by rw [List.mem_singleton.1 hy]; exact RecIs.below h (alloc_one _ _)⟩

/-! ### As they come in -/
abbrev RecT := Int × Int × Int × Int × Int × List Int × List (ByteArray × ByteArray)
abbrev rRec : Rd RecT := rPair 1 (rInt .i64) (rPair 1 (rInt .i64) (rPair 1 (rInt .i64) (rPair 1 (rInt .i64) (rPair 1 (rInt .i64) (rPair 1 (rSlice 1 (rInt .i64)) (rSlice 2 rPr))))))
theorem opens_rec : Opens Try.prog 33 7 rRec :=
  opens_struct Try.underlying33 (by kernel_rfl) (opensF_cons rfl (by kernel_rfl) (opens_int Try.underlying3) (opensF_cons rfl (by kernel_rfl) (opens_int Try.underlying3) (opensF_cons rfl (by kernel_rfl) (opens_int Try.underlying3) (opensF_cons rfl (by kernel_rfl) (opens_int Try.underlying3) (opensF_cons rfl (by kernel_rfl) (opens_int Try.underlying3) (opensF_cons rfl (by kernel_rfl) opens_ints (opensF_last rfl (by kernel_rfl) rfl opens_pairs)))))))
theorem opens_recs : Opens Try.prog 22 1 (rSlice 7 rRec) := @opens_slice _ ⟨(0, 0, 0, 0, 0, [], [])⟩ _ _ _ _ _ Try.underlying22 (by kernel_rfl) (by decide) opens_rec
theorem rec_arg {w : World} {ds : List Value} {a : RecT} (hl : ds.length = 7) (h : rRec w ds a) : ∃ x : RecX, x.Is w ∧ ds = encR x := by
  match ds, hl with
  | [x0, x1, x2, x3, x4, x5, x6], _ =>
    obtain ⟨a0, a1, a2, a3, a4, a5, a6⟩ := a
    obtain ⟨h0, h1, h2, h3, h4, h5, h6⟩ := h
    have k5 : Is w x5 a5 := (Is.arg h5).1
    have k6 : Prs w x6 a6 := Prs.arg h6
    have e0 : x0 = .int .i64 a0 := by simpa [rInt] using h0.1
    have e1 : x1 = .int .i64 a1 := by simpa [rInt] using h1.1
    have e2 : x2 = .int .i64 a2 := by simpa [rInt] using h2.1
    have e3 : x3 = .int .i64 a3 := by simpa [rInt] using h3.1
    have e4 : x4 = .int .i64 a4 := by simpa [rInt] using h4.1
    obtain ⟨so, sc, e5, -⟩ := id k5
    obtain ⟨po, pc, e6, -⟩ := id k6
    subst e0 e1 e2 e3 e4 e5 e6
    exact ⟨⟨⟨a0, a1, a2, a3, a4, a5, a6⟩, so, sc, po, pc⟩, ⟨k5, k6⟩, rfl⟩
theorem Recs.arg {w : World} {v : Value} {l : List RecT} (h : rSlice 7 rRec w [v] l) : ∃ rs, Recs w v rs := by
  obtain ⟨ao, cap, hv, h1, h2, h3, h4⟩ := h
  obtain rfl : v = _ := by simpa using hv
  by_cases hl : l = []
  · subst hl
    exact ⟨[], [], ⟨ao, cap, rfl, h1, h2, fun e => ⟨rfl, (h3 e).2⟩, fun h => absurd rfl h⟩, rfl, fun x hx => by simp at hx⟩
  · obtain ⟨b, off, rfl, hlt, hc⟩ := h4 hl
    haveI : Inhabited RecX := ⟨⟨⟨0, 0, 0, 0, 0, [], []⟩, none, 0, none, 0⟩⟩
    obtain ⟨f, hf⟩ := Go.Deep.choose_lt (α := RecX) (n := l.length) (p := fun j x => x.Is w ∧ ∀ k u, (encR x)[k]? = some u → w.cell? ⟨b, off + j * 7 + k, none⟩ = some u) (fun j hj => by
      obtain ⟨ds, hd, hr, hu⟩ := hc j l[j] (List.getElem?_eq_getElem hj)
      obtain ⟨x, hx, rfl⟩ := rec_arg hd hr
      exact ⟨x, hx, hu⟩)
    refine ⟨_, (List.range l.length).map f, ⟨some ⟨b, off, none⟩, cap, by simp, by simpa using h1, h2, (fun e => by cases e), fun _ => ⟨b, off, rfl, hlt, fun j x hj k u hu => ?_⟩⟩, rfl, fun x hx => ?_⟩
    · have hjl : j < l.length := by have := (List.getElem?_eq_some_iff.1 hj).1; simpa using this
      rw [List.getElem?_map, List.getElem?_range hjl] at hj
      cases hj
      exact (hf j hjl).2 k u hu
    · obtain ⟨j, hj, rfl⟩ := List.mem_map.1 hx
      exact (hf j (by simpa using hj)).1
end Go.Proofs.Ytpkobobandcclaa
