/- readOne: the record that stands at a place, or none. -/
import Derived.Test.YtpkobobandcclaaRcRec
import Derived.Test.YtpkobobandcclaaRcMayAll
namespace Go.Proofs.Ytpkobobandcclaa
open Go.RowKit
set_option linter.unusedVariables false

/-! ### Over lists -/
theorem rdNum_drop {l : List Int} {a : Nat} (h : a ≤ l.length) : rdNum (l.drop a) 0 = if (rdNum l a).2.2 then ((rdNum l a).1, 8, true) else (0, 0, false) := by
  unfold rdNum
  by_cases hn : noNum l a
  · have hm : noNum (l.drop a) 0 := by unfold noNum at *; rw [List.length_drop]; omega
    rw [if_pos hn, if_pos hm]
    rfl
  · have hm : ¬ noNum (l.drop a) 0 := by unfold noNum at *; rw [List.length_drop]; omega
    rw [if_neg hn, if_neg hm]
    unfold numAt
    simp
theorem one_has {l : List Int} {a : Nat} {r : RecV} (ha : a ≤ l.length) (h : Has (l.drop a) r) : ∃ n : Nat, rdNum l a = ((n : Int), ((a + 8 : Nat) : Int), true) ∧ a + 8 + n ≤ l.length ∧ Body (l.take (a + 8 + n)) (a + 8) r := by
  obtain ⟨h1, h2, h3, h4⟩ := has_head h
  rw [rdNum_drop ha] at h1
  have hz : (rdNum l a).2.2 = true := by
    cases e : (rdNum l a).2.2 with
    | true => rfl
    | false => rw [e] at h1; simp at h1
  rw [if_pos hz] at h1
  simp only [Prod.mk.injEq, and_true] at h1
  refine ⟨(bodyR r).length, ?_, by rw [List.length_drop] at h2; omega, h3.1, ?_⟩
  · unfold rdNum at h1 hz ⊢
    split at hz
    · cases hz
    · rename_i hn
      rw [if_neg hn] at h1 ⊢
      rw [show numAt l a = _ from h1]
      rfl
  · rw [List.drop_take, show a + 8 + (bodyR r).length - (a + 8) = (bodyR r).length by omega]
    have := h4.2
    rw [List.drop_zero, List.drop_drop] at this
    exact this
theorem one_back {l : List Int} {a n : Nat} {r : RecV} (hB : Byt l) (ha : a ≤ l.length) (h : rdNum l a = ((n : Int), ((a + 8 : Nat) : Int), true)) (hn : a + 8 + n ≤ l.length) (k : Body (l.take (a + 8 + n)) (a + 8) r) : Has (l.drop a) r ∧ (layR r).length = 8 + n := by
  have h0 : rdNum (l.drop a) 0 = ((n : Int), 8, true) := by
    rw [rdNum_drop ha, h]
    simp
  have h1 : ((l.drop a).drop 8).take n = bodyR r := by
    have := k.2
    rw [List.drop_take, show a + 8 + n - (a + 8) = n by omega] at this
    rw [List.drop_drop]
    exact this
  obtain ⟨h2, h3, _⟩ := has_back (hB.drop a) h0 (by rw [List.length_drop]; omega) k.1 h1
  exact ⟨h2, h3⟩
theorem none_num {l : List Int} {a : Nat} {x y : Int} (ha : a ≤ l.length) (h : rdNum l a = (x, y, false)) : HasNone (l.drop a) := by
  intro r hr
  obtain ⟨n, h1, _⟩ := one_has ha hr
  rw [h] at h1
  simp at h1
theorem none_size {l : List Int} {a : Nat} {x y : Int} (ha : a ≤ l.length) (h : rdNum l a = (x, y, true)) (hx : x < 0 ∨ (l.length : Int) - (a + 8) < x) : HasNone (l.drop a) := by
  intro r hr
  obtain ⟨n, h1, h2, _⟩ := one_has ha hr
  rw [h] at h1
  simp only [Prod.mk.injEq, and_true] at h1
  omega
theorem none_body {l : List Int} {a n : Nat} {y : Int} (ha : a ≤ l.length) (h : rdNum l a = ((n : Int), y, true)) (hb : ∀ r, ¬ Body (l.take (a + 8 + n)) (a + 8) r) : HasNone (l.drop a) := by
  intro r hr
  obtain ⟨m, h1, h2, h3⟩ := one_has ha hr
  rw [h] at h1
  simp only [Prod.mk.injEq, and_true] at h1
  have : n = m := by omega
  subst this
  exact hb r h3
/-- What was read refutes or is the record. -/
theorem Told.none {c : List Int} {p : Nat} {f0 f1 f2 f3 f4 : Int} {ys : List Int} {ps : List KV} {q a : Nat} {ok : Bool} (h : Told c p f0 f1 f2 f3 f4 ys ps q a ok) (hn : ok = false ∨ a ≠ c.length ∨ mayR ⟨f0, f1, f2, f3, f4, ys, ps⟩ = false) : ∀ r, ¬ Body c p r := by
  cases ok with
  | false => exact h.no rfl
  | true =>
    obtain ⟨g1, g2⟩ := h.yes rfl
    intro r hr
    obtain ⟨e1, e2⟩ := body_no g1 g2 hr
    rcases hn with hn | hn | hn
    · cases hn
    · exact hn e1
    · rw [← e2, hr.1] at hn
      cases hn
theorem Told.some {c : List Int} {p : Nat} {f0 f1 f2 f3 f4 : Int} {ys : List Int} {ps : List KV} {q : Nat} (h : Told c p f0 f1 f2 f3 f4 ys ps q c.length true) (hm : mayR ⟨f0, f1, f2, f3, f4, ys, ps⟩ = true) : Body c p ⟨f0, f1, f2, f3, f4, ys, ps⟩ := by
  obtain ⟨g1, g2⟩ := h.yes rfl
  exact body_yes g1 g2 hm

theorem results_cell3 {P : Program} {fn : Func} {p u v : Tmp} {ty : TypeId} (h : fn.results = #[.cell p ty, .tmp u, .tmp v]) (tmps : Array Value) (w : World) (g : Nat) (t : TypeId) (cs : Array Value) (fr : Nat × Nat) (d : TypeDesc)
    (hp : tmps.getD p undef = .pointer (some ⟨g, 0, none⟩)) (hg : w.heap[g]? = some (.cells cs t fr))
    (hu : P.underlying ty = some d) (hd : (match d with | .struct _ | .array _ _ => true | _ => false) = true) (hi : (P.info? ty).map (·.size) = some cs.size) :
    (results fn tmps).run P w = .ok (.tuple #[.agg cs, tmps.getD u undef, tmps.getD v undef]) w := by
  have hp' : tmps[p]?.getD undef = .pointer (some ⟨g, 0, none⟩) := by simpa using hp
  simp [results, h, hp', asAddr, run_loadVar_row w g t ty cs fr d hg hu hd hi]

/-- A record's lists are owned. -/
structure RecX.Own (B : Nat) (x : RecX) (w : World) : Prop where
  set : w.ownsRow B 3 1 (.slice x.so x.r.set.length x.sc) x.r.set.length (ict x.r.set)
  prs : w.ownsRow B 57 2 (.slice x.po x.r.prs.length x.pc) x.r.prs.length (fl encP x.r.prs)
theorem RecX.Own.is {B : Nat} {x : RecX} {w : World} (h : x.Own B w) : x.Is w := ⟨ints_own h.set, Reads.own encP_len (by decide) h.prs⟩
theorem RecX.Own.below {B : Nat} {x : RecX} {w w' : World} (h : x.Own B w) (hb : Below w.heap.size w w') : x.Own B w' := ⟨owns_below h.set hb, owns_below h.prs hb⟩
def zeroR : Array Value := #[.int .i64 0, .int .i64 0, .int .i64 0, .int .i64 0, .int .i64 0, .slice none 0 0, .slice none 0 0]
/-- A record is answered, and the place behind it; or none. -/
def OneIs (l : List Int) (at_ base : Nat) (W : World) (e : Ending) (w' : World) : Prop :=
  Below W.heap.size W w' ∧ ((∃ x : RecX, e = .returned (.tuple #[.agg #[.int .i64 x.r.kind, .int .i64 x.r.part, .int .i64 x.r.split, .int .i64 x.r.attempt, .int .i64 x.r.reason, .slice x.so x.r.set.length x.sc, .slice x.po x.r.prs.length x.pc], .int .i64 ((base + (layR x.r).length : Nat) : Int), .bool true]) ∧ Has (l.drop at_) x.r ∧ x.Own W.heap.size w') ∨
    (e = .returned (.tuple #[.agg #[.int .i64 0, .int .i64 0, .int .i64 0, .int .i64 0, .int .i64 0, .slice none 0 0, .slice none 0 0], .int .i64 0, .bool false]) ∧ HasNone (l.drop at_)))
theorem seven_below {w : World} {b : Nat} {t : TypeId} {z0 z1 z2 z3 z4 z5 z6 : Value} {W : World} (hb : Below W.heap.size W w) (hl : W.heap.size ≤ b) (h : w.heap[b]? = some (.cells #[z0, z1, z2, z3, z4, z5, z6] t (0, 0))) (v0 v1 v2 v3 v4 v5 v6 : Value) :
    Below W.heap.size W (((((((w.setCell ⟨b, 0, none⟩ v0).setCell ⟨b, 1, none⟩ v1).setCell ⟨b, 2, none⟩ v2).setCell ⟨b, 3, none⟩ v3).setCell ⟨b, 4, none⟩ v4).setCell ⟨b, 5, none⟩ v5).setCell ⟨b, 6, none⟩ v6) :=
  hb.trans ((set_seven h v0 v1 v2 v3 v4 v5 v6).2.below (fun k hk => by unfold Just at hk; omega) hb.size)
end Go.Proofs.Ytpkobobandcclaa
