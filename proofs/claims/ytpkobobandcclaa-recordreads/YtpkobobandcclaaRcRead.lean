/- How a record is read, step by step, over lists: each step that fails refutes every record that may be, the end builds it. No program in this text. -/
import Derived.Test.YtpkobobandcclaaRcMath
namespace Go.Proofs.Ytpkobobandcclaa
open Go.RowKit
set_option linter.unusedVariables false

/-- All its numbers, ahead of its pairs. -/
def numsR (r : RecV) : List Int := [r.kind, r.part, r.split, r.attempt, r.reason, (r.set.length : Int)] ++ (r.set ++ [(r.prs.length : Int)])
theorem numsR_length (r : RecV) : (numsR r).length = 7 + r.set.length := by simp [numsR]; omega
theorem body_nums (r : RecV) : bodyR r = NB (numsR r) ++ PB r.prs := by
  unfold bodyR tailR numsR
  simp [NB, List.append_assoc]
theorem numsR_fit {r : RecV} (h : FitR r) : ∀ x ∈ numsR r, Fit x := by
  intro x hx
  have g1 := h.kind; have g2 := h.part; have g3 := h.split; have g4 := h.attempt; have g5 := h.reason; have g6 := h.slen; have g7 := h.plen
  simp only [numsR, List.mem_append, List.mem_cons, List.not_mem_nil, or_false] at hx
  rcases hx with (e | e | e | e | e | e) | e | e
  · exact fit_small (by omega) (by omega)
  · exact fit_small (by omega) (by omega)
  · exact fit_small (by omega) (by omega)
  · exact fit_small (by omega) (by omega)
  · exact fit_small (by omega) (by omega)
  · exact fit_small (by omega) (by omega)
  · have := h.set x e
    exact fit_small (by omega) (by omega)
  · exact fit_small (by omega) (by omega)

/-- Bytes of which the body stands from place p to the end. -/
def Body (c : List Int) (p : Nat) (r : RecV) : Prop := mayR r = true ∧ c.drop p = bodyR r
/-- Numbers that were read from p on, as far as a. -/
structure Got (c : List Int) (p : Nat) (xs : List Int) (a : Nat) : Prop where
  at_ : a = p + 8 * xs.length
  le : a ≤ c.length
  fit : ∀ x ∈ xs, Fit x
  eq : c.drop p = NB xs ++ c.drop a
theorem Got.start (c : List Int) (p : Nat) (h : p ≤ c.length) : Got c p [] p := ⟨by simp, h, fun x hx => by simp at hx, by simp [NB]⟩
theorem Got.step {c : List Int} {p a : Nat} {xs : List Int} {x y : Int} (hB : Byt c) (h : Got c p xs a) (hr : rdNum c a = (x, y, true)) : y = ((a + 8 : Nat) : Int) ∧ Got c p (xs ++ [x]) (a + 8) := by
  obtain ⟨h1, h2, h3, h4⟩ := rd_pre hB hr
  refine ⟨h2, by rw [List.length_append, h.at_]; simp; omega, h3, fun z hz => ?_, ?_⟩
  · rcases List.mem_append.1 hz with e | e
    · exact h.fit z e
    · rw [List.mem_singleton.1 e]; exact h1
  · rw [NB_app, List.append_assoc, h.eq, h4]
    simp [NB]
theorem Got.pre {c : List Int} {p a : Nat} {xs zs : List Int} (h : Got c p (xs ++ zs) a) : Got c p xs (p + 8 * xs.length) := by
  have h1 := h.at_
  have h2 := h.le
  have h4 := h.eq
  rw [List.length_append] at h1
  rw [NB_app, List.append_assoc] at h4
  refine ⟨rfl, by omega, fun x hx => h.fit x (List.mem_append_left _ hx), ?_⟩
  rw [h4]
  congr 1
  rw [← List.drop_drop, h4]
  have := List.drop_left (l₁ := NB xs) (l₂ := NB zs ++ c.drop a)
  rw [NB_length] at this
  exact this.symm
/-- What was read so far is the record's. -/
theorem Got.same {c : List Int} {p a : Nat} {xs : List Int} {r : RecV} (h : Got c p xs a) (k : Body c p r) (hl : xs.length ≤ (numsR r).length) : xs = (numsR r).take xs.length ∧ c.drop a = NB ((numsR r).drop xs.length) ++ PB r.prs := by
  have e := h.eq
  rw [k.2, body_nums] at e
  have hf := numsR_fit (may_fit k.1)
  rw [← List.take_append_drop xs.length (numsR r), NB_app, List.append_assoc] at e
  obtain ⟨h1, h2⟩ := NB_inj _ _ _ _ (fun x hx => hf x (List.mem_of_mem_take hx)) h.fit (by rw [List.length_take]; omega) e
  exact ⟨h1.symm, h2.symm⟩
/-- A number that is lacking. -/
theorem Got.fail {c : List Int} {p a : Nat} {xs : List Int} {r : RecV} (h : Got c p xs a) (hr : (rdNum c a).2.2 = false) (k : Body c p r) (hl : xs.length < (numsR r).length) : False := by
  obtain ⟨_, h2⟩ := h.same k (Nat.le_of_lt hl)
  rw [List.drop_eq_getElem_cons hl, NB_cons, List.append_assoc] at h2
  exact rd_bad hr _ _ (numsR_fit (may_fit k.1) _ (List.getElem_mem hl)) h2

/-- The six that stand ahead. -/
theorem Got.six {c : List Int} {p a : Nat} {f0 f1 f2 f3 f4 f5 : Int} {r : RecV} (h : Got c p [f0, f1, f2, f3, f4, f5] a) (k : Body c p r) : f0 = r.kind ∧ f1 = r.part ∧ f2 = r.split ∧ f3 = r.attempt ∧ f4 = r.reason ∧ f5 = r.set.length := by
  have := (h.same k (by rw [numsR_length]; simp; omega)).1
  simpa [numsR] using this
/-- The set, as far as it was read. -/
theorem Got.set {c : List Int} {p a : Nat} {f0 f1 f2 f3 f4 f5 : Int} {ys : List Int} {r : RecV} (h : Got c p ([f0, f1, f2, f3, f4, f5] ++ ys) a) (k : Body c p r) (hl : ys.length ≤ r.set.length) : f0 = r.kind ∧ f1 = r.part ∧ f2 = r.split ∧ f3 = r.attempt ∧ f4 = r.reason ∧ f5 = r.set.length ∧ ys = r.set.take ys.length := by
  have := (h.same k (by rw [numsR_length, List.length_append]; simp; omega)).1
  rw [List.length_append] at this
  simp only [numsR, List.length_cons, List.length_nil, Nat.zero_add, Nat.reduceAdd] at this
  have e : ([r.kind, r.part, r.split, r.attempt, r.reason, (r.set.length : Int)] ++ (r.set ++ [(r.prs.length : Int)])).take (6 + ys.length) = [r.kind, r.part, r.split, r.attempt, r.reason, (r.set.length : Int)] ++ r.set.take ys.length := by
    rw [show 6 + ys.length = [r.kind, r.part, r.split, r.attempt, r.reason, (r.set.length : Int)].length + ys.length from rfl, List.take_length_add_append, List.take_append_of_le_length hl]
  rw [e] at this
  simpa using this
/-- All of its numbers. -/
theorem Got.all {c : List Int} {p a : Nat} {f0 f1 f2 f3 f4 many : Int} {ys : List Int} {r : RecV} (h : Got c p ([f0, f1, f2, f3, f4, (ys.length : Int)] ++ (ys ++ [many])) a) (k : Body c p r) : f0 = r.kind ∧ f1 = r.part ∧ f2 = r.split ∧ f3 = r.attempt ∧ f4 = r.reason ∧ ys = r.set ∧ many = r.prs.length ∧ c.drop a = PB r.prs := by
  have h1 : ys.length = r.set.length := by
    have := (Got.six h.pre k).2.2.2.2.2
    omega
  obtain ⟨e1, e2⟩ := h.same k (by rw [numsR_length, List.length_append, List.length_append]; simp; omega)
  rw [List.length_append, List.length_append] at e1 e2
  simp only [List.length_cons, List.length_nil, Nat.zero_add, Nat.reduceAdd] at e1 e2
  rw [List.take_of_length_le (by rw [numsR_length]; omega)] at e1
  rw [show (numsR r).drop (6 + (ys.length + 1)) = [] from List.drop_eq_nil_of_le (by rw [numsR_length]; omega)] at e2
  unfold numsR at e1
  simp only [List.cons_append, List.nil_append, List.cons.injEq] at e1
  obtain ⟨a0, a1, a2, a3, a4, a5, a6⟩ := e1
  obtain ⟨b1, b2⟩ := List.append_inj a6 h1
  exact ⟨a0, a1, a2, a3, a4, b1, by simpa using b2, by simpa [NB] using e2⟩

/-- Pairs that were read from q on, as far as a. -/
structure GotP (c : List Int) (q : Nat) (ps : List KV) (a : Nat) : Prop where
  le : a ≤ c.length
  fit : FitP ps
  eq : c.drop q = PB ps ++ c.drop a
theorem GotP.start (c : List Int) (q : Nat) (h : q ≤ c.length) : GotP c q [] q := ⟨h, fun x hx => by simp at hx, by simp [PB]⟩
theorem GotP.step {c : List Int} {q a : Nat} {ps : List KV} {s t : ByteArray} {x y : Int} (hB : Byt c) (h : GotP c q ps a) (h1 : rdText c a = (s, x, true)) (h2 : rdText c x = (t, y, true)) : x = ((a + 8 + s.size : Nat) : Int) ∧ y = ((a + 8 + s.size + 8 + t.size : Nat) : Int) ∧ GotP c q (ps ++ [(s, t)]) (a + 8 + s.size + 8 + t.size) := by
  obtain ⟨a1, a2, a3, a4⟩ := rdt_pre hB h1
  rw [a2] at h2
  obtain ⟨b1, b2, b3, b4⟩ := rdt_pre hB h2
  refine ⟨a2, b2, b3, fun z hz => ?_, ?_⟩
  · rcases List.mem_append.1 hz with e | e
    · exact h.fit z e
    · rw [List.mem_singleton.1 e]; exact ⟨a1, b1⟩
  · rw [PB_app, List.append_assoc, h.eq, a4, b4]
    simp [PB, List.append_assoc]
theorem GotP.same {c : List Int} {q a : Nat} {ps qs : List KV} (h : GotP c q ps a) (hq : FitP qs) (k : c.drop q = PB qs) (hl : ps.length ≤ qs.length) : ps = qs.take ps.length ∧ c.drop a = PB (qs.drop ps.length) := by
  have e := h.eq
  rw [k] at e
  rw [← List.take_append_drop ps.length qs, PB_app] at e
  obtain ⟨h1, h2⟩ := PB_inj _ _ _ _ (fun x hx => hq x (List.mem_of_mem_take hx)) h.fit (by rw [List.length_take]; omega) e
  exact ⟨h1.symm, h2.symm⟩
/-- A text that is lacking. -/
theorem GotP.fail {c : List Int} {q a : Nat} {ps qs : List KV} {x : Int} (h : GotP c q ps a) (hr : (rdText c a).2.2 = false ∨ ∃ s x, rdText c a = (s, x, true) ∧ (rdText c x).2.2 = false) (hq : FitP qs) (k : c.drop q = PB qs) (hl : ps.length < qs.length) : False := by
  obtain ⟨_, h2⟩ := h.same hq k (Nat.le_of_lt hl)
  rw [List.drop_eq_getElem_cons hl, PB_cons] at h2
  have hf := hq _ (List.getElem_mem hl)
  rcases hr with hr | ⟨s, x, hr, hr2⟩
  · exact rdt_bad hr _ _ hf.1 h2
  · obtain ⟨e1, e2⟩ := rdt_suf hf.1 h2
    rw [hr] at e1
    simp only [Prod.mk.injEq, and_true] at e1
    rw [e1.2] at hr2
    exact rdt_bad hr2 _ _ hf.2 e2

/-- All is read: the record stands there, if it may be, and nothing lies behind it. -/
theorem body_yes {c : List Int} {p q : Nat} {f0 f1 f2 f3 f4 : Int} {ys : List Int} {ps : List KV} (h : Got c p ([f0, f1, f2, f3, f4, (ys.length : Int)] ++ (ys ++ [(ps.length : Int)])) q) (k : GotP c q ps c.length) (hm : mayR ⟨f0, f1, f2, f3, f4, ys, ps⟩ = true) : Body c p ⟨f0, f1, f2, f3, f4, ys, ps⟩ := by
  refine ⟨hm, ?_⟩
  rw [body_nums, h.eq, k.eq, List.drop_eq_nil_of_le (Nat.le_refl _), List.append_nil]
  rfl
theorem body_no {c : List Int} {p q a : Nat} {f0 f1 f2 f3 f4 : Int} {ys : List Int} {ps : List KV} {r : RecV} (h : Got c p ([f0, f1, f2, f3, f4, (ys.length : Int)] ++ (ys ++ [(ps.length : Int)])) q) (k : GotP c q ps a) (hr : Body c p r) : a = c.length ∧ r = ⟨f0, f1, f2, f3, f4, ys, ps⟩ := by
  obtain ⟨e0, e1, e2, e3, e4, e5, e6, e7⟩ := h.all hr
  obtain ⟨g1, g2⟩ := k.same (fitP_small (may_fit hr.1).prs) e7 (by omega)
  rw [List.take_of_length_le (by omega)] at g1
  rw [show r.prs.drop ps.length = [] from List.drop_eq_nil_of_le (by omega)] at g2
  have hl := congrArg List.length g2
  rw [List.length_drop] at hl
  have := k.le
  refine ⟨by simp [PB] at hl; omega, ?_⟩
  rw [e0, e1, e2, e3, e4, e5, g1]

/-! ### The number of bytes ahead of it -/
theorem has_head {b : List Int} {r : RecV} (h : Has b r) : rdNum b 0 = (((bodyR r).length : Int), 8, true) ∧ 8 + (bodyR r).length ≤ b.length ∧ Body (b.take (8 + (bodyR r).length)) 8 r ∧ Body ((b.drop 8).take (bodyR r).length) 0 r := by
  obtain ⟨h1, s, h2⟩ := h
  have hb := body_bd (may_fit h1)
  have hd : b.drop 0 = be8 ((bodyR r).length : Int) ++ (bodyR r ++ s) := by rw [List.drop_zero, h2]; unfold layR; rw [List.append_assoc]
  obtain ⟨h3, h4⟩ := rd_suf (a := 0) (fit_small (by omega) (by omega)) hd
  have hl := congrArg List.length h2
  rw [List.length_append, layR_length] at hl
  refine ⟨by simpa using h3, by omega, ⟨h1, ?_⟩, ⟨h1, ?_⟩⟩
  · rw [h2, show 8 + (bodyR r).length = (layR r).length from (layR_length r).symm, List.take_left]
    unfold layR
    have := List.drop_left (l₁ := be8 ((bodyR r).length : Int)) (l₂ := bodyR r)
    rwa [be8_length] at this
  · rw [List.drop_zero, h4, List.take_left]
theorem has_back {b : List Int} {r : RecV} {n : Nat} (hB : Byt b) (h : rdNum b 0 = ((n : Int), 8, true)) (hn : 8 + n ≤ b.length) (hr : mayR r = true) (k : (b.drop 8).take n = bodyR r) : Has b r ∧ (layR r).length = 8 + n ∧ b = layR r ++ b.drop (8 + n) := by
  obtain ⟨_, _, _, h4⟩ := rd_pre (a := 0) hB h
  rw [List.drop_zero, Nat.zero_add] at h4
  have hl : (bodyR r).length = n := by rw [← k, List.length_take, List.length_drop]; omega
  have e : b = layR r ++ b.drop (8 + n) := by
    unfold layR
    rw [List.append_assoc, hl, ← k, ← List.drop_drop, List.take_append_drop]
    exact h4
  exact ⟨⟨hr, _, e⟩, by rw [layR_length, hl], e⟩
theorem take_drop8 (b : List Int) (n : Nat) : (b.take (8 + n)).drop 8 = (b.drop 8).take n := by rw [List.drop_take]; congr 1; omega
end Go.Proofs.Ytpkobobandcclaa
