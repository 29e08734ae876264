/- Records as plain data: which may be, their bytes, what bytes begin with. No program in this text. -/
import Derived.Test.YtpkobobandcclaaRdMath
import Derived.Test.YtpkobobandcclaaJMath
namespace Go.Proofs.Ytpkobobandcclaa
open Go.RowKit
set_option linter.unusedVariables false

structure RecV where
  kind : Int
  part : Int
  split : Int
  attempt : Int
  reason : Int
  set : List Int
  prs : List KV

/-! ### Which may be -/
def setW (l : List Int) : Bool := decide (l.length ≤ 4) && l.all (fun x => inI x 0 40)
def setS (l : List Int) : Bool := l.all (fun x => inI x 0 5) && risesI l
def prsR (l : List KV) : Bool := decide (l.length ≤ 40) && l.all okJ
def mayR (r : RecV) : Bool :=
  if r.kind = 1 then inI r.split 0 5 && decide (r.part = 0) && inI r.attempt 1 3 && decide (r.reason = 0) && setW r.set && decide (r.prs.length = 0)
  else if r.kind = 2 ∨ r.kind = 6 then decide (r.split = 0) && decide (r.part = 0) && decide (r.attempt = 0) && decide (r.reason = 0) && decide (r.set.length = 0) && decide (r.prs.length = 0)
  else if r.kind = 3 then ((decide (r.attempt = 0) && inI r.split 0 5 && decide (r.part = 0)) || (decide (r.attempt = 1) && inI r.part 0 3 && decide (r.split = 0))) && inI r.reason 1 6 && decide (r.set.length = 0) && decide (r.prs.length = 0)
  else if r.kind = 4 then inI r.part 0 3 && inI r.split 0 5 && inI r.attempt 1 3 && decide (r.reason = 0) && decide (r.set.length = 0) && prsR r.prs
  else if r.kind = 5 then inI r.part 0 3 && decide (r.split = 0) && decide (r.attempt = 0) && decide (r.reason = 0) && setS r.set && decide (r.prs.length = 0)
  else false

theorem rises_up : ∀ (l : List Int) (a : Int), risesI (a :: l) = true → ∀ x ∈ l, a < x
  | [], _, _, x, hx => by simp at hx
  | b :: l, a, h, x, hx => by
    unfold risesI at h
    rw [Bool.and_eq_true, decide_eq_true_eq] at h
    rcases List.mem_cons.1 hx with e | e
    · rw [e]; exact h.1
    · have := rises_up l b h.2 x e
      omega
theorem rises_tail : ∀ {l : List Int} {a : Int}, risesI (a :: l) = true → risesI l = true
  | [], _, _ => rfl
  | b :: l, a, h => by
    unfold risesI at h
    rw [Bool.and_eq_true] at h
    exact h.2
theorem rises_len : ∀ (l : List Int) (n : Nat), risesI l = true → (∀ x ∈ l, (n : Int) ≤ x ∧ x ≤ 5) → l.length + n ≤ 6 ∨ l = []
  | [], _, _, _ => .inr rfl
  | a :: l, n, h, hx => by
    left
    have ha := hx a (by simp)
    rcases rises_len l (n + 1) (rises_tail h) (fun x m => by
      have h1 := rises_up l a h x m
      have h2 := hx x (List.mem_cons_of_mem _ m)
      omega) with e | e
    · rw [List.length_cons]; omega
    · rw [e]; simp only [List.length_cons, List.length_nil]; omega
theorem setS_len {l : List Int} (h : setS l = true) : l.length ≤ 6 := by
  unfold setS at h
  rw [Bool.and_eq_true, List.all_eq_true] at h
  rcases rises_len l 0 h.2 (fun x m => by have := inI_iff.1 (h.1 x m); omega) with e | e
  · omega
  · rw [e]; simp

/-- What holds of each that may be: small numbers, short lists, short texts. -/
structure FitR (r : RecV) : Prop where
  kind : 0 ≤ r.kind ∧ r.kind ≤ 6
  part : 0 ≤ r.part ∧ r.part ≤ 3
  split : 0 ≤ r.split ∧ r.split ≤ 5
  attempt : 0 ≤ r.attempt ∧ r.attempt ≤ 3
  reason : 0 ≤ r.reason ∧ r.reason ≤ 6
  slen : r.set.length ≤ 6
  set : ∀ x ∈ r.set, 0 ≤ x ∧ x ≤ 40
  plen : r.prs.length ≤ 40
  prs : ∀ x ∈ r.prs, x.1.size ≤ 16 ∧ x.2.size ≤ 64
theorem may_fit {r : RecV} (h : mayR r = true) : FitR r := by
  unfold mayR at h
  by_cases h1 : r.kind = 1
  · rw [if_pos h1] at h
    simp only [Bool.and_eq_true, inI_iff, decide_eq_true_eq, setW, List.all_eq_true] at h
    obtain ⟨⟨⟨⟨⟨a, b⟩, c⟩, d⟩, e1, e2⟩, f⟩ := h
    have f' := List.eq_nil_of_length_eq_zero f
    exact ⟨by omega, by omega, by omega, by omega, by omega, by omega, e2, by omega, by rw [f']; intro x hx; simp at hx⟩
  rw [if_neg h1] at h
  by_cases h2 : r.kind = 2 ∨ r.kind = 6
  · rw [if_pos h2] at h
    simp only [Bool.and_eq_true, decide_eq_true_eq] at h
    obtain ⟨⟨⟨⟨⟨a, b⟩, c⟩, d⟩, e⟩, f⟩ := h
    have e' := List.eq_nil_of_length_eq_zero e
    have f' := List.eq_nil_of_length_eq_zero f
    exact ⟨by omega, by omega, by omega, by omega, by omega, by omega, by rw [e']; intro x hx; simp at hx, by omega, by rw [f']; intro x hx; simp at hx⟩
  rw [if_neg h2] at h
  by_cases h3 : r.kind = 3
  · rw [if_pos h3] at h
    simp only [Bool.and_eq_true, Bool.or_eq_true, inI_iff, decide_eq_true_eq] at h
    obtain ⟨⟨⟨a, b⟩, e⟩, f⟩ := h
    have e' := List.eq_nil_of_length_eq_zero e
    have f' := List.eq_nil_of_length_eq_zero f
    exact ⟨by omega, by omega, by omega, by omega, by omega, by omega, by rw [e']; intro x hx; simp at hx, by omega, by rw [f']; intro x hx; simp at hx⟩
  rw [if_neg h3] at h
  by_cases h4 : r.kind = 4
  · rw [if_pos h4] at h
    simp only [Bool.and_eq_true, inI_iff, decide_eq_true_eq, prsR, List.all_eq_true, okJ] at h
    obtain ⟨⟨⟨⟨⟨a, b⟩, c⟩, d⟩, e⟩, f1, f2⟩ := h
    have e' := List.eq_nil_of_length_eq_zero e
    exact ⟨by omega, by omega, by omega, by omega, by omega, by omega, by rw [e']; intro x hx; simp at hx, by omega, f2⟩
  rw [if_neg h4] at h
  by_cases h5 : r.kind = 5
  · rw [if_pos h5] at h
    simp only [Bool.and_eq_true, inI_iff, decide_eq_true_eq] at h
    obtain ⟨⟨⟨⟨⟨a, b⟩, c⟩, d⟩, e⟩, f⟩ := h
    have hl := setS_len e
    have f' := List.eq_nil_of_length_eq_zero f
    unfold setS at e
    rw [Bool.and_eq_true, List.all_eq_true] at e
    exact ⟨by omega, by omega, by omega, by omega, by omega, hl, fun x hx => by have := inI_iff.1 (e.1 x hx); omega, by omega, by rw [f']; intro x hx; simp at hx⟩
  rw [if_neg h5] at h
  cases h

/-! ### Their bytes -/
def PB (ps : List KV) : List Int := ps.flatMap fun x => txt x.1 ++ txt x.2
theorem PB_cons (x : KV) (ps : List KV) : PB (x :: ps) = txt x.1 ++ (txt x.2 ++ PB ps) := by simp [PB, List.append_assoc]
theorem PB_app (a b : List KV) : PB (a ++ b) = PB a ++ PB b := by simp [PB]
theorem Byt.PB (ps : List KV) : Byt (PB ps) := fun x hx => by
  unfold Ytpkobobandcclaa.PB at hx
  obtain ⟨n, _, h⟩ := List.mem_flatMap.1 hx
  exact Byt.append (Byt.txt _) (Byt.txt _) x h
theorem PB_bd : ∀ (ps : List KV), (∀ x ∈ ps, x.1.size ≤ 16 ∧ x.2.size ≤ 64) → (PB ps).length ≤ 96 * ps.length
  | [], _ => by simp [PB]
  | x :: ps, h => by
    have h1 := PB_bd ps (fun y hy => h y (List.mem_cons_of_mem _ hy))
    have h2 := h x (by simp)
    rw [PB_cons, List.length_append, List.length_append, txt_length, txt_length, List.length_cons]
    omega
/-- Behind the kind, part, split, attempt and reason. -/
def tailR (r : RecV) : List Int := be8 r.set.length ++ (NB r.set ++ (be8 r.prs.length ++ PB r.prs))
def bodyR (r : RecV) : List Int := be8 r.kind ++ (be8 r.part ++ (be8 r.split ++ (be8 r.attempt ++ (be8 r.reason ++ tailR r))))
def layR (r : RecV) : List Int := be8 (bodyR r).length ++ bodyR r
def flatR (rs : List RecV) : List Int := rs.flatMap layR
/-- What Lay answers. -/
def layL (rs : List RecV) : List Int := if rs.all mayR then flatR rs else []
theorem flatR_cons (r : RecV) (rs : List RecV) : flatR (r :: rs) = layR r ++ flatR rs := rfl
theorem flatR_app (a b : List RecV) : flatR (a ++ b) = flatR a ++ flatR b := by simp [flatR]
theorem bodyR_length (r : RecV) : (bodyR r).length = 56 + 8 * r.set.length + (PB r.prs).length := by
  unfold bodyR tailR
  simp only [List.length_append, be8_length, NB_length]
  omega
theorem layR_length (r : RecV) : (layR r).length = 8 + (bodyR r).length := by unfold layR; rw [List.length_append, be8_length]
theorem Byt.bodyR (r : RecV) : Byt (bodyR r) := by
  unfold Ytpkobobandcclaa.bodyR Ytpkobobandcclaa.tailR
  exact Byt.append (Byt.be8 _) (Byt.append (Byt.be8 _) (Byt.append (Byt.be8 _) (Byt.append (Byt.be8 _) (Byt.append (Byt.be8 _) (Byt.append (Byt.be8 _) (Byt.append (Byt.NB _) (Byt.append (Byt.be8 _) (Byt.PB _))))))))
theorem Byt.layR (r : RecV) : Byt (layR r) := Byt.append (Byt.be8 _) (Byt.bodyR r)
theorem Byt.flatR (rs : List RecV) : Byt (flatR rs) := fun x hx => by
  unfold Ytpkobobandcclaa.flatR at hx
  obtain ⟨n, _, h⟩ := List.mem_flatMap.1 hx
  exact Byt.layR n x h
theorem fit_small {x : Int} (h0 : -1000000 ≤ x) (h1 : x ≤ 1000000) : Fit x := by unfold Fit; omega
theorem body_bd {r : RecV} (h : FitR r) : (bodyR r).length ≤ 4000 := by
  have := PB_bd r.prs h.prs
  have := h.plen
  have := h.slen
  rw [bodyR_length]
  omega

/-- Texts of sizes that are numbers of 64 bits. -/
def FitP (ps : List KV) : Prop := ∀ x ∈ ps, Fit x.1.size ∧ Fit x.2.size
theorem fitP_small {ps : List KV} (h : ∀ x ∈ ps, x.1.size ≤ 16 ∧ x.2.size ≤ 64) : FitP ps := fun x hx => by
  have := h x hx
  exact ⟨fit_small (by omega) (by omega), fit_small (by omega) (by omega)⟩
theorem PB_inj : ∀ (a b : List KV) (s t : List Int), FitP a → FitP b → a.length = b.length → PB a ++ s = PB b ++ t → a = b ∧ s = t
  | [], [], s, t, _, _, _, h => ⟨rfl, h⟩
  | [], _ :: _, _, _, _, _, hl, _ => by simp at hl
  | _ :: _, [], _, _, _, _, hl, _ => by simp at hl
  | x :: a, y :: b, s, t, ha, hb, hl, h => by
    rw [PB_cons, PB_cons, List.append_assoc, List.append_assoc, List.append_assoc, List.append_assoc] at h
    have hx := ha x (by simp)
    have hy := hb y (by simp)
    obtain ⟨h1, h2⟩ := txt_app hx.1 hy.1 h
    obtain ⟨h3, h4⟩ := txt_app hx.2 hy.2 h2
    obtain ⟨h5, h6⟩ := PB_inj a b s t (fun z hz => ha z (List.mem_cons_of_mem _ hz)) (fun z hz => hb z (List.mem_cons_of_mem _ hz)) (by simpa using hl) h4
    exact ⟨by rw [h5, Prod.ext h1 h3], h6⟩
/-- Bytes tell the record. -/
theorem body_inj {r q : RecV} {s t : List Int} (hr : FitR r) (hq : FitR q) (h : bodyR r ++ s = bodyR q ++ t) : r = q ∧ s = t := by
  unfold bodyR tailR at h
  simp only [List.append_assoc] at h
  have g1 := hr.kind; have g2 := hr.part; have g3 := hr.split; have g4 := hr.attempt; have g5 := hr.reason; have g6 := hr.slen; have g7 := hr.plen
  have k1 := hq.kind; have k2 := hq.part; have k3 := hq.split; have k4 := hq.attempt; have k5 := hq.reason; have k6 := hq.slen; have k7 := hq.plen
  obtain ⟨e1, h⟩ := be8_app (fit_small (by omega) (by omega)) (fit_small (by omega) (by omega)) h
  obtain ⟨e2, h⟩ := be8_app (fit_small (by omega) (by omega)) (fit_small (by omega) (by omega)) h
  obtain ⟨e3, h⟩ := be8_app (fit_small (by omega) (by omega)) (fit_small (by omega) (by omega)) h
  obtain ⟨e4, h⟩ := be8_app (fit_small (by omega) (by omega)) (fit_small (by omega) (by omega)) h
  obtain ⟨e5, h⟩ := be8_app (fit_small (by omega) (by omega)) (fit_small (by omega) (by omega)) h
  obtain ⟨e6, h⟩ := be8_app (fit_small (by omega) (by omega)) (fit_small (by omega) (by omega)) h
  obtain ⟨e7, h⟩ := NB_inj _ _ _ _ (fun x hx => by have := hr.set x hx; exact fit_small (by omega) (by omega)) (fun x hx => by have := hq.set x hx; exact fit_small (by omega) (by omega)) (by omega) h
  obtain ⟨e8, h⟩ := be8_app (fit_small (by omega) (by omega)) (fit_small (by omega) (by omega)) h
  obtain ⟨e9, h9⟩ := PB_inj _ _ _ _ (fitP_small hr.prs) (fitP_small hq.prs) (by omega) h
  clear h
  obtain ⟨a1, a2, a3, a4, a5, a6, a7⟩ := r
  obtain ⟨b1, b2, b3, b4, b5, b6, b7⟩ := q
  simp only at e1 e2 e3 e4 e5 e7 e9
  subst e1 e2 e3 e4 e5 e7 e9
  exact ⟨rfl, h9⟩
theorem lay_inj {r q : RecV} {s t : List Int} (hr : FitR r) (hq : FitR q) (h : layR r ++ s = layR q ++ t) : r = q ∧ s = t := by
  have hb := body_bd hr
  have hc := body_bd hq
  unfold layR at h
  simp only [List.append_assoc] at h
  obtain ⟨_, h⟩ := be8_app (fit_small (by omega) (by omega)) (fit_small (by omega) (by omega)) h
  exact body_inj hr hq h
theorem flat_inj : ∀ (a b : List RecV), (∀ r ∈ a, FitR r) → (∀ r ∈ b, FitR r) → flatR a = flatR b → a = b
  | [], [], _, _, _ => rfl
  | [], y :: b, _, _, h => by
    have := congrArg List.length h
    rw [flatR_cons, List.length_append, layR_length] at this
    simp [flatR] at this
    omega
  | x :: a, [], _, _, h => by
    have := congrArg List.length h
    rw [flatR_cons, List.length_append, layR_length] at this
    simp [flatR] at this
  | x :: a, y :: b, ha, hb, h => by
    rw [flatR_cons, flatR_cons] at h
    obtain ⟨h1, h2⟩ := lay_inj (ha x (by simp)) (hb y (by simp)) h
    rw [h1, flat_inj a b (fun r hr => ha r (List.mem_cons_of_mem _ hr)) (fun r hr => hb r (List.mem_cons_of_mem _ hr)) h2]

/-! ### What bytes begin with -/
/-- Bytes begin with a record that may be. -/
def Has (b : List Int) (r : RecV) : Prop := mayR r = true ∧ ∃ s, b = layR r ++ s
def HasNone (b : List Int) : Prop := ∀ r, ¬ Has b r
theorem has_unique {b : List Int} {r q : RecV} (h : Has b r) (k : Has b q) : r = q := by
  obtain ⟨h1, s, h2⟩ := h
  obtain ⟨k1, t, k2⟩ := k
  exact (lay_inj (may_fit h1) (may_fit k1) (h2 ▸ k2)).1
/-- Bytes begin with these records, and with no more. -/
def Begins (b : List Int) (rs : List RecV) (n : Nat) : Prop := (∀ r ∈ rs, mayR r = true) ∧ n = (flatR rs).length ∧ ∃ s, b = flatR rs ++ s ∧ HasNone s
theorem begins_unique : ∀ (rs qs : List RecV) (b : List Int) (n m : Nat), Begins b rs n → Begins b qs m → rs = qs ∧ n = m
  | [], [], b, n, m, h, k => ⟨rfl, by rw [h.2.1, k.2.1]⟩
  | [], q :: qs, b, n, m, h, k => by
    obtain ⟨_, _, s, hb, hs⟩ := h
    obtain ⟨k1, _, t, kb, kt⟩ := k
    rw [flatR_cons, List.append_assoc] at kb
    exact absurd ⟨k1 q (by simp), _, (show s = _ from (by simpa [flatR] using hb.symm.trans kb))⟩ (hs q)
  | r :: rs, [], b, n, m, h, k => by
    obtain ⟨_, _, s, hb, hs⟩ := k
    obtain ⟨k1, _, t, kb, kt⟩ := h
    rw [flatR_cons, List.append_assoc] at kb
    exact absurd ⟨k1 r (by simp), _, (show s = _ from (by simpa [flatR] using hb.symm.trans kb))⟩ (hs r)
  | r :: rs, q :: qs, b, n, m, h, k => by
    obtain ⟨h1, hn, s, hb, hs⟩ := h
    obtain ⟨k1, hm, t, kb, kt⟩ := k
    rw [flatR_cons, List.append_assoc] at hb kb
    obtain ⟨e1, e2⟩ := lay_inj (may_fit (h1 r (by simp))) (may_fit (k1 q (by simp))) (hb ▸ kb)
    obtain ⟨e3, _⟩ := begins_unique rs qs (flatR rs ++ s) _ _ ⟨fun x hx => h1 x (List.mem_cons_of_mem _ hx), rfl, s, rfl, hs⟩ ⟨fun x hx => k1 x (List.mem_cons_of_mem _ hx), rfl, t, e2, kt⟩
    subst e1 e3
    exact ⟨rfl, by rw [hn, hm]⟩
/-- One more is read. -/
theorem begins_cons {b : List Int} {r : RecV} {rs : List RecV} {n : Nat} (h : mayR r = true) (k : Begins b rs n) : Begins (layR r ++ b) (r :: rs) ((layR r).length + n) := by
  obtain ⟨k1, k2, s, k3, k4⟩ := k
  refine ⟨fun x hx => ?_, by rw [flatR_cons, List.length_append, k2], s, by rw [flatR_cons, List.append_assoc, ← k3], k4⟩
  rcases List.mem_cons.1 hx with e | e
  · rw [e]; exact h
  · exact k1 x e
theorem has_short {b : List Int} (h : b.length < 64) : HasNone b := fun r ⟨h1, s, h2⟩ => by
  have := congrArg List.length h2
  rw [List.length_append, layR_length, bodyR_length] at this
  omega
/-- Of a beginning of records' bytes the whole ones. -/
theorem begins_whole {rs : List RecV} {k j : Nat} (h : ∀ r ∈ rs, mayR r = true) (hj : j ≤ rs.length) (h1 : (flatR (rs.take j)).length ≤ k) (h2 : j = rs.length ∨ k < (flatR (rs.take (j + 1))).length) (hk : k ≤ (flatR rs).length) :
    Begins ((flatR rs).take k) (rs.take j) (flatR (rs.take j)).length := by
  have e : flatR rs = flatR (rs.take j) ++ flatR (rs.drop j) := by rw [← flatR_app, List.take_append_drop]
  refine ⟨fun r hr => h r (List.mem_of_mem_take hr), rfl, (flatR (rs.drop j)).take (k - (flatR (rs.take j)).length), ?_, ?_⟩
  · rw [e, List.take_append, List.take_of_length_le h1]
  · rintro r ⟨hr, s, hs⟩
    have hl := congrArg List.length hs
    rw [List.length_append, layR_length, List.length_take] at hl
    rcases Nat.lt_or_ge j rs.length with hlt | hge
    · rw [List.drop_eq_getElem_cons hlt, flatR_cons] at hs hl
      have h3 : k < (flatR (rs.take (j + 1))).length := by omega
      rw [List.take_succ_eq_append_getElem hlt, flatR_app, List.length_append] at h3
      have h4 : (flatR [rs[j]]).length = (layR rs[j]).length := by simp [flatR]
      have h5 := List.take_append_drop (k - (flatR (rs.take j)).length) (layR rs[j] ++ flatR (rs.drop (j + 1)))
      rw [hs, List.append_assoc] at h5
      have h6 := (lay_inj (may_fit hr) (may_fit (h _ (List.getElem_mem hlt))) h5).1
      rw [h6, ← layR_length] at hl
      omega
    · rw [List.drop_eq_nil_of_le hge] at hl
      simp [flatR] at hl
      omega
end Go.Proofs.Ytpkobobandcclaa
