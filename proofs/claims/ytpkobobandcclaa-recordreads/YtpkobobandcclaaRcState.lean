/- What is known of a record while it is read, step by step; count; the state of the program's reading. -/
import Derived.Test.YtpkobobandcclaaRcRdr
namespace Go.Proofs.Ytpkobobandcclaa
open Go.RowKit
set_option linter.unusedVariables false

/-! ### Over lists -/
/-- Numbers that were read, or no record stands there. -/
structure NSt (c : List Int) (p : Nat) (xs : List Int) (ok : Bool) (a : Nat) : Prop where
  yes : ok = true → Got c p xs a
  no : ok = false → ∀ r, ¬ Body c p r
theorem NSt.start (c : List Int) (p : Nat) (h : p ≤ c.length) : NSt c p [] true p := ⟨fun _ => Got.start c p h, fun h => by cases h⟩
theorem NSt.num {c : List Int} {p a a' : Nat} {xs : List Int} {ok ok' : Bool} {x : Int} (h : NSt c p xs ok a) (hB : Byt c) (n : NumIs c a ok x a' ok') (hl : Got c p xs a → ∀ r, Body c p r → xs.length < (numsR r).length) : NSt c p (xs ++ [x]) ok' a' := by
  refine ⟨fun e => ?_, fun e r k => ?_⟩
  · obtain ⟨e1, e2, rfl⟩ := n.yes e
    exact ((h.yes e1).step hB e2).2
  · cases ok with
    | false => exact h.no rfl r k
    | true =>
      rcases n.no e with e1 | e1
      · cases e1
      · exact (h.yes rfl).fail e1 k (hl (h.yes rfl) r k)
/-- How many there are, from none to most; or it was lacking, or is none of these. -/
structure CountIs (c : List Int) (at_ : Nat) (ok : Bool) (most n : Int) (a : Nat) (ok' : Bool) : Prop where
  le : a ≤ c.length
  lo : 0 ≤ n
  hi : n ≤ most
  yes : ok' = true → ok = true ∧ rdNum c at_ = (n, ((at_ + 8 : Nat) : Int), true) ∧ a = at_ + 8
  no : ok' = false → ok = false ∨ (rdNum c at_).2.2 = false ∨ ∃ x, rdNum c at_ = (x, ((at_ + 8 : Nat) : Int), true) ∧ inI x 0 most = false
theorem NSt.count {c : List Int} {p a a' : Nat} {xs : List Int} {ok ok' : Bool} {most n : Int} (h : NSt c p xs ok a) (hB : Byt c) (k : CountIs c a ok most n a' ok') (hl : Got c p xs a → ∀ r, Body c p r → xs.length < (numsR r).length)
    (hx : ∀ x, Got c p (xs ++ [x]) (a + 8) → ∀ r, Body c p r → inI x 0 most = true) : NSt c p (xs ++ [n]) ok' a' := by
  refine ⟨fun e => ?_, fun e r q => ?_⟩
  · obtain ⟨e1, e2, rfl⟩ := k.yes e
    exact ((h.yes e1).step hB e2).2
  · cases ok with
    | false => exact h.no rfl r q
    | true =>
      rcases k.no e with e1 | e1 | ⟨x, e1, e2⟩
      · cases e1
      · exact (h.yes rfl).fail e1 q (hl (h.yes rfl) r q)
      · rw [hx x ((h.yes rfl).step hB e1).2 r q] at e2
        cases e2
/-- Pairs that were read behind the numbers, or no record stands there. -/
structure PSt (c : List Int) (p q : Nat) (xs : List Int) (ps : List KV) (ok : Bool) (a : Nat) : Prop where
  yes : ok = true → Got c p xs q ∧ GotP c q ps a
  no : ok = false → ∀ r, ¬ Body c p r
theorem PSt.start {c : List Int} {p q : Nat} {xs : List Int} {ok : Bool} (h : NSt c p xs ok q) : PSt c p q xs [] ok q := ⟨fun e => ⟨h.yes e, GotP.start c q (h.yes e).le⟩, h.no⟩
theorem PSt.pair {c : List Int} {p q a a1 a2 : Nat} {xs : List Int} {ps : List KV} {ok ok1 ok2 : Bool} {s t : ByteArray} (h : PSt c p q xs ps ok a) (hB : Byt c) (k1 : TextIs c a ok s a1 ok1) (k2 : TextIs c a1 ok1 t a2 ok2)
    (hl : Got c p xs q → ∀ r, Body c p r → FitP r.prs ∧ c.drop q = PB r.prs ∧ ps.length < r.prs.length) : PSt c p q xs (ps ++ [(s, t)]) ok2 a2 := by
  refine ⟨fun e => ?_, fun e r k => ?_⟩
  · obtain ⟨e1, e2, rfl⟩ := k2.yes e
    obtain ⟨f1, f2, rfl⟩ := k1.yes e1
    obtain ⟨g1, g2⟩ := h.yes f1
    refine ⟨g1, ?_⟩
    have := (g2.step hB f2 e2).2.2
    exact this
  · cases ok with
    | false => exact h.no rfl r k
    | true =>
      obtain ⟨g1, g2⟩ := h.yes rfl
      obtain ⟨l1, l2, l3⟩ := hl g1 r k
      refine GotP.fail (x := 0) g2 ?_ l1 l2 l3
      cases ok1 with
      | false =>
        rcases k1.no rfl with e1 | e1
        · cases e1
        · exact .inl e1
      | true =>
        obtain ⟨_, f2, f3⟩ := k1.yes rfl
        rcases k2.no e with e1 | e1
        · cases e1
        · exact .inr ⟨s, _, f2, by rw [f3] at e1; exact e1⟩

/-! ### count -/
theorem rdrCount_any (X : Nat) (sb : Value) (c : List Int) (at_ : Nat) (ok : Bool) (most : Int) (w : World) (h : Rdr X sb c at_ ok w) (hm : 0 ≤ most) :
    Calls Try.prog 65 #[.pointer (some ⟨X, 0, none⟩), .int .i64 most] w fun e w' => ∃ n a ok', e = .returned (.int .i64 n) ∧ Rdr X sb c a ok' w' ∧ Sav (Just X) w w' ∧ CountIs c at_ ok most n a ok' := by
  have H := hid h
  have HM := hid hm
  clear h hm
  go_enter Try.func65, Try.ntmps65
  go_wp2_with fail
  refine (rdrNum_any X sb c at_ ok w H.out).mono ?_
  rintro e w1 ⟨x, a, ok1, rfl, h1, s1, n1⟩
  have H1 := hid h1
  have S1 := hid s1
  have N1 := hid n1
  clear h1 s1 n1
  go_wp2_with fail
  refine (recWithin_calls x 0 most _).mono ?_
  rintro e w2 ⟨rfl, rfl⟩
  obtain ⟨g, hg⟩ : ∃ g, inI x 0 most = g := ⟨_, rfl⟩
  have HG := hid hg
  rw [hg]
  clear hg
  cases g
  · have hlt := lt_of_block H1.out.blk
    have c2 : w1.cell? ⟨X, 2, none⟩ = some (.bool ok1) := cell_of_cells H1.out.blk
    have f2 : w1.frozen? ⟨X, 2, none⟩ = false := free_of_cells H1.out.blk
    go_wp2
    go_ret
    have hs : Sav (Just X) w1 (w1.setCell ⟨X, 2, none⟩ (.bool false)) := (Sav.refl _ w1).setCell (just X) 2 _
    refine ⟨0, a, false, rfl, ⟨set_same H1.out.blk, H1.out.keep hs, H1.out.byt, H1.out.le⟩, S1.out.trans hs, ⟨H1.out.le, Int.le_refl _, HM.out, (fun e => by cases e), fun _ => ?_⟩⟩
    cases ok1 with
    | false => rcases N1.out.no rfl with e | e
               · exact .inl e
               · exact .inr (.inl e)
    | true => exact .inr (.inr ⟨x, (N1.out.yes rfl).2.1, HG.out⟩)
  · go_wp2
    go_ret
    have hx := inI_iff.1 HG.out
    exact ⟨x, a, ok1, rfl, H1.out, S1.out, ⟨H1.out.le, hx.1, hx.2, N1.out.yes, fun e => (N1.out.no e).imp id .inl⟩⟩

/-! ### The record that is being read -/
structure RS (W : World) (X : Nat) (sb : Value) (c : List Int) (R : Nat) (f0 f1 f2 f3 f4 : Int) (sv pv : Value) (ys : List Int) (ps : List KV) (a : Nat) (ok : Bool) (w : World) : Prop where
  rd : Rdr X sb c a ok w
  ini : ∃ a0 ok0, Rdr X sb c a0 ok0 W
  rcd : w.heap[R]? = some (.cells #[.int .i64 f0, .int .i64 f1, .int .i64 f2, .int .i64 f3, .int .i64 f4, sv, pv] 33 (0, 0))
  set : w.ownsRow W.heap.size 3 1 sv ys.length (ict ys)
  prs : w.ownsRow W.heap.size 57 2 pv ps.length (fl encP ps)
  res : w.heap[W.heap.size]? = some (.cells #[.int .i64 0, .int .i64 0, .int .i64 0, .int .i64 0, .int .i64 0, .slice none 0 0, .slice none 0 0] 33 (0, 0))
  sav : Sav (Just X) W w
  rlo : W.heap.size < R
section
variable {W : World} {X : Nat} {sb : Value} {c : List Int} {R : Nat} {f0 f1 f2 f3 f4 : Int} {sv pv : Value} {ys : List Int} {ps : List KV} {a : Nat} {ok : Bool} {w : World}
theorem RS.xlt (h : RS W X sb c R f0 f1 f2 f3 f4 sv pv ys ps a ok w) : X < W.heap.size := by
  obtain ⟨a0, ok0, h0⟩ := h.ini
  exact lt_of_block h0.blk
theorem RS.low (h : RS W X sb c R f0 f1 f2 f3 f4 sv pv ys ps a ok w) : W.heap.size ≤ w.heap.size := h.sav.size
/-- The reader has gone on. -/
theorem RS.goes (h : RS W X sb c R f0 f1 f2 f3 f4 sv pv ys ps a ok w) {w' : World} {a' : Nat} {ok' : Bool} (k : Rdr X sb c a' ok' w') (hs : Sav (Just X) w w') : RS W X sb c R f0 f1 f2 f3 f4 sv pv ys ps a' ok' w' := by
  have hx := h.xlt
  have hr := h.rlo
  refine ⟨k, h.ini, hs.at h.rcd (fun e => by unfold Just at e; omega), owns_sav h.set hs (fun q hq e => owns_ne h.set h.rd.blk (by decide) (by rw [hq, e])), owns_sav h.prs hs (fun q hq e => owns_ne h.prs h.rd.blk (by decide) (by rw [hq, e])), hs.at h.res (fun e => by unfold Just at e; omega), h.sav.trans hs, h.rlo⟩
theorem RS.on (h : RS W X sb c R f0 f1 f2 f3 f4 sv pv ys ps a ok w) {w' : World} (hb : Below w.heap.size w w') : RS W X sb c R f0 f1 f2 f3 f4 sv pv ys ps a ok w' := h.goes (h.rd.below hb) (Sav.of_below hb)
/-- A row that lies behind W grows. -/
theorem RS.grows (h : RS W X sb c R f0 f1 f2 f3 f4 sv pv ys ps a ok w) {w' : World} {row : Option Nat} (hg : w.grownBy w' row) (hr : ∀ k, row = some k → W.heap.size ≤ k) (hX : row ≠ some X) : Sav (Just X) W w' ∧ Rdr X sb c a ok w' := by
  have hs : Sav (Just X) W w' := ⟨hg.os.trans h.sav.os, hg.tape.trans h.sav.tape, hg.output.trans h.sav.output, Nat.le_trans h.sav.size hg.size, fun k hk hn => (hg.block k (Nat.lt_of_lt_of_le hk h.sav.size) (fun e => by have := hr k e.symm; omega)).trans (h.sav.block k hk hn)⟩
  obtain ⟨a0, ok0, h0⟩ := h.ini
  exact ⟨hs, (hg.block X (lt_of_block h.rd.blk) (fun e => hX e.symm)).trans h.rd.blk, h0.keep hs, h.rd.byt, h.rd.le⟩
theorem RS.pushSet (h : RS W X sb c R f0 f1 f2 f3 f4 sv pv ys ps a ok w) {w' : World} {v : Value} {x : Int} (ho : w'.ownsRow W.heap.size 3 1 v (ys.length + 1) (ict ys ++ [.int .i64 x])) (hg : w.grownBy w' sv.ownBlock) : RS W X sb c R f0 f1 f2 f3 f4 v pv (ys ++ [x]) ps a ok (w'.setCell ⟨R, 5, none⟩ v) := by
  have hx := h.xlt
  have hr := h.rlo
  obtain ⟨hs, hrd⟩ := h.grows hg (fun k hk => (h.set.lt k hk).1) (fun e => owns_ne h.set h.rd.blk (by decide) e.symm)
  have hrc : w'.heap[R]? = _ := grown_at h.set hg h.rcd (by decide)
  have hrs : w'.heap[W.heap.size]? = _ := grown_at h.set hg h.res (by decide)
  have s2 : Sav (Just R) w' (w'.setCell ⟨R, 5, none⟩ v) := (Sav.refl _ w').setCell (just R) 5 v
  refine ⟨⟨s2.at hrd.blk (fun e => by unfold Just at e; omega), hrd.bs.apart s2 hrc ?_, hrd.byt, hrd.le⟩, h.ini, by rw [set_same hrc]; rfl, ?_, ?_, s2.at hrs (fun e => by unfold Just at e; omega), hs.then s2 (fun i hi e => by unfold Just at e; omega), hr⟩
  · intro j n e
    obtain ⟨so, sc, hso⟩ := owns_slice h.set
    obtain ⟨po, pc, hpo⟩ := owns_slice h.prs
    rw [hso, hpo] at e
    match j with
    | 0 | 1 | 2 | 3 | 4 | 5 | 6 => simp at e
    | j + 7 => simp at e
  · have : w'.ownsRow W.heap.size 3 1 v (ys ++ [x]).length (ict (ys ++ [x])) := by rw [List.length_append, ict_append]; exact ho
    exact owns_sav this s2 (fun q hq e => owns_ne this hrc (by decide) (by rw [hq, e]))
  · have : w'.ownsRow W.heap.size 57 2 pv ps.length (fl encP ps) := owns_grown h.prs h.set (by decide) hg
    exact owns_sav this s2 (fun q hq e => owns_ne this hrc (by decide) (by rw [hq, e]))
theorem RS.pushPair (h : RS W X sb c R f0 f1 f2 f3 f4 sv pv ys ps a ok w) {w' : World} {v : Value} {x : KV} (ho : w'.ownsRow W.heap.size 57 2 v (ps.length + 1) (fl encP ps ++ [.string x.1, .string x.2])) (hg : w.grownBy w' pv.ownBlock) : RS W X sb c R f0 f1 f2 f3 f4 sv v ys (ps ++ [x]) a ok (w'.setCell ⟨R, 6, none⟩ v) := by
  have hx := h.xlt
  have hr := h.rlo
  obtain ⟨hs, hrd⟩ := h.grows hg (fun k hk => (h.prs.lt k hk).1) (fun e => owns_ne h.prs h.rd.blk (by decide) e.symm)
  have hrc : w'.heap[R]? = _ := grown_at h.prs hg h.rcd (by decide)
  have hrs : w'.heap[W.heap.size]? = _ := grown_at h.prs hg h.res (by decide)
  have s2 : Sav (Just R) w' (w'.setCell ⟨R, 6, none⟩ v) := (Sav.refl _ w').setCell (just R) 6 v
  refine ⟨⟨s2.at hrd.blk (fun e => by unfold Just at e; omega), hrd.bs.apart s2 hrc ?_, hrd.byt, hrd.le⟩, h.ini, by rw [set_same hrc]; rfl, ?_, ?_, s2.at hrs (fun e => by unfold Just at e; omega), hs.then s2 (fun i hi e => by unfold Just at e; omega), hr⟩
  · intro j n e
    obtain ⟨so, sc, hso⟩ := owns_slice h.set
    obtain ⟨po, pc, hpo⟩ := owns_slice h.prs
    rw [hso, hpo] at e
    match j with
    | 0 | 1 | 2 | 3 | 4 | 5 | 6 => simp at e
    | j + 7 => simp at e
  · have : w'.ownsRow W.heap.size 3 1 sv ys.length (ict ys) := owns_grown h.set h.prs (by decide) hg
    exact owns_sav this s2 (fun q hq e => owns_ne this hrc (by decide) (by rw [hq, e]))
  · have : w'.ownsRow W.heap.size 57 2 v (ps ++ [x]).length (fl encP (ps ++ [x])) := by rw [List.length_append, fl_append]; exact ho
    exact owns_sav this s2 (fun q hq e => owns_ne this hrc (by decide) (by rw [hq, e]))
end
end Go.Proofs.Ytpkobobandcclaa
