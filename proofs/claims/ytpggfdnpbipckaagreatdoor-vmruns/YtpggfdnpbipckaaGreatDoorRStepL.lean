/- step of chapter 6's own answer: what its walk leans on. -/
import Derived.Test.YtpggfdnpbipckaaGreatDoorRDoAll
namespace Go.Proofs.YtpggfdnpbipckaaGreatDoor
open Go.RowKit Go.Lib
set_option linter.unusedVariables false
set_option maxRecDepth 100000

/-- What step answers, and leaves. -/
def SDid (w0 : World) (b : Nat) (key : ByteArray) (vv : Value) : Out → Ending → World → Prop
  | .stop r, e, w' => e = .returned (.tuple #[.int .i64 r, .int .i64 (-1)]) ∧ r ≠ 0 ∧ Below w0.heap.size w0 w'
  | .next m, e, w' => e = .returned (.tuple #[.int .i64 0, .int .i64 (-1)]) ∧ ∃ vs vt, Mac w0 b key vv vs vt m w'
  | .goto t m, e, w' => e = .returned (.tuple #[.int .i64 0, .int .i64 t]) ∧ ∃ vs vt, Mac w0 b key vv vs vt m w'

theorem kb_size (ks : List Int) : (tx (ks.map kb)).size = ks.length := by simp [ByteArray.size]
theorem kb_at {ks : List Int} {k : Nat} (h : k < (tx (ks.map kb)).size) : (tx (ks.map kb))[k] = kb (ks.getD k 0) := by
  have hk : k < ks.length := by rw [kb_size] at h; exact h
  show ((ks.map kb).toArray)[k]'(by simpa using hk) = _
  simp [List.getD, hk]

variable {w0 : World} {b : Nat} {key : ByteArray} {vv vs vt : Value} {m : St} {w : World} {vals : List ByteArray}
theorem add_at (b off j : Nat) : (⟨b, off, none⟩ : Addr).add j = ⟨b, off + j, none⟩ := by unfold Addr.add; split <;> simp_all
theorem tops_rev (m : St) {n : Nat} (h : ¬ m.stack.length < n) : m.stack.reverse = (m.stack.drop n).reverse ++ tops m n := by
  unfold tops
  rw [← List.reverse_append, List.take_append_drop]
theorem tops_len (m : St) {n : Nat} (h : ¬ m.stack.length < n) : (tops m n).length = n := by simp [tops]; omega
/-- The upper part of a row that the call owns. -/
theorem cut_high {base N n sc : Nat} {so ao : Option Addr} (h : w.ownsRow base 57 3 (.slice so m.stack.length sc) m.stack.length (fl encV m.stack.reverse)) (hN : m.stack.length = N + n) (hao : (if sc = N then so else Option.map (fun x => x.add (N * 3)) so) = ao) :
    (fl encV (tops m n)).length = n * 3 ∧ (ao = none → n = 0 ∧ sc - N = 0) ∧ ∀ ad, ao = some ad → ∀ j u, (fl encV (tops m n))[j]? = some u → w.cell? (ad.add j) = some u := by
  have hl : (fl encV (tops m n)).length = n * 3 := by rw [fl_length encV_len, tops_len m (by omega)]
  have hrev := tops_rev m (n := n) (by omega)
  have hlow : (fl encV (m.stack.drop n).reverse).length = N * 3 := by rw [fl_length encV_len]; simp; omega
  refine ⟨hl, ?_, ?_⟩
  · intro e
    rcases h.2 with ⟨h1, h2⟩ | ⟨g, cap, cur, h1, _⟩
    · simp only [Value.slice.injEq] at h1
      omega
    · cases h1
      subst hao
      split at e
      · cases e
      · cases e
  · intro ad had j u hu
    have hj : j < n * 3 := by have := (List.getElem?_eq_some_iff.1 hu).1; omega
    rcases h.2 with ⟨h1, h2⟩ | ⟨g, cap, cur, h1, _, _, hcap, _⟩
    · omega
    · cases h1
      rw [if_neg (by omega)] at hao
      subst hao
      cases had
      have hadd : ((⟨g, 0, none⟩ : Addr).add (N * 3)).add j = ⟨g, N * 3 + j, none⟩ := by rw [add_at, add_at, Nat.zero_add]
      rw [hadd, h.cellAt _ (by omega), hrev, fl_append, List.getElem?_append_right (by omega), hlow, show N * 3 + j - N * 3 = j by omega]
      exact hu
/-- The lower part of a row that the call owns. -/
theorem cut_low {base N n sc : Nat} {so : Option Addr} (h : w.ownsRow base 57 3 (.slice so m.stack.length sc) m.stack.length (fl encV m.stack.reverse)) (hN : m.stack.length = N + n) :
    N ≤ sc ∧ (fl encV (m.stack.drop n).reverse).length = N * 3 ∧ (so = none → N = 0 ∧ sc = 0) ∧ ∀ ad, so = some ad → ∀ j u, (fl encV (m.stack.drop n).reverse)[j]? = some u → w.cell? (ad.add j) = some u := by
  have hrev := tops_rev m (n := n) (by omega)
  have hlow : (fl encV (m.stack.drop n).reverse).length = N * 3 := by rw [fl_length encV_len]; simp; omega
  rcases h.2 with ⟨h1, h2⟩ | ⟨g, cap, cur, h1, _, _, hcap, _⟩
  · simp only [Value.slice.injEq] at h1
    refine ⟨by omega, hlow, fun _ => ⟨by omega, by omega⟩, fun ad had => ?_⟩
    rw [h1.1] at had
    cases had
  · cases h1
    refine ⟨by omega, hlow, fun e => (by cases e), fun ad had j u hu => ?_⟩
    cases had
    have hj : j < N * 3 := by have := (List.getElem?_eq_some_iff.1 hu).1; omega
    rw [add_at, Nat.zero_add, h.cellAt _ (by omega), hrev, fl_append, List.getElem?_append_left (by omega)]
    exact hu
theorem Mac.heap (h : Mac w0 b key vv vs vt m w) : ∃ cs, w.heap[b]? = some (.cells cs 69 (0, 0)) := by
  obtain ⟨cs, hc, _⟩ := h.blk
  exact ⟨cs, hc⟩
/-- Rows of two kinds of element lie apart. -/
theorem owns_apart {e s n base e2 s2 n2 base2 : Nat} {v v2 : Value} {xs xs2 : List Value} (h : w.ownsRow base e s v n xs) (h2 : w.ownsRow base2 e2 s2 v2 n2 xs2) (he : e ≠ e2) : ∀ g, v.ownBlock = some g → v2.ownBlock ≠ some g := by
  intro g hg
  rcases h.2 with ⟨rfl, _⟩ | ⟨g', cap, cur, rfl, hb, hh, r⟩
  · cases hg
  · cases hg
    exact owns_off h2 hh he
/-- The stack's row has grown, and its slice is written anew. -/
theorem Mac.pushed (h : Mac w0 b key vv vs vt m w) {w' : World} {vs' : Value} {l : List Val} (ho : w'.ownsRow w0.heap.size 57 3 vs' l.length (fl encV l.reverse)) (hg : w.grownBy w' vs.ownBlock) : Mac w0 b key vv vs' vt { m with stack := l } (w'.setCell ⟨b, 0, none⟩ vs') := by
  obtain ⟨cs, hc, hC⟩ := h.blk
  have hb : w'.heap[b]? = some (.cells cs 69 (0, 0)) := (hg.block _ (Array.getElem?_eq_some_iff.1 hc).1 (fun e => owns_off h.st hc (by decide) e.symm)).trans hc
  have hbel : Below w0.heap.size w0 w' := h.bel.grown hg h.bel.size (fun q hq => owns_base h.st hq)
  refine ⟨below_set hbel h.base 0 vs', h.base, ⟨_, set_block hb 0 vs', ?_⟩, owns_set ho hb (by decide) 0 vs', owns_set (owns_grown h.tl h.st (by decide) hg) hb (by decide) 0 vs'⟩
  exact ⟨by simpa using hC.size, by rw [set_self (by rw [hC.size]; omega)], fun k hk i u hu => by
    rw [Array.getElem?_setIfInBounds_ne (by omega)]; exact hC.r k hk i u hu, by rw [Array.getElem?_setIfInBounds_ne (by omega)]; exact hC.k, by rw [Array.getElem?_setIfInBounds_ne (by omega)]; exact hC.v, by rw [Array.getElem?_setIfInBounds_ne (by omega)]; exact hC.t, by rw [Array.getElem?_setIfInBounds_ne (by omega)]; exact hC.p⟩
/-- What does gives is short, and leaves the stack as it was. -/
theorem doesL_short {x : Inst} {av out : List Val} {m' : St} (h : doesL key vals x av m = .give out m') : out.length ≤ 2 ∧ m'.stack = m.stack := by
  unfold doesL at h
  split at h
  all_goals first
    | (cases h; exact ⟨by simp, rfl⟩)
    | (split at h <;> first | (cases h; exact ⟨by simp, rfl⟩) | (split at h <;> first | (cases h; exact ⟨by simp, rfl⟩) | cases h) | cases h)
theorem ok_drop (ok : Ok vals m) (n : Nat) : Ok vals { m with stack := m.stack.drop n } :=
  ⟨by have := ok.high; simp; omega, fun v hv => ok.vs v (List.mem_of_mem_drop hv), ok.eight, ok.rs, ok.few, ok.ps, ok.tk⟩
theorem ok_tops (ok : Ok vals m) (n : Nat) : ∀ v ∈ tops m n, v.ok := fun v hv => ok.vs v (List.mem_of_mem_take (List.mem_reverse.1 hv))
theorem nobig_all {out : List Val} (h : ∀ j, j < out.length → (out.getD j zV).big = false) : out.any Val.big = false := by
  rw [List.any_eq_false]
  intro v hv e
  obtain ⟨j, hj, rfl⟩ := List.mem_iff_getElem.1 hv
  have := h j hj
  rw [List.getD_eq_getElem?_getD, List.getElem?_eq_getElem hj] at this
  rw [show ((some out[j]).getD zV) = out[j] from rfl, e] at this
  cases this
theorem some_big {out : List Val} {j : Nat} (hj : j < out.length) (h : (out.getD j zV).big = true) : out.any Val.big = true := by
  rw [List.getD_eq_getElem?_getD, List.getElem?_eq_getElem hj] at h
  exact List.any_eq_true.2 ⟨_, List.getElem_mem hj, h⟩
theorem big_tri (a : Val) : a.big = ((tri a).1 && decide (64 < (tri a).2.2.size)) := by cases a <;> rfl
theorem upto_big {out : List Val} {k : Nat} (h : ∀ j, j < k → (out.getD j zV).big = false) (hk : (out.getD k zV).big = false) : ∀ j, j < k + 1 → (out.getD j zV).big = false := by
  intro j hj
  by_cases e : j = k
  · rw [e]; exact hk
  · exact h j (by omega)
theorem upto_step {ks : List Int} {av : List Val} {k : Nat} (h : ∀ j, j < k → fitsT (ks.getD j 0) (tri (av.getD j zV)).1 = true) (hk : fitsT (ks.getD k 0) (tri (av.getD k zV)).1 = true) : ∀ j, j < k + 1 → fitsT (ks.getD j 0) (tri (av.getD j zV)).1 = true := by
  intro j hj
  by_cases e : j = k
  · rw [e]; exact hk
  · exact h j (by omega)
theorem fit_not {ks : List Int} {av : List Val} {k : Nat} (hk : k < ks.length) (h : fitsT (ks.getD k 0) (tri (av.getD k zV)).1 = false) : allFit ks av = false := by
  cases hf : allFit ks av with
  | false => rfl
  | true => rw [allFit_true hf k hk] at h; cases h
end Go.Proofs.YtpggfdnpbipckaaGreatDoor
