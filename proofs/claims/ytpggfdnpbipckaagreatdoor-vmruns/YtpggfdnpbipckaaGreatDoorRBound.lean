/- What holds of a run all along: the stack's and the pairs' bounds, numbers of 64 bits. No program in this text. -/
import Derived.Test.YtpggfdnpbipckaaGreatDoorRMath
namespace Go.Proofs.YtpggfdnpbipckaaGreatDoor
open Go.RowKit Go.Lib
set_option linter.unusedVariables false
set_option maxRecDepth 100000

def Val.ok : Val → Prop
  | .num n => I64 n
  | .text s => s.size ≤ 64
def Val.fit : Val → Prop
  | .num n => I64 n
  | .text _ => True
structure Ok (vals : List ByteArray) (m : St) : Prop where
  high : m.stack.length ≤ 16
  vs : ∀ v ∈ m.stack, v.ok
  eight : m.regs.length = 8
  rs : ∀ v ∈ m.regs, v.ok
  few : m.told.length ≤ 40
  ps : ∀ x ∈ m.told, x.1.size ≤ 16 ∧ x.2.size ≤ 64
  tk : m.taken ≤ vals.length
def Keeps (vals : List ByteArray) : Out → Prop
  | .stop _ => True
  | .next m => Ok vals m
  | .goto _ m => Ok vals m
theorem i64_small {n : Int} (h0 : -1 ≤ n) (h1 : n ≤ 4294967296) : I64 n := ⟨by omega, by omega⟩
theorem i64_wrap (n : Int) : I64 (wrap64 n) := by unfold wrap64 I64; omega
theorem ok_st0 (vals : List ByteArray) : Ok vals st0 := by
  refine ⟨by simp [st0], by simp [st0], by simp [st0], ?_, by simp [st0], by simp [st0], by simp [st0]⟩
  intro v hv
  rw [(List.mem_replicate.1 hv).2]
  exact i64_small (by omega) (by omega)

variable {key : ByteArray} {vals : List ByteArray}
theorem keeps_push {m : St} (h : Ok vals m) {s out : List Val} (hs : ∀ v ∈ s, v.ok) (ho : ∀ v ∈ out, v.fit) : Keeps vals (push m s out) := by
  unfold push
  split
  · trivial
  · rename_i hb
    split
    · trivial
    · rename_i hl
      refine ⟨by simp; omega, fun v hv => ?_, h.eight, h.rs, h.few, h.ps, h.tk⟩
      simp only [List.mem_append, List.mem_reverse] at hv
      rcases hv with hv | hv
      · have h1 := ho v hv
        have h2 : ¬ v.big = true := fun e => hb (List.any_eq_true.2 ⟨v, hv, e⟩)
        cases v with
        | num n => exact h1
        | text s => simp [Val.big] at h2; exact h2
      · exact hs v hv
theorem ok_fit {v : Val} (h : v.ok) : v.fit := by
  cases v with
  | num n => exact h
  | text s => trivial
theorem keeps_any1 {m : St} (h : Ok vals m) {f} (hf : ∀ a s, a.ok → (∀ v ∈ s, v.ok) → Keeps vals (f a s)) : Keeps vals (any1 m f) := by
  unfold any1
  split
  · rename_i a s e
    have := h.vs
    rw [e] at this
    exact hf a s (this a (by simp)) (fun v hv => this v (by simp [hv]))
  · trivial
theorem keeps_any1L {m : St} (h : Ok vals m) {f} (hf : ∀ a s, s.length ≤ 16 → a.ok → (∀ v ∈ s, v.ok) → Keeps vals (f a s)) : Keeps vals (any1 m f) := by
  unfold any1
  split
  · rename_i a s e
    have := h.vs
    have hh := h.high
    rw [e] at this hh
    exact hf a s (by simp at hh; omega) (this a (by simp)) (fun v hv => this v (by simp [hv]))
  · trivial
theorem keeps_any2L {m : St} (h : Ok vals m) {f} (hf : ∀ a b s, s.length ≤ 16 → a.ok → b.ok → (∀ v ∈ s, v.ok) → Keeps vals (f a b s)) : Keeps vals (any2 m f) := by
  unfold any2
  split
  · rename_i b a s e
    have := h.vs
    have hh := h.high
    rw [e] at this hh
    exact hf a b s (by simp at hh; omega) (this a (by simp)) (this b (by simp)) (fun v hv => this v (by simp [hv]))
  · trivial
theorem keeps_any2 {m : St} (h : Ok vals m) {f} (hf : ∀ a b s, a.ok → b.ok → (∀ v ∈ s, v.ok) → Keeps vals (f a b s)) : Keeps vals (any2 m f) := by
  unfold any2
  split
  · rename_i b a s e
    have := h.vs
    rw [e] at this
    exact hf a b s (this a (by simp)) (this b (by simp)) (fun v hv => this v (by simp [hv]))
  · trivial
theorem keeps_any3 {m : St} (h : Ok vals m) {f} (hf : ∀ a b c s, a.ok → b.ok → c.ok → (∀ v ∈ s, v.ok) → Keeps vals (f a b c s)) : Keeps vals (any3 m f) := by
  unfold any3
  split
  · rename_i c b a s e
    have := h.vs
    rw [e] at this
    exact hf a b c s (this a (by simp)) (this b (by simp)) (this c (by simp)) (fun v hv => this v (by simp [hv]))
  · trivial
theorem keeps_isN {v : Val} (hv : v.ok) {f} (hf : ∀ a, I64 a → Keeps vals (f a)) : Keeps vals (isN v f) := by
  cases v with
  | num n => exact hf n hv
  | text s => trivial
theorem keeps_isT {v : Val} (hv : v.ok) {f} (hf : ∀ a, a.size ≤ 64 → Keeps vals (f a)) : Keeps vals (isT v f) := by
  cases v with
  | num n => trivial
  | text s => exact hf s hv
theorem keeps_nn {m : St} (h : Ok vals m) {f : Int → Int → Val} (hf : ∀ a b, I64 a → I64 b → (f a b).fit) : Keeps vals (nn m f) :=
  keeps_any2 h fun a b s ha hb hs => keeps_isN ha fun a ha => keeps_isN hb fun b hb => keeps_push h hs (fun v hv => by rw [List.mem_singleton.1 hv]; exact hf a b ha hb)
theorem flag_fit (b : Bool) : (flag b).fit := by cases b <;> exact i64_small (by simp) (by simp)
theorem at_i64 (s : ByteArray) (i : Int) : I64 (atV s i) := by
  unfold atV
  split
  · exact i64_small (by omega) (by omega)
  · have := (s.data.toList.getD i.toNat 0).toNat_lt
    exact i64_small (by omega) (by omega)
theorem one_fit {v : Val} (h : v.fit) : ∀ u ∈ [v], u.fit := fun u hu => by rw [List.mem_singleton.1 hu]; exact h
theorem two_fit {v w : Val} (h : v.fit) (k : w.fit) : ∀ u ∈ [v, w], u.fit := fun u hu => by
  simp at hu
  rcases hu with rfl | rfl
  · exact h
  · exact k
theorem set_mem {l : List Val} {i : Nat} {a v : Val} (h : v ∈ l.set i a) : v ∈ l ∨ v = a := List.mem_or_eq_of_mem_set h
theorem keeps_step {x : Inst} (hx : I64 x.2.1) {m : St} (h : Ok vals m) : Keeps vals (step key vals x m) := by
  unfold step
  split
  · exact keeps_push h h.vs (one_fit hx)
  · exact keeps_push h h.vs (one_fit trivial)
  · exact keeps_any1 h fun a s ha hs => keeps_push h hs (two_fit (ok_fit ha) (ok_fit ha))
  · exact keeps_any1 h fun a s ha hs => keeps_push h hs (fun v hv => by simp at hv)
  · exact keeps_any2 h fun a b s ha hb hs => keeps_push h hs (two_fit (ok_fit hb) (ok_fit ha))
  · exact keeps_push h h.vs (one_fit trivial)
  · split
    · rename_i ht
      exact keeps_push (m := { m with taken := m.taken + 1 }) ⟨h.high, h.vs, h.eight, h.rs, h.few, h.ps, ht⟩ h.vs (two_fit trivial (i64_small (by omega) (by omega)))
    · exact keeps_push h h.vs (one_fit (i64_small (by omega) (by omega)))
  · exact keeps_nn h fun a b _ _ => i64_wrap _
  · exact keeps_nn h fun a b _ _ => i64_wrap _
  · exact keeps_nn h fun a b _ _ => i64_wrap _
  · exact keeps_nn h fun a b _ _ => flag_fit _
  · exact keeps_any2 h fun a b s ha hb hs => keeps_push h hs (one_fit (flag_fit _))
  · exact keeps_any2 h fun a b s ha hb hs => keeps_isT ha fun a ha => keeps_isT hb fun b hb => keeps_push h hs (one_fit trivial)
  · exact keeps_any1 h fun a s ha hs => keeps_isT ha fun a ha => keeps_push h hs (one_fit (i64_small (by omega) (by omega)))
  · exact keeps_any2 h fun a b s ha hb hs => keeps_isT ha fun a ha => keeps_isN hb fun b hb => keeps_push h hs (one_fit (at_i64 _ _))
  · exact keeps_any3 h fun a b c s ha hb hc hs => keeps_isT ha fun a ha => keeps_isN hb fun b hb => keeps_isN hc fun c hc => keeps_push h hs (one_fit trivial)
  · exact keeps_any1 h fun a s ha hs => keeps_isN ha fun a ha => keeps_push h hs (one_fit trivial)
  · exact keeps_any1 h fun a s ha hs => keeps_isT ha fun a ha => keeps_push h hs (one_fit (vNum_i64 _))
  · exact h
  · refine keeps_any1L h fun a s hl ha hs => keeps_isN ha fun b hb => ?_
    split
    · exact ⟨hl, hs, h.eight, h.rs, h.few, h.ps, h.tk⟩
    · exact ⟨hl, hs, h.eight, h.rs, h.few, h.ps, h.tk⟩
  · refine keeps_push h h.vs (one_fit ?_)
    rcases Nat.lt_or_ge x.2.1.toNat m.regs.length with hl | hl
    · rw [List.getD_eq_getElem?_getD, List.getElem?_eq_getElem hl]
      exact ok_fit (h.rs _ (List.getElem_mem hl))
    · rw [List.getD_eq_getElem?_getD, List.getElem?_eq_none hl]
      exact i64_small (by omega) (by omega)
  · refine keeps_any1L h fun a s hl ha hs => ?_
    refine ⟨hl, hs, by simpa using h.eight, fun v hv => ?_, h.few, h.ps, h.tk⟩
    rcases set_mem hv with e | e
    · exact h.rs v e
    · rw [e]; exact ha
  · refine keeps_any2L h fun a b s hl ha hb hs => keeps_isT ha fun k hk => keeps_isT hb fun v hv => ?_
    unfold emit
    split
    · trivial
    · rename_i h1
      split
      · trivial
      · rename_i h2
        refine ⟨hl, hs, h.eight, h.rs, by simp; omega, fun x hx => ?_, h.tk⟩
        simp only [List.mem_append, List.mem_singleton] at hx
        rcases hx with hx | rfl
        · exact h.ps x hx
        · exact ⟨by simp only; omega, hv⟩
  · exact h

/-! ### The end -/
/-- What a run tells keeps the bounds. -/
def Fair (r : Res) : Prop := (0 ≤ r.2.1 ∧ r.2.1 ≤ 5) ∧ (r.2.1 ≠ 0 → r.1 = []) ∧ r.1.length ≤ 40 ∧ ∀ x ∈ r.1, x.1.size ≤ 16 ∧ x.2.size ≤ 64
theorem fair_none {r : Int} {d : Nat} (h0 : 0 ≤ r) (h1 : r ≤ 5) : Fair ([], r, d) := ⟨⟨h0, h1⟩, fun _ => rfl, by simp, fun x hx => by simp at hx⟩
theorem fair_told {m : St} (h : Ok vals m) (d : Nat) : Fair (m.told, 0, d) := ⟨⟨by simp, by simp⟩, fun h => absurd rfl h, h.few, h.ps⟩
theorem fair_add {r : Res} (h : Fair r) (k : Nat) : Fair (addD k r) := h
theorem fair_go {p : List Inst} (hp : ∀ x ∈ p, I64 x.2.1) (n : Nat) : ∀ (i : Nat) (m : St), Ok vals m → Fair (go p key vals n i m) := by
  have hx : ∀ i, I64 (p.getD i zInst).2.1 := by
    intro i
    rcases Nat.lt_or_ge i p.length with h | h
    · rw [List.getD_eq_getElem?_getD, List.getElem?_eq_getElem h]
      exact hp _ (List.getElem_mem h)
    · rw [List.getD_eq_getElem?_getD, List.getElem?_eq_none h]
      exact i64_small (by simp [zInst]) (by simp [zInst])
  induction n with
  | zero =>
    intro i m h
    by_cases hi : p.length ≤ i
    · rw [go_end hi]; exact fair_told h _
    · rw [go_out (by omega)]; exact fair_none (by omega) (by omega)
  | succ n ih =>
    intro i m h
    by_cases hi : p.length ≤ i
    · rw [go_end hi]; exact fair_told h _
    have hi' : i < p.length := by omega
    by_cases h0 : (p.getD i zInst).1 = 0
    · rw [go_halt hi' h0]; exact fair_told h _
    have hk := keeps_step (key := key) (hx i) h
    cases hs : step key vals (p.getD i zInst) m with
    | stop r =>
      rw [go_stop hi' h0 hs]
      have := why_step key vals (p.getD i zInst) m r hs
      exact fair_none (by omega) (by omega)
    | next m' =>
      rw [hs] at hk
      rw [go_next hi' h0 hs]
      exact fair_add (ih _ _ hk) 1
    | goto t m' =>
      rw [hs] at hk
      rw [go_goto hi' h0 hs]
      exact fair_add (ih _ _ hk) 1
theorem fair_run {p : List Inst} (hp : ∀ x ∈ p, I64 x.2.1) (fuel : Int) : Fair (run p key vals fuel) := by
  unfold run
  split
  · exact fair_go hp _ _ _ (ok_st0 vals)
  · exact fair_none (by omega) (by omega)
theorem steps_le (p : List Inst) (fuel : Int) : (run p key vals fuel).2.2 ≤ 2000 ∧ ((run p key vals fuel).2.2 : Int) ≤ max fuel 0 := by
  unfold run
  split
  · rename_i h
    rcases fuels (p := p) (key := key) (vals := vals) (min fuel 2000).toNat 0 st0 with e | ⟨a, r, d, _, hd, e, _⟩ <;> rw [e] <;> simp only <;> omega
  · simp only
    omega
/-- With any fuel: Fuel, all of it done; or an end that is the same with as much as was done, and more, and Fuel with less. -/
theorem run_fuel {p : List Inst} (hm : bad p < 0) {f : Int} (h0 : 0 ≤ f) (h1 : f ≤ 2000) :
    run p key vals f = ([], 3, f.toNat) ∨ ∃ a r, ∃ d : Nat, r ≠ 3 ∧ (d : Int) ≤ f ∧ run p key vals f = (a, r, d) ∧ ∀ g : Int, 0 ≤ g → g ≤ 2000 → ((d : Int) ≤ g → run p key vals g = (a, r, d)) ∧ (g < (d : Int) → run p key vals g = ([], 3, g.toNat)) := by
  have e : ∀ g : Int, 0 ≤ g → g ≤ 2000 → run p key vals g = go p key vals g.toNat 0 st0 := by
    intro g h0 h1
    unfold run
    rw [if_pos ⟨hm, h0⟩, Int.min_eq_left h1]
  rw [e f h0 h1]
  rcases fuels (p := p) (key := key) (vals := vals) f.toNat 0 st0 with h | ⟨a, r, d, hr, hd, hg, hk⟩
  · exact .inl h
  · refine .inr ⟨a, r, d, hr, by omega, hg, fun g g0 g1 => ?_⟩
    rw [e g g0 g1]
    exact ⟨fun h => (hk g.toNat).1 (by omega), fun h => (hk g.toNat).2 (by omega)⟩
theorem run_most {p : List Inst} {f : Int} (h : 2000 ≤ f) : run p key vals f = run p key vals 2000 := by
  unfold run
  rw [show min f 2000 = min 2000 2000 by omega]
  by_cases hb : bad p < 0
  · rw [if_pos ⟨hb, by omega⟩, if_pos ⟨hb, by omega⟩]
  · rw [if_neg (fun h => hb h.1), if_neg (fun h => hb h.1)]
end Go.Proofs.YtpggfdnpbipckaaGreatDoor
