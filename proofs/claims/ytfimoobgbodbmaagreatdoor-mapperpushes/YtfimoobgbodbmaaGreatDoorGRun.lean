/- Laid together: RMath RBound RLaws RLoops. -/
import Derived.Test.YtfimoobgbodbmaaGreatDoorGPlain
/-! The stack machine of chapter 6 over lists: what it tells, why it ends, in how many steps. No program in this text. -/
namespace Go.Proofs.YtfimoobgbodbmaaGreatDoor
open Go.RowKit Go.Lib
set_option linter.unusedVariables false
set_option maxRecDepth 100000

/-- A number, or bytes. -/
inductive Val where
  | num (n : Int)
  | text (s : ByteArray)
abbrev Pr := ByteArray × ByteArray

/-- A run: the stack (its top first), the registers, how many values were taken, what was told. -/
structure St where
  stack : List Val
  regs : List Val
  taken : Nat
  told : List Pr
def st0 : St := ⟨[], List.replicate 8 (.num 0), 0, []⟩

inductive Out where
  | stop (r : Int)
  | next (m : St)
  | goto (t : Int) (m : St)

def Val.big : Val → Bool
  | .num _ => false
  | .text s => decide (64 < s.size)
/-- What is pushed (the lowest first) on what is left of the stack. -/
def push (m : St) (s : List Val) (out : List Val) : Out :=
  if out.any Val.big = true then .stop 4 else if 16 < s.length + out.length then .stop 1 else .next { m with stack := out.reverse ++ s }

def txt (l : List UInt8) : ByteArray := ⟨l.toArray⟩
def atV (s : ByteArray) (i : Int) : Int := if i < 0 ∨ (s.size : Int) ≤ i then -1 else ((s.data.toList.getD i.toNat 0).toNat : Int)
def clipV (n : Nat) (a : Int) : Nat := (min (max a 0) (n : Int)).toNat
def cutV (s : ByteArray) (a b : Int) : ByteArray := txt ((s.data.toList.drop (clipV s.data.toList.length a)).take (clipV s.data.toList.length b - clipV s.data.toList.length a))
def sameV : Val → Val → Bool
  | .num a, .num b => a == b
  | .text a, .text b => a.data.toList == b.data.toList
  | _, _ => false
def flag (b : Bool) : Val := .num (if b = true then 1 else 0)

/-- What an operation needs: one of either kind, two, a number, bytes .. -/
def any1 (m : St) (f : Val → List Val → Out) : Out := match m.stack with
  | a :: s => f a s
  | _ => .stop 1
def any2 (m : St) (f : Val → Val → List Val → Out) : Out := match m.stack with
  | b :: a :: s => f a b s
  | _ => .stop 1
def any3 (m : St) (f : Val → Val → Val → List Val → Out) : Out := match m.stack with
  | c :: b :: a :: s => f a b c s
  | _ => .stop 1
def isN (v : Val) (f : Int → Out) : Out := match v with
  | .num n => f n
  | .text _ => .stop 2
def isT (v : Val) (f : ByteArray → Out) : Out := match v with
  | .num _ => .stop 2
  | .text s => f s
def nn (m : St) (f : Int → Int → Val) : Out := any2 m fun a b s => isN a fun a => isN b fun b => push m s [f a b]
def emit (m : St) (k v : ByteArray) (s : List Val) : Out :=
  if 16 < k.size then .stop 4 else if 40 ≤ m.told.length then .stop 5 else .next { m with stack := s, told := m.told ++ [(k, v)] }

/-- One instruction, but OpHalt. -/
def step (key : ByteArray) (vals : List ByteArray) (x : Inst) (m : St) : Out :=
  match x.1.toNat with
  | 1 => push m m.stack [.num x.2.1]
  | 2 => push m m.stack [.text x.2.2]
  | 3 => any1 m fun a s => push m s [a, a]
  | 4 => any1 m fun a s => push m s []
  | 5 => any2 m fun a b s => push m s [b, a]
  | 6 => push m m.stack [.text key]
  | 7 => if m.taken < vals.length then push { m with taken := m.taken + 1 } m.stack [.text (vals.getD m.taken ⟨#[]⟩), .num 1] else push m m.stack [.num 0]
  | 8 => nn m fun a b => .num (wrap64 (a + b))
  | 9 => nn m fun a b => .num (wrap64 (a - b))
  | 10 => nn m fun a b => .num (wrap64 (a * b))
  | 11 => nn m fun a b => flag (decide (a < b))
  | 12 => any2 m fun a b s => push m s [flag (sameV a b)]
  | 13 => any2 m fun a b s => isT a fun a => isT b fun b => push m s [.text (a ++ b)]
  | 14 => any1 m fun a s => isT a fun a => push m s [.num a.size]
  | 15 => any2 m fun a b s => isT a fun a => isN b fun b => push m s [.num (atV a b)]
  | 16 => any3 m fun a b c s => isT a fun a => isN b fun b => isN c fun c => push m s [.text (cutV a b c)]
  | 17 => any1 m fun a s => isN a fun a => push m s [.text (txt (itoa a))]
  | 18 => any1 m fun a s => isT a fun a => push m s [.num (vNum a.data.toList)]
  | 19 => .goto x.2.1 m
  | 20 => any1 m fun a s => isN a fun a => if a = 0 then .next { m with stack := s } else .goto x.2.1 { m with stack := s }
  | 21 => push m m.stack [m.regs.getD x.2.1.toNat (.num 0)]
  | 22 => any1 m fun a s => .next { m with stack := s, regs := m.regs.set x.2.1.toNat a }
  | 23 => any2 m fun a b s => isT a fun a => isT b fun b => emit m a b s
  | _ => .next m

abbrev Res := List Pr × Int × Nat
def addD (k : Nat) (r : Res) : Res := (r.1, r.2.1, r.2.2 + k)

/-- At most n instructions from place i on. -/
def go (p : List Inst) (key : ByteArray) (vals : List ByteArray) : Nat → Nat → St → Res
  | 0, i, m => if p.length ≤ i then (m.told, 0, 0) else ([], 3, 0)
  | n + 1, i, m => if p.length ≤ i then (m.told, 0, 0) else if (p.getD i zInst).1 = 0 then (m.told, 0, 1) else
    match step key vals (p.getD i zInst) m with
    | .stop r => ([], r, 1)
    | .next m' => addD 1 (go p key vals n (i + 1) m')
    | .goto t m' => addD 1 (go p key vals n t.toNat m')

def run (p : List Inst) (key : ByteArray) (vals : List ByteArray) (fuel : Int) : Res :=
  if bad p < 0 ∧ 0 ≤ fuel then go p key vals (min fuel 2000).toNat 0 st0 else ([], 2, 0)

theorem addD_zero (r : Res) : addD 0 r = r := rfl
theorem addD_add (a b : Nat) (r : Res) : addD a (addD b r) = addD (b + a) r := by simp [addD, Nat.add_assoc]

/-! ### One step of the whole -/
variable {p : List Inst} {key : ByteArray} {vals : List ByteArray}
theorem go_end {n i : Nat} {m : St} (h : p.length ≤ i) : go p key vals n i m = (m.told, 0, 0) := by
  cases n <;> simp only [go] <;> rw [if_pos h]
theorem go_out {i : Nat} {m : St} (h : i < p.length) : go p key vals 0 i m = ([], 3, 0) := by
  simp only [go]; rw [if_neg (by omega)]
theorem go_halt {n i : Nat} {m : St} (h : i < p.length) (h0 : (p.getD i zInst).1 = 0) : go p key vals (n + 1) i m = (m.told, 0, 1) := by
  simp only [go]; rw [if_neg (by omega), if_pos h0]
theorem go_stop {n i : Nat} {m : St} {r : Int} (h : i < p.length) (h0 : ¬ (p.getD i zInst).1 = 0) (hs : step key vals (p.getD i zInst) m = .stop r) : go p key vals (n + 1) i m = ([], r, 1) := by
  simp only [go]; rw [if_neg (by omega), if_neg h0, hs]
theorem go_next {n i : Nat} {m m' : St} (h : i < p.length) (h0 : ¬ (p.getD i zInst).1 = 0) (hs : step key vals (p.getD i zInst) m = .next m') : go p key vals (n + 1) i m = addD 1 (go p key vals n (i + 1) m') := by
  simp only [go]; rw [if_neg (by omega), if_neg h0, hs]
theorem go_goto {n i : Nat} {m m' : St} {t : Int} (h : i < p.length) (h0 : ¬ (p.getD i zInst).1 = 0) (hs : step key vals (p.getD i zInst) m = .goto t m') : go p key vals (n + 1) i m = addD 1 (go p key vals n t.toNat m') := by
  simp only [go]; rw [if_neg (by omega), if_neg h0, hs]

/-! ### Reasons -/
/-- An instruction ends for one of four reasons. -/
def Why (o : Out) : Prop := ∀ r, o = .stop r → r = 1 ∨ r = 2 ∨ r = 4 ∨ r = 5
theorem why_push (m : St) (s out : List Val) : Why (push m s out) := by
  intro r h
  unfold push at h
  split at h
  · cases h; omega
  · split at h
    · cases h; omega
    · cases h
theorem why_next (m : St) : Why (.next m) := fun r h => by cases h
theorem why_goto (t : Int) (m : St) : Why (.goto t m) := fun r h => by cases h
theorem why_any1 (m : St) {f} (hf : ∀ a s, Why (f a s)) : Why (any1 m f) := by
  intro r h
  unfold any1 at h
  split at h
  · exact hf _ _ r h
  · cases h; omega
theorem why_any2 (m : St) {f} (hf : ∀ a b s, Why (f a b s)) : Why (any2 m f) := by
  intro r h
  unfold any2 at h
  split at h
  · exact hf _ _ _ r h
  · cases h; omega
theorem why_any3 (m : St) {f} (hf : ∀ a b c s, Why (f a b c s)) : Why (any3 m f) := by
  intro r h
  unfold any3 at h
  split at h
  · exact hf _ _ _ _ r h
  · cases h; omega
theorem why_isN (v : Val) {f} (hf : ∀ a, Why (f a)) : Why (isN v f) := by
  intro r h
  unfold isN at h
  split at h
  · exact hf _ r h
  · cases h; omega
theorem why_isT (v : Val) {f} (hf : ∀ a, Why (f a)) : Why (isT v f) := by
  intro r h
  unfold isT at h
  split at h
  · cases h; omega
  · exact hf _ r h
theorem why_nn (m : St) (f) : Why (nn m f) := why_any2 m fun _ _ _ => why_isN _ fun _ => why_isN _ fun _ => why_push _ _ _
theorem why_emit (m : St) (k v s) : Why (emit m k v s) := by
  intro r h
  unfold emit at h
  split at h
  · cases h; omega
  · split at h
    · cases h; omega
    · cases h
theorem why_step (key : ByteArray) (vals : List ByteArray) (x : Inst) (m : St) : Why (step key vals x m) := by
  unfold step
  split
  · exact why_push _ _ _
  · exact why_push _ _ _
  · exact why_any1 _ fun _ _ => why_push _ _ _
  · exact why_any1 _ fun _ _ => why_push _ _ _
  · exact why_any2 _ fun _ _ _ => why_push _ _ _
  · exact why_push _ _ _
  · split
    · exact why_push _ _ _
    · exact why_push _ _ _
  · exact why_nn _ _
  · exact why_nn _ _
  · exact why_nn _ _
  · exact why_nn _ _
  · exact why_any2 _ fun _ _ _ => why_push _ _ _
  · exact why_any2 _ fun _ _ _ => why_isT _ fun _ => why_isT _ fun _ => why_push _ _ _
  · exact why_any1 _ fun _ _ => why_isT _ fun _ => why_push _ _ _
  · exact why_any2 _ fun _ _ _ => why_isT _ fun _ => why_isN _ fun _ => why_push _ _ _
  · exact why_any3 _ fun _ _ _ _ => why_isT _ fun _ => why_isN _ fun _ => why_isN _ fun _ => why_push _ _ _
  · exact why_any1 _ fun _ _ => why_isN _ fun _ => why_push _ _ _
  · exact why_any1 _ fun _ _ => why_isT _ fun _ => why_push _ _ _
  · exact why_goto _ _
  · refine why_any1 _ fun _ _ => why_isN _ fun _ => ?_
    split
    · exact why_next _
    · exact why_goto _ _
  · exact why_push _ _ _
  · exact why_any1 _ fun _ _ => why_next _
  · exact why_any2 _ fun _ _ _ => why_isT _ fun _ => why_isT _ fun _ => why_emit _ _ _ _
  · exact why_next _

/-! ### Fuel -/
/-- What n instructions tell: Fuel, all of them done, or an end that is the same with more, and with less as long as it reaches. -/
def Fuels (p : List Inst) (key : ByteArray) (vals : List ByteArray) (n i : Nat) (m : St) : Prop :=
  (go p key vals n i m = ([], 3, n)) ∨
  ∃ a r d, r ≠ 3 ∧ d ≤ n ∧ go p key vals n i m = (a, r, d) ∧ ∀ k, (d ≤ k → go p key vals k i m = (a, r, d)) ∧ (k < d → go p key vals k i m = ([], 3, k))
theorem fuels_step {n i : Nat} {m : St} (h : i < p.length) {j : Nat} {m' : St} (hs : ∀ k, go p key vals (k + 1) i m = addD 1 (go p key vals k j m')) (ih : Fuels p key vals n j m') : Fuels p key vals (n + 1) i m := by
  rcases ih with ih | ⟨a, r, d, hr, hd, hg, hk⟩
  · exact .inl (by rw [hs, ih]; rfl)
  · refine .inr ⟨a, r, d + 1, hr, by omega, by rw [hs, hg]; rfl, fun k => ⟨fun hk' => ?_, fun hk' => ?_⟩⟩
    · obtain ⟨k, rfl⟩ : ∃ k', k = k' + 1 := ⟨k - 1, by omega⟩
      rw [hs, (hk k).1 (by omega)]; rfl
    · cases k with
      | zero => exact go_out h
      | succ k => rw [hs, (hk k).2 (by omega)]; rfl
theorem fuels (n : Nat) : ∀ (i : Nat) (m : St), Fuels p key vals n i m := by
  induction n with
  | zero =>
    intro i m
    by_cases h : p.length ≤ i
    · exact .inr ⟨m.told, 0, 0, by omega, Nat.le_refl _, go_end h, fun k => ⟨fun _ => go_end h, fun hk => by omega⟩⟩
    · exact .inl (go_out (by omega))
  | succ n ih =>
    intro i m
    by_cases h : p.length ≤ i
    · exact .inr ⟨m.told, 0, 0, by omega, by omega, go_end h, fun k => ⟨fun _ => go_end h, fun hk => by omega⟩⟩
    have h' : i < p.length := by omega
    by_cases h0 : (p.getD i zInst).1 = 0
    · refine .inr ⟨m.told, 0, 1, by omega, by omega, go_halt h' h0, fun k => ⟨fun hk => ?_, fun hk => ?_⟩⟩
      · obtain ⟨k, rfl⟩ : ∃ k', k = k' + 1 := ⟨k - 1, by omega⟩
        exact go_halt h' h0
      · obtain rfl : k = 0 := by omega
        exact go_out h'
    cases hs : step key vals (p.getD i zInst) m with
    | stop r =>
      have hr := why_step key vals (p.getD i zInst) m r hs
      refine .inr ⟨[], r, 1, by omega, by omega, go_stop h' h0 hs, fun k => ⟨fun hk => ?_, fun hk => ?_⟩⟩
      · obtain ⟨k, rfl⟩ : ∃ k', k = k' + 1 := ⟨k - 1, by omega⟩
        exact go_stop h' h0 hs
      · obtain rfl : k = 0 := by omega
        exact go_out h'
    | next m' => exact fuels_step h' (fun k => go_next h' h0 hs) (ih _ _)
    | goto t m' => exact fuels_step h' (fun k => go_goto h' h0 hs) (ih _ _)
end Go.Proofs.YtfimoobgbodbmaaGreatDoor
/-! What holds of a run all along: the stack's and the pairs' bounds, numbers of 64 bits. No program in this text. -/
namespace Go.Proofs.YtfimoobgbodbmaaGreatDoor
open Go.RowKit Go.Lib
set_option linter.unusedVariables false
set_option maxRecDepth 100000

def Val.ok : Val → Prop
  | .num n => I64 n
  | .text s => s.size ≤ 64
def Val.fit : Val → Prop
  | .num n => I64 n
  | .text _ => True
structure Ok (vals : List ByteArray) (m : St) : Prop where
  high : m.stack.length ≤ 16
  vs : ∀ v ∈ m.stack, v.ok
  eight : m.regs.length = 8
  rs : ∀ v ∈ m.regs, v.ok
  few : m.told.length ≤ 40
  ps : ∀ x ∈ m.told, x.1.size ≤ 16 ∧ x.2.size ≤ 64
  tk : m.taken ≤ vals.length
def Keeps (vals : List ByteArray) : Out → Prop
  | .stop _ => True
  | .next m => Ok vals m
  | .goto _ m => Ok vals m
theorem i64_small {n : Int} (h0 : -1 ≤ n) (h1 : n ≤ 4294967296) : I64 n := ⟨by omega, by omega⟩
theorem i64_wrap (n : Int) : I64 (wrap64 n) := by unfold wrap64 I64; omega
theorem ok_st0 (vals : List ByteArray) : Ok vals st0 := by
  refine ⟨by simp [st0], by simp [st0], by simp [st0], ?_, by simp [st0], by simp [st0], by simp [st0]⟩
  intro v hv
  rw [(List.mem_replicate.1 hv).2]
  exact i64_small (by omega) (by omega)

variable {key : ByteArray} {vals : List ByteArray}
theorem keeps_push {m : St} (h : Ok vals m) {s out : List Val} (hs : ∀ v ∈ s, v.ok) (ho : ∀ v ∈ out, v.fit) : Keeps vals (push m s out) := by
  unfold push
  split
  · trivial
  · rename_i hb
    split
    · trivial
    · rename_i hl
      refine ⟨by simp; omega, fun v hv => ?_, h.eight, h.rs, h.few, h.ps, h.tk⟩
      simp only [List.mem_append, List.mem_reverse] at hv
      rcases hv with hv | hv
      · have h1 := ho v hv
        have h2 : ¬ v.big = true := fun e => hb (List.any_eq_true.2 ⟨v, hv, e⟩)
        cases v with
        | num n => exact h1
        | text s => simp [Val.big] at h2; exact h2
      · exact hs v hv
theorem ok_fit {v : Val} (h : v.ok) : v.fit := by
  cases v with
  | num n => exact h
  | text s => trivial
theorem keeps_any1 {m : St} (h : Ok vals m) {f} (hf : ∀ a s, a.ok → (∀ v ∈ s, v.ok) → Keeps vals (f a s)) : Keeps vals (any1 m f) := by
  unfold any1
  split
  · rename_i a s e
    have := h.vs
    rw [e] at this
    exact hf a s (this a (by simp)) (fun v hv => this v (by simp [hv]))
  · trivial
theorem keeps_any1L {m : St} (h : Ok vals m) {f} (hf : ∀ a s, s.length ≤ 16 → a.ok → (∀ v ∈ s, v.ok) → Keeps vals (f a s)) : Keeps vals (any1 m f) := by
  unfold any1
  split
  · rename_i a s e
    have := h.vs
    have hh := h.high
    rw [e] at this hh
    exact hf a s (by simp at hh; omega) (this a (by simp)) (fun v hv => this v (by simp [hv]))
  · trivial
theorem keeps_any2L {m : St} (h : Ok vals m) {f} (hf : ∀ a b s, s.length ≤ 16 → a.ok → b.ok → (∀ v ∈ s, v.ok) → Keeps vals (f a b s)) : Keeps vals (any2 m f) := by
  unfold any2
  split
  · rename_i b a s e
    have := h.vs
    have hh := h.high
    rw [e] at this hh
    exact hf a b s (by simp at hh; omega) (this a (by simp)) (this b (by simp)) (fun v hv => this v (by simp [hv]))
  · trivial
theorem keeps_any2 {m : St} (h : Ok vals m) {f} (hf : ∀ a b s, a.ok → b.ok → (∀ v ∈ s, v.ok) → Keeps vals (f a b s)) : Keeps vals (any2 m f) := by
  unfold any2
  split
  · rename_i b a s e
    have := h.vs
    rw [e] at this
    exact hf a b s (this a (by simp)) (this b (by simp)) (fun v hv => this v (by simp [hv]))
  · trivial
theorem keeps_any3 {m : St} (h : Ok vals m) {f} (hf : ∀ a b c s, a.ok → b.ok → c.ok → (∀ v ∈ s, v.ok) → Keeps vals (f a b c s)) : Keeps vals (any3 m f) := by
  unfold any3
  split
  · rename_i c b a s e
    have := h.vs
    rw [e] at this
    exact hf a b c s (this a (by simp)) (this b (by simp)) (this c (by simp)) (fun v hv => this v (by simp [hv]))
  · trivial
theorem keeps_isN {v : Val} (hv : v.ok) {f} (hf : ∀ a, I64 a → Keeps vals (f a)) : Keeps vals (isN v f) := by
  cases v with
  | num n => exact hf n hv
  | text s => trivial
theorem keeps_isT {v : Val} (hv : v.ok) {f} (hf : ∀ a, a.size ≤ 64 → Keeps vals (f a)) : Keeps vals (isT v f) := by
  cases v with
  | num n => trivial
  | text s => exact hf s hv
theorem keeps_nn {m : St} (h : Ok vals m) {f : Int → Int → Val} (hf : ∀ a b, I64 a → I64 b → (f a b).fit) : Keeps vals (nn m f) :=
  keeps_any2 h fun a b s ha hb hs => keeps_isN ha fun a ha => keeps_isN hb fun b hb => keeps_push h hs (fun v hv => by rw [List.mem_singleton.1 hv]; exact hf a b ha hb)
theorem flag_fit (b : Bool) : (flag b).fit := by cases b <;> exact i64_small (by simp) (by simp)
theorem at_i64 (s : ByteArray) (i : Int) : I64 (atV s i) := by
  unfold atV
  split
  · exact i64_small (by omega) (by omega)
  · have := (s.data.toList.getD i.toNat 0).toNat_lt
    exact i64_small (by omega) (by omega)
theorem one_fit {v : Val} (h : v.fit) : ∀ u ∈ [v], u.fit := fun u hu => by rw [List.mem_singleton.1 hu]; exact h
theorem two_fit {v w : Val} (h : v.fit) (k : w.fit) : ∀ u ∈ [v, w], u.fit := fun u hu => by
  simp at hu
  rcases hu with rfl | rfl
  · exact h
  · exact k
theorem set_mem {l : List Val} {i : Nat} {a v : Val} (h : v ∈ l.set i a) : v ∈ l ∨ v = a := List.mem_or_eq_of_mem_set h
theorem keeps_step {x : Inst} (hx : I64 x.2.1) {m : St} (h : Ok vals m) : Keeps vals (step key vals x m) := by
  unfold step
  split
  · exact keeps_push h h.vs (one_fit hx)
  · exact keeps_push h h.vs (one_fit trivial)
  · exact keeps_any1 h fun a s ha hs => keeps_push h hs (two_fit (ok_fit ha) (ok_fit ha))
  · exact keeps_any1 h fun a s ha hs => keeps_push h hs (fun v hv => by simp at hv)
  · exact keeps_any2 h fun a b s ha hb hs => keeps_push h hs (two_fit (ok_fit hb) (ok_fit ha))
  · exact keeps_push h h.vs (one_fit trivial)
  · split
    · rename_i ht
      exact keeps_push (m := { m with taken := m.taken + 1 }) ⟨h.high, h.vs, h.eight, h.rs, h.few, h.ps, ht⟩ h.vs (two_fit trivial (i64_small (by omega) (by omega)))
    · exact keeps_push h h.vs (one_fit (i64_small (by omega) (by omega)))
  · exact keeps_nn h fun a b _ _ => i64_wrap _
  · exact keeps_nn h fun a b _ _ => i64_wrap _
  · exact keeps_nn h fun a b _ _ => i64_wrap _
  · exact keeps_nn h fun a b _ _ => flag_fit _
  · exact keeps_any2 h fun a b s ha hb hs => keeps_push h hs (one_fit (flag_fit _))
  · exact keeps_any2 h fun a b s ha hb hs => keeps_isT ha fun a ha => keeps_isT hb fun b hb => keeps_push h hs (one_fit trivial)
  · exact keeps_any1 h fun a s ha hs => keeps_isT ha fun a ha => keeps_push h hs (one_fit (i64_small (by omega) (by omega)))
  · exact keeps_any2 h fun a b s ha hb hs => keeps_isT ha fun a ha => keeps_isN hb fun b hb => keeps_push h hs (one_fit (at_i64 _ _))
  · exact keeps_any3 h fun a b c s ha hb hc hs => keeps_isT ha fun a ha => keeps_isN hb fun b hb => keeps_isN hc fun c hc => keeps_push h hs (one_fit trivial)
  · exact keeps_any1 h fun a s ha hs => keeps_isN ha fun a ha => keeps_push h hs (one_fit trivial)
  · exact keeps_any1 h fun a s ha hs => keeps_isT ha fun a ha => keeps_push h hs (one_fit (vNum_i64 _))
  · exact h
  · refine keeps_any1L h fun a s hl ha hs => keeps_isN ha fun b hb => ?_
    split
    · exact ⟨hl, hs, h.eight, h.rs, h.few, h.ps, h.tk⟩
    · exact ⟨hl, hs, h.eight, h.rs, h.few, h.ps, h.tk⟩
  · refine keeps_push h h.vs (one_fit ?_)
    rcases Nat.lt_or_ge x.2.1.toNat m.regs.length with hl | hl
    · rw [List.getD_eq_getElem?_getD, List.getElem?_eq_getElem hl]
      exact ok_fit (h.rs _ (List.getElem_mem hl))
    · rw [List.getD_eq_getElem?_getD, List.getElem?_eq_none hl]
      exact i64_small (by omega) (by omega)
  · refine keeps_any1L h fun a s hl ha hs => ?_
    refine ⟨hl, hs, by simpa using h.eight, fun v hv => ?_, h.few, h.ps, h.tk⟩
    rcases set_mem hv with e | e
    · exact h.rs v e
    · rw [e]; exact ha
  · refine keeps_any2L h fun a b s hl ha hb hs => keeps_isT ha fun k hk => keeps_isT hb fun v hv => ?_
    unfold emit
    split
    · trivial
    · rename_i h1
      split
      · trivial
      · rename_i h2
        refine ⟨hl, hs, h.eight, h.rs, by simp; omega, fun x hx => ?_, h.tk⟩
        simp only [List.mem_append, List.mem_singleton] at hx
        rcases hx with hx | rfl
        · exact h.ps x hx
        · exact ⟨by simp only; omega, hv⟩
  · exact h

/-! ### The end -/
/-- What a run tells keeps the bounds. -/
def Fair (r : Res) : Prop := (0 ≤ r.2.1 ∧ r.2.1 ≤ 5) ∧ (r.2.1 ≠ 0 → r.1 = []) ∧ r.1.length ≤ 40 ∧ ∀ x ∈ r.1, x.1.size ≤ 16 ∧ x.2.size ≤ 64
theorem fair_none {r : Int} {d : Nat} (h0 : 0 ≤ r) (h1 : r ≤ 5) : Fair ([], r, d) := ⟨⟨h0, h1⟩, fun _ => rfl, by simp, fun x hx => by simp at hx⟩
theorem fair_told {m : St} (h : Ok vals m) (d : Nat) : Fair (m.told, 0, d) := ⟨⟨by simp, by simp⟩, fun h => absurd rfl h, h.few, h.ps⟩
theorem fair_add {r : Res} (h : Fair r) (k : Nat) : Fair (addD k r) := h
theorem fair_go {p : List Inst} (hp : ∀ x ∈ p, I64 x.2.1) (n : Nat) : ∀ (i : Nat) (m : St), Ok vals m → Fair (go p key vals n i m) := by
  have hx : ∀ i, I64 (p.getD i zInst).2.1 := by
    intro i
    rcases Nat.lt_or_ge i p.length with h | h
    · rw [List.getD_eq_getElem?_getD, List.getElem?_eq_getElem h]
      exact hp _ (List.getElem_mem h)
    · rw [List.getD_eq_getElem?_getD, List.getElem?_eq_none h]
      exact i64_small (by simp [zInst]) (by simp [zInst])
  induction n with
  | zero =>
    intro i m h
    by_cases hi : p.length ≤ i
    · rw [go_end hi]; exact fair_told h _
    · rw [go_out (by omega)]; exact fair_none (by omega) (by omega)
  | succ n ih =>
    intro i m h
    by_cases hi : p.length ≤ i
    · rw [go_end hi]; exact fair_told h _
    have hi' : i < p.length := by omega
    by_cases h0 : (p.getD i zInst).1 = 0
    · rw [go_halt hi' h0]; exact fair_told h _
    have hk := keeps_step (key := key) (hx i) h
    cases hs : step key vals (p.getD i zInst) m with
    | stop r =>
      rw [go_stop hi' h0 hs]
      have := why_step key vals (p.getD i zInst) m r hs
      exact fair_none (by omega) (by omega)
    | next m' =>
      rw [hs] at hk
      rw [go_next hi' h0 hs]
      exact fair_add (ih _ _ hk) 1
    | goto t m' =>
      rw [hs] at hk
      rw [go_goto hi' h0 hs]
      exact fair_add (ih _ _ hk) 1
theorem fair_run {p : List Inst} (hp : ∀ x ∈ p, I64 x.2.1) (fuel : Int) : Fair (run p key vals fuel) := by
  unfold run
  split
  · exact fair_go hp _ _ _ (ok_st0 vals)
  · exact fair_none (by omega) (by omega)
theorem steps_le (p : List Inst) (fuel : Int) : (run p key vals fuel).2.2 ≤ 2000 ∧ ((run p key vals fuel).2.2 : Int) ≤ max fuel 0 := by
  unfold run
  split
  · rename_i h
    rcases fuels (p := p) (key := key) (vals := vals) (min fuel 2000).toNat 0 st0 with e | ⟨a, r, d, _, hd, e, _⟩ <;> rw [e] <;> simp only <;> omega
  · simp only
    omega
/-- With any fuel: Fuel, all of it done; or an end that is the same with as much as was done, and more, and Fuel with less. -/
theorem run_fuel {p : List Inst} (hm : bad p < 0) {f : Int} (h0 : 0 ≤ f) (h1 : f ≤ 2000) :
    run p key vals f = ([], 3, f.toNat) ∨ ∃ a r, ∃ d : Nat, r ≠ 3 ∧ (d : Int) ≤ f ∧ run p key vals f = (a, r, d) ∧ ∀ g : Int, 0 ≤ g → g ≤ 2000 → ((d : Int) ≤ g → run p key vals g = (a, r, d)) ∧ (g < (d : Int) → run p key vals g = ([], 3, g.toNat)) := by
  have e : ∀ g : Int, 0 ≤ g → g ≤ 2000 → run p key vals g = go p key vals g.toNat 0 st0 := by
    intro g h0 h1
    unfold run
    rw [if_pos ⟨hm, h0⟩, Int.min_eq_left h1]
  rw [e f h0 h1]
  rcases fuels (p := p) (key := key) (vals := vals) f.toNat 0 st0 with h | ⟨a, r, d, hr, hd, hg, hk⟩
  · exact .inl h
  · refine .inr ⟨a, r, d, hr, by omega, hg, fun g g0 g1 => ?_⟩
    rw [e g g0 g1]
    exact ⟨fun h => (hk g.toNat).1 (by omega), fun h => (hk g.toNat).2 (by omega)⟩
theorem run_most {p : List Inst} {f : Int} (h : 2000 ≤ f) : run p key vals f = run p key vals 2000 := by
  unfold run
  rw [show min f 2000 = min 2000 2000 by omega]
  by_cases hb : bad p < 0
  · rw [if_pos ⟨hb, by omega⟩, if_pos ⟨hb, by omega⟩]
  · rw [if_neg (fun h => hb h.1), if_neg (fun h => hb h.1)]
end Go.Proofs.YtfimoobgbodbmaaGreatDoor
/-! Programs of the statements, run by hand: arithmetic, kinds, the stack, loops over the values. No program in this text. -/
namespace Go.Proofs.YtfimoobgbodbmaaGreatDoor
open Go.RowKit Go.Lib
set_option linter.unusedVariables false
set_option maxRecDepth 100000

abbrev e0 : ByteArray := ⟨#[]⟩
theorem e0_bare : (e0 : ByteArray).toList.isEmpty = true := by rw [ByteArray.toList_eq]; rfl
theorem itoa_small {n : Int} (h : I64 n) : (txt (itoa n)).size ≤ 64 := by
  have := itoa_len h
  show (itoa n).toArray.size ≤ 64
  rw [List.size_toArray]
  omega
theorem txt_list (l : List UInt8) : (txt l).data.toList = l := by simp [txt]
/-- A program whose instructions may all be. -/
theorem may_all {p : List Inst} (hl : p.length ≤ 40) (h : ∀ x ∈ p, good x p.length = true) : bad p < 0 := by
  rw [may_iff]
  refine ⟨hl, fun i hi => ?_⟩
  rw [List.getD_eq_getElem?_getD, List.getElem?_eq_getElem hi]
  exact h _ (List.getElem_mem hi)

/-- The programs of VmArith. -/
def arith (a b : Int) (o : Int) : List Inst := [(6, 0, e0), (1, a, e0), (1, b, e0), (o, 0, e0), (17, 0, e0), (23, 0, e0)]
def arithOf (o : Int) (a b : Int) : Int := if o = 8 then wrap64 (a + b) else if o = 9 then wrap64 (a - b) else if o = 10 then wrap64 (a * b) else if a < b then 1 else 0
theorem arith_may (a b : Int) {o : Int} (ho : 8 ≤ o ∧ o ≤ 11) : bad (arith a b o) < 0 := by
  refine may_all (by simp [arith]) ?_
  intro x hx
  have : o = 8 ∨ o = 9 ∨ o = 10 ∨ o = 11 := by omega
  simp only [arith, List.mem_cons, List.mem_nil_iff, or_false] at hx
  rcases hx with rfl | rfl | rfl | rfl | rfl | rfl
  · simp [good]
  · simp [good]
  · simp [good]
  · rcases this with rfl | rfl | rfl | rfl <;> simp [good]
  · simp [good]
  · simp [good]
theorem arith_i64 (o a b : Int) : I64 (arithOf o a b) := by
  unfold arithOf
  split
  · exact i64_wrap _
  · split
    · exact i64_wrap _
    · split
      · exact i64_wrap _
      · split
        · exact i64_small (by omega) (by omega)
        · exact i64_small (by omega) (by omega)
theorem arith_run (a b : Int) {o : Int} (ho : 8 ≤ o ∧ o ≤ 11) (vals : List ByteArray) : run (arith a b o) e0 vals 6 = ([(e0, txt (itoa (arithOf o a b)))], 0, 6) := by
  have hs := itoa_small (arith_i64 o a b)
  unfold run
  rw [if_pos ⟨arith_may a b ho, by omega⟩]
  have : o = 8 ∨ o = 9 ∨ o = 10 ∨ o = 11 := by omega
  show go (arith a b o) e0 vals 6 0 st0 = _
  have hs' : ¬ 64 < (txt (itoa (arithOf o a b))).size := by omega
  have hz : e0.size = 0 := rfl
  have hk : ∀ c : Int, ¬ 64 < (txt (itoa c)).size → go (arith a b o) e0 vals 2 4 ⟨[.num c, .text e0], List.replicate 8 (.num 0), 0, []⟩ = ([(e0, txt (itoa c))], 0, 2) := by
    intro c hc
    simp [go, arith, step, push, any1, any2, isN, isT, emit, Val.big, addD, hc, hz]
  have h3 : go (arith a b o) e0 vals 6 0 st0 = addD 3 (go (arith a b o) e0 vals 3 3 ⟨[.num b, .num a, .text e0], List.replicate 8 (.num 0), 0, []⟩) := by
    rw [go_next (by simp [arith]) (by simp [arith]) (m' := ⟨[.text e0], List.replicate 8 (.num 0), 0, []⟩) (by simp [arith, step, push, st0, Val.big, hz]),
      go_next (by simp [arith]) (by simp [arith]) (m' := ⟨[.num a, .text e0], List.replicate 8 (.num 0), 0, []⟩) (by simp [arith, step, push, Val.big]),
      go_next (by simp [arith]) (by simp [arith]) (m' := ⟨[.num b, .num a, .text e0], List.replicate 8 (.num 0), 0, []⟩) (by simp [arith, step, push, Val.big])]
    rfl
  have h4 : go (arith a b o) e0 vals 3 3 ⟨[.num b, .num a, .text e0], List.replicate 8 (.num 0), 0, []⟩ = addD 1 (go (arith a b o) e0 vals 2 4 ⟨[.num (arithOf o a b), .text e0], List.replicate 8 (.num 0), 0, []⟩) := by
    refine go_next (by simp [arith]) (by simp [arith]; omega) ?_
    rcases this with rfl | rfl | rfl | rfl <;> simp [arith, step, push, Val.big, nn, any2, isN, arithOf, flag]
  rw [h3, h4, hk _ hs']
  rfl
/-- The text of a number, read and told again. -/
def backP : List Inst := [(6, 0, e0), (7, 0, e0), (4, 0, e0), (18, 0, e0), (17, 0, e0), (23, 0, e0)]
theorem back_run {n : Int} (h : I64 n) : run backP e0 [txt (itoa n)] 6 = ([(e0, txt (itoa n))], 0, 6) := by
  have hs := itoa_small h
  have hs' : ¬ 64 < (txt (itoa n)).size := by omega
  have hz : e0.size = 0 := rfl
  have hv : vNum (txt (itoa n)).data.toList = n := by rw [txt_list, vNum_itoa h]
  have hm : bad backP < 0 := may_all (by simp [backP]) (by
    intro x hx
    simp only [backP, List.mem_cons, List.mem_nil_iff, or_false] at hx
    rcases hx with rfl | rfl | rfl | rfl | rfl | rfl <;> simp [good])
  unfold run
  rw [if_pos ⟨hm, by omega⟩]
  show go backP e0 [txt (itoa n)] 6 0 st0 = _
  simp [go, backP, step, st0, push, any1, any2, isN, isT, emit, Val.big, addD, hs', hz, hv]
def digP (n : Int) : List Inst := [(6, 0, e0), (1, n, e0), (17, 0, e0), (23, 0, e0)]
theorem dig_run {n : Int} (h : I64 n) (vals : List ByteArray) : run (digP n) e0 vals 4 = ([(e0, txt (itoa n))], 0, 4) := by
  have hs := itoa_small h
  have hs' : ¬ 64 < (txt (itoa n)).size := by omega
  have hz : e0.size = 0 := rfl
  have hm : bad (digP n) < 0 := may_all (by simp [digP]) (by
    intro x hx
    simp only [digP, List.mem_cons, List.mem_nil_iff, or_false] at hx
    rcases hx with rfl | rfl | rfl | rfl <;> simp [good])
  unfold run
  rw [if_pos ⟨hm, by omega⟩]
  show go (digP n) e0 vals 4 0 st0 = _
  simp [go, digP, step, st0, push, any1, any2, isN, isT, emit, Val.big, addD, hs', hz]

/-! ### awake -/
def firstP : List Inst := [(6, 0, e0), (7, 0, e0), (4, 0, e0), (23, 0, e0)]
theorem first_run (k a b : ByteArray) (hk : k.size ≤ 16) (ha : a.size ≤ 64) : run firstP k [a, b] 9 = ([(k, a)], 0, 4) := by
  have hm : bad firstP < 0 := may_all (by simp [firstP]) (by
    intro x hx
    simp only [firstP, List.mem_cons, List.mem_nil_iff, or_false] at hx
    rcases hx with rfl | rfl | rfl | rfl <;> simp [good])
  have h1 : ¬ 64 < k.size := by omega
  have h2 : ¬ 64 < a.size := by omega
  have h3 : ¬ 16 < k.size := by omega
  unfold run
  rw [if_pos ⟨hm, by omega⟩]
  show go firstP k [a, b] 9 0 st0 = _
  simp [go, firstP, step, st0, push, any1, any2, isT, emit, Val.big, addD, h1, h2, h3]
theorem loop_run (k : ByteArray) (vals : List ByteArray) : run [(19, 0, e0)] k vals 5 = ([], 3, 5) := by
  have hm : bad [(19, 0, e0)] < 0 := may_all (by simp) (by
    intro x hx
    simp only [List.mem_cons, List.mem_nil_iff, or_false] at hx
    rcases hx with rfl <;> simp [good])
  unfold run
  rw [if_pos ⟨hm, by omega⟩]
  show go [(19, 0, e0)] k vals 5 0 st0 = _
  simp [go, step, addD]
end Go.Proofs.YtfimoobgbodbmaaGreatDoor
/-! Kinds, the stack, and the two loops over the values, run by hand. No program in this text. -/
namespace Go.Proofs.YtfimoobgbodbmaaGreatDoor
open Go.RowKit Go.Lib
set_option linter.unusedVariables false
set_option maxRecDepth 100000

variable {key : ByteArray} {vals : List ByteArray}

/-! ### Kinds -/
def numsP (o : Int) : List Inst := [(1, 0, e0), (1, 0, e0), (1, 0, e0), (o, 0, e0)]
def keysP (o : Int) : List Inst := [(6, 0, e0), (6, 0, e0), (6, 0, e0), (o, 0, e0)]
theorem numsP_run {o : Int} (ho : o = 13 ∨ o = 14 ∨ o = 15 ∨ o = 16 ∨ o = 18 ∨ o = 23) : run (numsP o) key vals 9 = ([], 2, 4) := by
  have hm : bad (numsP o) < 0 := may_all (by simp [numsP]) (by
    intro x hx
    simp only [numsP, List.mem_cons, List.mem_nil_iff, or_false] at hx
    rcases hx with rfl | rfl | rfl | rfl
    · simp [good]
    · simp [good]
    · simp [good]
    · rcases ho with rfl | rfl | rfl | rfl | rfl | rfl <;> simp [good])
  unfold run
  rw [if_pos ⟨hm, by omega⟩]
  show go (numsP o) key vals 9 0 st0 = _
  rcases ho with rfl | rfl | rfl | rfl | rfl | rfl <;> simp [go, numsP, step, st0, push, any1, any2, any3, isT, Val.big, addD]
theorem keysP_run {o : Int} (hk : key.size ≤ 64) (ho : o = 8 ∨ o = 9 ∨ o = 10 ∨ o = 11 ∨ o = 15 ∨ o = 16 ∨ o = 17 ∨ o = 20) : run (keysP o) key vals 9 = ([], 2, 4) := by
  have hm : bad (keysP o) < 0 := may_all (by simp [keysP]) (by
    intro x hx
    simp only [keysP, List.mem_cons, List.mem_nil_iff, or_false] at hx
    rcases hx with rfl | rfl | rfl | rfl
    · simp [good]
    · simp [good]
    · simp [good]
    · rcases ho with rfl | rfl | rfl | rfl | rfl | rfl | rfl | rfl <;> simp [good, keysP])
  have h1 : ¬ 64 < key.size := by omega
  unfold run
  rw [if_pos ⟨hm, by omega⟩]
  show go (keysP o) key vals 9 0 st0 = _
  rcases ho with rfl | rfl | rfl | rfl | rfl | rfl | rfl | rfl <;> simp [go, keysP, step, st0, push, nn, any1, any2, any3, isN, isT, Val.big, addD, h1]

/-! ### The stack -/
def under (o : Int) : Prop := o = 3 ∨ o = 4 ∨ o = 5 ∨ o = 8 ∨ o = 9 ∨ o = 10 ∨ o = 11 ∨ o = 12 ∨ o = 13 ∨ o = 14 ∨ o = 15 ∨ o = 16 ∨ o = 17 ∨ o = 18 ∨ o = 20 ∨ o = 22 ∨ o = 23
theorem under_run {o : Int} (ho : under o) : run [(o, 0, e0)] key vals 100 = ([], 1, 1) := by
  have hm : bad [(o, 0, e0)] < 0 := may_all (by simp) (by
    intro x hx
    simp only [List.mem_cons, List.mem_nil_iff, or_false] at hx
    rcases hx with rfl
    rcases ho with rfl | rfl | rfl | rfl | rfl | rfl | rfl | rfl | rfl | rfl | rfl | rfl | rfl | rfl | rfl | rfl | rfl <;> simp [good])
  unfold run
  rw [if_pos ⟨hm, by omega⟩]
  show go [(o, 0, e0)] key vals 100 0 st0 = _
  rcases ho with rfl | rfl | rfl | rfl | rfl | rfl | rfl | rfl | rfl | rfl | rfl | rfl | rfl | rfl | rfl | rfl | rfl <;> simp [go, step, st0, nn, any1, any2, any3]
def stackP (n : Nat) : List Inst := (List.range n).map fun (i : Nat) => ((1, (i : Int), e0) : Inst)
theorem stackP_length (n : Nat) : (stackP n).length = n := by simp [stackP]
theorem stackP_at {n i : Nat} (h : i < n) : (stackP n).getD i zInst = (1, (i : Int), e0) := by
  simp [stackP, List.getD, h]
theorem stackP_succ (n : Nat) : stackP (n + 1) = stackP n ++ [(1, (n : Int), e0)] := by simp [stackP, List.range_succ]
theorem stack_go (n : Nat) (r : Nat) : ∀ (j N : Nat) (m : St), n = j + r → j ≤ 16 → m.stack.length = j → m.told = [] → r ≤ N → go (stackP n) key vals N j m = if n ≤ 16 then ([], 0, r) else ([], 1, 17 - j) := by
  induction r with
  | zero =>
    intro j N m hn hj hs ht hN
    rw [go_end (by rw [stackP_length]; omega), ht, if_pos (by omega)]
  | succ r ih =>
    intro j N m hn hj hs ht hN
    obtain ⟨N, rfl⟩ : ∃ N', N = N' + 1 := ⟨N - 1, by omega⟩
    have hlt : j < (stackP n).length := by rw [stackP_length]; omega
    have hat := stackP_at (n := n) (i := j) (by omega)
    by_cases h16 : j = 16
    · rw [go_stop hlt (by rw [hat]; simp) (r := 1) (by rw [hat]; simp [step, push, Val.big, hs, h16])]
      rw [if_neg (by omega), h16]
    · rw [go_next hlt (by rw [hat]; simp) (m' := { m with stack := .num j :: m.stack }) (by rw [hat]; simp [step, push, Val.big, hs]; omega)]
      rw [ih (j + 1) N { m with stack := .num j :: m.stack } (by omega) (by omega) (by simp [hs]) ht (by omega)]
      by_cases hn16 : n ≤ 16
      · rw [if_pos hn16, if_pos hn16]; rfl
      · rw [if_neg hn16, if_neg hn16]
        show (([] : List Pr), (1 : Int), 17 - (j + 1) + 1) = _
        rw [show 17 - (j + 1) + 1 = 17 - j by omega]
theorem stack_run {n : Nat} (hn : n ≤ 40) : run (stackP n) key vals 100 = if n ≤ 16 then ([], 0, n) else ([], 1, 17) := by
  have hm : bad (stackP n) < 0 := may_all (by rw [stackP_length]; exact hn) (by
    intro x hx
    simp only [stackP, List.mem_map, List.mem_range] at hx
    obtain ⟨i, _, rfl⟩ := hx
    simp [good])
  unfold run
  rw [if_pos ⟨hm, by omega⟩]
  show go (stackP n) key vals 100 0 st0 = _
  rw [stack_go n n 0 100 st0 (by omega) (by omega) rfl rfl (by omega)]

/-! ### OpNext -/
theorem next_some {m : St} {a : Int} {s v : ByteArray} (ht : m.taken < vals.length) (hv : vals.getD m.taken ⟨#[]⟩ = v) (hs : v.size ≤ 64) (hl : m.stack.length ≤ 14) : step key vals (7, a, s) m = .next { m with taken := m.taken + 1, stack := .num 1 :: .text v :: m.stack } := by
  show (if m.taken < vals.length then push { m with taken := m.taken + 1 } m.stack [.text (vals.getD m.taken ⟨#[]⟩), .num 1] else push m m.stack [.num 0]) = _
  rw [if_pos ht, hv]
  have h1 : ¬ 64 < v.size := by omega
  have h2 : ¬ 16 < m.stack.length + 2 := by omega
  simp [push, Val.big, h1, h2]
theorem next_none {m : St} {a : Int} {s : ByteArray} (ht : vals.length ≤ m.taken) (hl : m.stack.length ≤ 15) : step key vals (7, a, s) m = .next { m with stack := .num 0 :: m.stack } := by
  show (if m.taken < vals.length then push { m with taken := m.taken + 1 } m.stack [.text (vals.getD m.taken ⟨#[]⟩), .num 1] else push m m.stack [.num 0]) = _
  rw [if_neg (by omega)]
  have h2 : ¬ 16 < m.stack.length + 1 := by omega
  simp [push, Val.big, h2]

/-! ### A loop that tells every value -/
def tellP : List Inst := [(7, 0, e0), (20, 3, e0), (0, 0, e0), (22, 0, e0), (6, 0, e0), (21, 0, e0), (23, 0, e0), (19, 0, e0)]
theorem tell_may : bad tellP < 0 := may_all (by simp [tellP]) (by
  intro x hx
  simp only [tellP, List.mem_cons, List.mem_nil_iff, or_false] at hx
  rcases hx with rfl | rfl | rfl | rfl | rfl | rfl | rfl | rfl <;> simp [good, tellP])
theorem reg_set {R : List Val} (h : R.length = 8) (i : Nat) (hi : i < 8) (v : Val) : (R.set i v).getD i (.num 0) = v := by
  simp [List.getD, h, hi]
theorem tell_round {R : List Val} (hR : R.length = 8) {t : Nat} {T : List Pr} {v : ByteArray} (ht : t < vals.length) (hv : vals.getD t ⟨#[]⟩ = v) (hvs : v.size ≤ 64) (hk : key.size ≤ 16) (hT : T.length < 40) (N : Nat) :
    go tellP key vals (N + 7) 0 ⟨[], R, t, T⟩ = addD 7 (go tellP key vals N 0 ⟨[], R.set 0 (.text v), t + 1, T ++ [(key, v)]⟩) := by
  have h1 : ¬ 64 < v.size := by omega
  have h2 : ¬ 64 < key.size := by omega
  have h3 : ¬ 16 < key.size := by omega
  have h4 : ¬ 40 ≤ T.length := by omega
  have hg := reg_set hR 0 (by omega) (.text v)
  rw [go_next (by simp [tellP]) (by simp [tellP]) (m' := ⟨[.num 1, .text v], R, t + 1, T⟩) (next_some ht hv hvs (by simp)),
    go_goto (by simp [tellP]) (by simp [tellP]) (t := 3) (m' := ⟨[.text v], R, t + 1, T⟩) (by simp [tellP, step, any1, isN]),
    go_next (by simp [tellP]) (by simp [tellP]) (m' := ⟨[], R.set 0 (.text v), t + 1, T⟩) (by simp [tellP, step, any1]),
    go_next (by simp [tellP]) (by simp [tellP]) (m' := ⟨[.text key], R.set 0 (.text v), t + 1, T⟩) (by simp [tellP, step, push, Val.big, h2]),
    go_next (by simp [tellP]) (by simp [tellP]) (m' := ⟨[.text v, .text key], R.set 0 (.text v), t + 1, T⟩) (by
      show push _ _ [(R.set 0 (.text v)).getD 0 (.num 0)] = _
      rw [hg]
      simp [push, Val.big, h1]),
    go_next (by simp [tellP]) (by simp [tellP]) (m' := ⟨[], R.set 0 (.text v), t + 1, T ++ [(key, v)]⟩) (by simp [tellP, step, any2, isT, emit, h3, h4]),
    go_goto (by simp [tellP]) (by simp [tellP]) (t := 0) (m' := ⟨[], R.set 0 (.text v), t + 1, T ++ [(key, v)]⟩) (by simp [tellP, step])]
  simp [addD, Nat.add_assoc]
theorem tell_many {R : List Val} (hR : R.length = 8) {t : Nat} {T : List Pr} {v : ByteArray} (ht : t < vals.length) (hv : vals.getD t ⟨#[]⟩ = v) (hvs : v.size ≤ 64) (hk : key.size ≤ 16) (hT : 40 ≤ T.length) (N : Nat) :
    go tellP key vals (N + 6) 0 ⟨[], R, t, T⟩ = ([], 5, 6) := by
  have h1 : ¬ 64 < v.size := by omega
  have h2 : ¬ 64 < key.size := by omega
  have h3 : ¬ 16 < key.size := by omega
  have hg := reg_set hR 0 (by omega) (.text v)
  rw [go_next (by simp [tellP]) (by simp [tellP]) (m' := ⟨[.num 1, .text v], R, t + 1, T⟩) (next_some ht hv hvs (by simp)),
    go_goto (by simp [tellP]) (by simp [tellP]) (t := 3) (m' := ⟨[.text v], R, t + 1, T⟩) (by simp [tellP, step, any1, isN]),
    go_next (by simp [tellP]) (by simp [tellP]) (m' := ⟨[], R.set 0 (.text v), t + 1, T⟩) (by simp [tellP, step, any1]),
    go_next (by simp [tellP]) (by simp [tellP]) (m' := ⟨[.text key], R.set 0 (.text v), t + 1, T⟩) (by simp [tellP, step, push, Val.big, h2]),
    go_next (by simp [tellP]) (by simp [tellP]) (m' := ⟨[.text v, .text key], R.set 0 (.text v), t + 1, T⟩) (by
      show push _ _ [(R.set 0 (.text v)).getD 0 (.num 0)] = _
      rw [hg]
      simp [push, Val.big, h1]),
    go_stop (by simp [tellP]) (by simp [tellP]) (r := 5) (by simp [tellP, step, any2, isT, emit, h3, hT])]
  rfl
theorem tell_end {R : List Val} {t : Nat} {T : List Pr} (ht : vals.length ≤ t) (N : Nat) : go tellP key vals (N + 3) 0 ⟨[], R, t, T⟩ = (T, 0, 3) := by
  rw [go_next (by simp [tellP]) (by simp [tellP]) (m' := ⟨[.num 0], R, t, T⟩) (next_none ht (by simp)),
    go_next (by simp [tellP]) (by simp [tellP]) (m' := ⟨[], R, t, T⟩) (by simp [tellP, step, any1, isN]),
    go_halt (by simp [tellP]) (by simp [tellP])]
  rfl
theorem tell_go (hv : ∀ v ∈ vals, v.size ≤ 64) (hk : key.size ≤ 16) (r : Nat) : ∀ (t N : Nat) (R : List Val) (T : List Pr), R.length = 8 → T = (vals.take t).map (fun v => (key, v)) → t + r = vals.length → t ≤ 40 → 7 * r + 7 ≤ N →
    go tellP key vals N 0 ⟨[], R, t, T⟩ = if vals.length ≤ 40 then (vals.map (fun v => (key, v)), 0, 7 * r + 3) else ([], 5, 7 * (40 - t) + 6) := by
  induction r with
  | zero =>
    intro t N R T hR hT ht h40 hN
    obtain ⟨N, rfl⟩ : ∃ N', N = N' + 3 := ⟨N - 3, by omega⟩
    rw [tell_end (by omega), if_pos (by omega), hT, List.take_of_length_le (by omega)]
  | succ r ih =>
    intro t N R T hR hT ht h40 hN
    have hlt : t < vals.length := by omega
    have hTl : T.length = t := by rw [hT]; simp; omega
    have hg : vals.getD t ⟨#[]⟩ = vals[t] := by simp [List.getD, List.getElem?_eq_getElem hlt]
    have hs := hv _ (List.getElem_mem hlt)
    by_cases h : t = 40
    · obtain ⟨N, rfl⟩ : ∃ N', N = N' + 6 := ⟨N - 6, by omega⟩
      rw [tell_many hR hlt hg hs hk (by omega), if_neg (by omega), h]
    · obtain ⟨N, rfl⟩ : ∃ N', N = N' + 7 := ⟨N - 7, by omega⟩
      rw [tell_round hR hlt hg hs hk (by omega), ih (t + 1) N _ _ (by simpa using hR) (by rw [hT, List.take_succ_eq_append_getElem hlt, List.map_append]; rfl) (by omega) (by omega) (by omega)]
      by_cases hn : vals.length ≤ 40
      · rw [if_pos hn, if_pos hn]
        show (_, (0 : Int), 7 * r + 3 + 7) = _
        rw [show 7 * r + 3 + 7 = 7 * (r + 1) + 3 by omega]
      · rw [if_neg hn, if_neg hn]
        show (_, (5 : Int), 7 * (40 - (t + 1)) + 6 + 7) = _
        rw [show 7 * (40 - (t + 1)) + 6 + 7 = 7 * (40 - t) + 6 by omega]
theorem tell_run (hv : ∀ v ∈ vals, v.size ≤ 64) (hk : key.size ≤ 16) (hl : vals.length ≤ 50) :
    run tellP key vals 2000 = if vals.length ≤ 40 then (vals.map (fun v => (key, v)), 0, 7 * vals.length + 3) else ([], 5, 286) := by
  unfold run
  rw [if_pos ⟨tell_may, by omega⟩]
  show go tellP key vals 2000 0 st0 = _
  have := tell_go hv hk vals.length 0 2000 (List.replicate 8 (.num 0)) [] (by simp) (by simp) (by omega) (by omega) (by omega)
  exact this

/-! ### A loop that adds up -/
def sumP : List Inst := [(7, 0, e0), (20, 6, e0), (6, 0, e0), (21, 3, e0), (17, 0, e0), (19, 11, e0), (18, 0, e0), (21, 3, e0), (8, 0, e0), (22, 3, e0), (19, 0, e0), (23, 0, e0)]
theorem sum_may : bad sumP < 0 := may_all (by simp [sumP]) (by
  intro x hx
  simp only [sumP, List.mem_cons, List.mem_nil_iff, or_false] at hx
  rcases hx with rfl | rfl | rfl | rfl | rfl | rfl | rfl | rfl | rfl | rfl | rfl | rfl <;> simp [good, sumP])
/-- The sum of what the texts say, going round. -/
def sumOf (c : Int) : List ByteArray → Int
  | [] => c
  | v :: r => sumOf (wrap64 (vNum v.data.toList + c)) r
theorem sum_i64 {c : Int} (h : I64 c) : ∀ l : List ByteArray, I64 (sumOf c l)
  | [] => h
  | v :: r => sum_i64 (i64_wrap _) r
theorem sum_round {R : List Val} (hR : R.length = 8) {t : Nat} {c : Int} {v : ByteArray} (hc : R.getD 3 (.num 0) = .num c) (ht : t < vals.length) (hv : vals.getD t ⟨#[]⟩ = v) (hvs : v.size ≤ 64) (N : Nat) :
    go sumP key vals (N + 7) 0 ⟨[], R, t, []⟩ = addD 7 (go sumP key vals N 0 ⟨[], R.set 3 (.num (wrap64 (vNum v.data.toList + c))), t + 1, []⟩) := by
  have h1 : ¬ 64 < v.size := by omega
  rw [go_next (by simp [sumP]) (by simp [sumP]) (m' := ⟨[.num 1, .text v], R, t + 1, []⟩) (next_some ht hv hvs (by simp)),
    go_goto (by simp [sumP]) (by simp [sumP]) (t := 6) (m' := ⟨[.text v], R, t + 1, []⟩) (by simp [sumP, step, any1, isN]),
    go_next (by simp [sumP]) (by simp [sumP]) (m' := ⟨[.num (vNum v.data.toList)], R, t + 1, []⟩) (by simp [sumP, step, any1, isT, push, Val.big]),
    go_next (by simp [sumP]) (by simp [sumP]) (m' := ⟨[.num c, .num (vNum v.data.toList)], R, t + 1, []⟩) (by
      show push _ _ [R.getD 3 (.num 0)] = _
      rw [hc]
      simp [push, Val.big]),
    go_next (by simp [sumP]) (by simp [sumP]) (m' := ⟨[.num (wrap64 (vNum v.data.toList + c))], R, t + 1, []⟩) (by simp [sumP, step, nn, any2, isN, push, Val.big]),
    go_next (by simp [sumP]) (by simp [sumP]) (m' := ⟨[], R.set 3 (.num (wrap64 (vNum v.data.toList + c))), t + 1, []⟩) (by simp [sumP, step, any1]),
    go_goto (by simp [sumP]) (by simp [sumP]) (t := 0) (m' := ⟨[], R.set 3 (.num (wrap64 (vNum v.data.toList + c))), t + 1, []⟩) (by simp [sumP, step])]
  simp [addD, Nat.add_assoc]
theorem sum_end {R : List Val} {t : Nat} {c : Int} (hc : R.getD 3 (.num 0) = .num c) (hi : I64 c) (ht : vals.length ≤ t) (hk : key.size ≤ 16) (N : Nat) : go sumP key vals (N + 7) 0 ⟨[], R, t, []⟩ = ([(key, txt (itoa c))], 0, 7) := by
  have h1 : ¬ 64 < (txt (itoa c)).size := by have := itoa_small hi; omega
  have h2 : ¬ 64 < key.size := by omega
  have h3 : ¬ 16 < key.size := by omega
  rw [go_next (by simp [sumP]) (by simp [sumP]) (m' := ⟨[.num 0], R, t, []⟩) (next_none ht (by simp)),
    go_next (by simp [sumP]) (by simp [sumP]) (m' := ⟨[], R, t, []⟩) (by simp [sumP, step, any1, isN]),
    go_next (by simp [sumP]) (by simp [sumP]) (m' := ⟨[.text key], R, t, []⟩) (by simp [sumP, step, push, Val.big, h2]),
    go_next (by simp [sumP]) (by simp [sumP]) (m' := ⟨[.num c, .text key], R, t, []⟩) (by
      show push _ _ [R.getD 3 (.num 0)] = _
      rw [hc]
      simp [push, Val.big]),
    go_next (by simp [sumP]) (by simp [sumP]) (m' := ⟨[.text (txt (itoa c)), .text key], R, t, []⟩) (by simp [sumP, step, any1, isN, push, Val.big, h1]),
    go_goto (by simp [sumP]) (by simp [sumP]) (t := 11) (m' := ⟨[.text (txt (itoa c)), .text key], R, t, []⟩) (by simp [sumP, step]),
    go_next (by simp [sumP]) (by simp [sumP]) (m' := ⟨[], R, t, [(key, txt (itoa c))]⟩) (by simp [sumP, step, any2, isT, emit, h3]),
    go_end (by simp [sumP])]
  rfl
theorem sum_go (hv : ∀ v ∈ vals, v.size ≤ 64) (hk : key.size ≤ 16) (r : Nat) : ∀ (t N : Nat) (R : List Val) (c : Int), R.length = 8 → R.getD 3 (.num 0) = .num c → I64 c → t + r = vals.length → 7 * r + 7 ≤ N →
    go sumP key vals N 0 ⟨[], R, t, []⟩ = ([(key, txt (itoa (sumOf c (vals.drop t))))], 0, 7 * r + 7) := by
  induction r with
  | zero =>
    intro t N R c hR hc hi ht hN
    obtain ⟨N, rfl⟩ : ∃ N', N = N' + 7 := ⟨N - 7, by omega⟩
    rw [sum_end hc hi (by omega) hk, List.drop_of_length_le (by omega)]
    rfl
  | succ r ih =>
    intro t N R c hR hc hi ht hN
    have hlt : t < vals.length := by omega
    have hg : vals.getD t ⟨#[]⟩ = vals[t] := by simp [List.getD, List.getElem?_eq_getElem hlt]
    have hs := hv _ (List.getElem_mem hlt)
    obtain ⟨N, rfl⟩ : ∃ N', N = N' + 7 := ⟨N - 7, by omega⟩
    rw [sum_round hR hc hlt hg hs, ih (t + 1) N _ (wrap64 (vNum vals[t].data.toList + c)) (by simpa using hR) (reg_set hR 3 (by omega) _) (i64_wrap _) (by omega) (by omega)]
    rw [List.drop_eq_getElem_cons hlt]
    show (_, (0 : Int), 7 * r + 7 + 7) = _
    rw [show 7 * r + 7 + 7 = 7 * (r + 1) + 7 by omega]
    rfl
theorem sum_run (hv : ∀ v ∈ vals, v.size ≤ 64) (hk : key.size ≤ 16) (hl : vals.length ≤ 60) :
    run sumP key vals 2000 = ([(key, txt (itoa (sumOf 0 vals)))], 0, 7 * vals.length + 7) := by
  unfold run
  rw [if_pos ⟨sum_may, by omega⟩]
  show go sumP key vals 2000 0 st0 = _
  exact sum_go hv hk vals.length 0 2000 (List.replicate 8 (.num 0)) 0 (by simp) (by simp [List.getD]) (i64_small (by omega) (by omega)) (by omega) (by omega)
end Go.Proofs.YtfimoobgbodbmaaGreatDoor
