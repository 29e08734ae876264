/- The stack machine of chapter 6 over lists: what it tells, why it ends, in how many steps. No program in this text. -/
import Derived.Test.YtpggfdnpbipckaaGreatDoorPMath
import Derived.Test.YtpggfdnpbipckaaGreatDoorVMath
namespace Go.Proofs.YtpggfdnpbipckaaGreatDoor
open Go.RowKit Go.Lib
set_option linter.unusedVariables false
set_option maxRecDepth 100000

/-- A number, or bytes. -/
inductive Val where
  | num (n : Int)
  | text (s : ByteArray)
abbrev Pr := ByteArray × ByteArray

/-- A run: the stack (its top first), the registers, how many values were taken, what was told. -/
structure St where
  stack : List Val
  regs : List Val
  taken : Nat
  told : List Pr
def st0 : St := ⟨[], List.replicate 8 (.num 0), 0, []⟩

inductive Out where
  | stop (r : Int)
  | next (m : St)
  | goto (t : Int) (m : St)

def Val.big : Val → Bool
  | .num _ => false
  | .text s => decide (64 < s.size)
/-- What is pushed (the lowest first) on what is left of the stack. -/
def push (m : St) (s : List Val) (out : List Val) : Out :=
  if out.any Val.big = true then .stop 4 else if 16 < s.length + out.length then .stop 1 else .next { m with stack := out.reverse ++ s }

def txt (l : List UInt8) : ByteArray := ⟨l.toArray⟩
def atV (s : ByteArray) (i : Int) : Int := if i < 0 ∨ (s.size : Int) ≤ i then -1 else ((s.data.toList.getD i.toNat 0).toNat : Int)
def clipV (n : Nat) (a : Int) : Nat := (min (max a 0) (n : Int)).toNat
def cutV (s : ByteArray) (a b : Int) : ByteArray := txt ((s.data.toList.drop (clipV s.data.toList.length a)).take (clipV s.data.toList.length b - clipV s.data.toList.length a))
def sameV : Val → Val → Bool
  | .num a, .num b => a == b
  | .text a, .text b => a.data.toList == b.data.toList
  | _, _ => false
def flag (b : Bool) : Val := .num (if b = true then 1 else 0)

/-- What an operation needs: one of either kind, two, a number, bytes .. -/
def any1 (m : St) (f : Val → List Val → Out) : Out := match m.stack with
  | a :: s => f a s
  | _ => .stop 1
def any2 (m : St) (f : Val → Val → List Val → Out) : Out := match m.stack with
  | b :: a :: s => f a b s
  | _ => .stop 1
def any3 (m : St) (f : Val → Val → Val → List Val → Out) : Out := match m.stack with
  | c :: b :: a :: s => f a b c s
  | _ => .stop 1
def isN (v : Val) (f : Int → Out) : Out := match v with
  | .num n => f n
  | .text _ => .stop 2
def isT (v : Val) (f : ByteArray → Out) : Out := match v with
  | .num _ => .stop 2
  | .text s => f s
def nn (m : St) (f : Int → Int → Val) : Out := any2 m fun a b s => isN a fun a => isN b fun b => push m s [f a b]
def emit (m : St) (k v : ByteArray) (s : List Val) : Out :=
  if 16 < k.size then .stop 4 else if 40 ≤ m.told.length then .stop 5 else .next { m with stack := s, told := m.told ++ [(k, v)] }

/-- One instruction, but OpHalt. -/
def step (key : ByteArray) (vals : List ByteArray) (x : Inst) (m : St) : Out :=
  match x.1.toNat with
  | 1 => push m m.stack [.num x.2.1]
  | 2 => push m m.stack [.text x.2.2]
  | 3 => any1 m fun a s => push m s [a, a]
  | 4 => any1 m fun a s => push m s []
  | 5 => any2 m fun a b s => push m s [b, a]
  | 6 => push m m.stack [.text key]
  | 7 => if m.taken < vals.length then push { m with taken := m.taken + 1 } m.stack [.text (vals.getD m.taken ⟨#[]⟩), .num 1] else push m m.stack [.num 0]
  | 8 => nn m fun a b => .num (wrap64 (a + b))
  | 9 => nn m fun a b => .num (wrap64 (a - b))
  | 10 => nn m fun a b => .num (wrap64 (a * b))
  | 11 => nn m fun a b => flag (decide (a < b))
  | 12 => any2 m fun a b s => push m s [flag (sameV a b)]
  | 13 => any2 m fun a b s => isT a fun a => isT b fun b => push m s [.text (a ++ b)]
  | 14 => any1 m fun a s => isT a fun a => push m s [.num a.size]
  | 15 => any2 m fun a b s => isT a fun a => isN b fun b => push m s [.num (atV a b)]
  | 16 => any3 m fun a b c s => isT a fun a => isN b fun b => isN c fun c => push m s [.text (cutV a b c)]
  | 17 => any1 m fun a s => isN a fun a => push m s [.text (txt (itoa a))]
  | 18 => any1 m fun a s => isT a fun a => push m s [.num (vNum a.data.toList)]
  | 19 => .goto x.2.1 m
  | 20 => any1 m fun a s => isN a fun a => if a = 0 then .next { m with stack := s } else .goto x.2.1 { m with stack := s }
  | 21 => push m m.stack [m.regs.getD x.2.1.toNat (.num 0)]
  | 22 => any1 m fun a s => .next { m with stack := s, regs := m.regs.set x.2.1.toNat a }
  | 23 => any2 m fun a b s => isT a fun a => isT b fun b => emit m a b s
  | _ => .next m

abbrev Res := List Pr × Int × Nat
def addD (k : Nat) (r : Res) : Res := (r.1, r.2.1, r.2.2 + k)

/-- At most n instructions from place i on. -/
def go (p : List Inst) (key : ByteArray) (vals : List ByteArray) : Nat → Nat → St → Res
  | 0, i, m => if p.length ≤ i then (m.told, 0, 0) else ([], 3, 0)
  | n + 1, i, m => if p.length ≤ i then (m.told, 0, 0) else if (p.getD i zInst).1 = 0 then (m.told, 0, 1) else
    match step key vals (p.getD i zInst) m with
    | .stop r => ([], r, 1)
    | .next m' => addD 1 (go p key vals n (i + 1) m')
    | .goto t m' => addD 1 (go p key vals n t.toNat m')

def run (p : List Inst) (key : ByteArray) (vals : List ByteArray) (fuel : Int) : Res :=
  if bad p < 0 ∧ 0 ≤ fuel then go p key vals (min fuel 2000).toNat 0 st0 else ([], 2, 0)

theorem addD_zero (r : Res) : addD 0 r = r := rfl
theorem addD_add (a b : Nat) (r : Res) : addD a (addD b r) = addD (b + a) r := by simp [addD, Nat.add_assoc]

/-! ### One step of the whole -/
variable {p : List Inst} {key : ByteArray} {vals : List ByteArray}
theorem go_end {n i : Nat} {m : St} (h : p.length ≤ i) : go p key vals n i m = (m.told, 0, 0) := by
  cases n <;> simp only [go] <;> rw [if_pos h]
theorem go_out {i : Nat} {m : St} (h : i < p.length) : go p key vals 0 i m = ([], 3, 0) := by
  simp only [go]; rw [if_neg (by omega)]
theorem go_halt {n i : Nat} {m : St} (h : i < p.length) (h0 : (p.getD i zInst).1 = 0) : go p key vals (n + 1) i m = (m.told, 0, 1) := by
  simp only [go]; rw [if_neg (by omega), if_pos h0]
theorem go_stop {n i : Nat} {m : St} {r : Int} (h : i < p.length) (h0 : ¬ (p.getD i zInst).1 = 0) (hs : step key vals (p.getD i zInst) m = .stop r) : go p key vals (n + 1) i m = ([], r, 1) := by
  simp only [go]; rw [if_neg (by omega), if_neg h0, hs]
theorem go_next {n i : Nat} {m m' : St} (h : i < p.length) (h0 : ¬ (p.getD i zInst).1 = 0) (hs : step key vals (p.getD i zInst) m = .next m') : go p key vals (n + 1) i m = addD 1 (go p key vals n (i + 1) m') := by
  simp only [go]; rw [if_neg (by omega), if_neg h0, hs]
theorem go_goto {n i : Nat} {m m' : St} {t : Int} (h : i < p.length) (h0 : ¬ (p.getD i zInst).1 = 0) (hs : step key vals (p.getD i zInst) m = .goto t m') : go p key vals (n + 1) i m = addD 1 (go p key vals n t.toNat m') := by
  simp only [go]; rw [if_neg (by omega), if_neg h0, hs]

/-! ### Reasons -/
/-- An instruction ends for one of four reasons. -/
def Why (o : Out) : Prop := ∀ r, o = .stop r → r = 1 ∨ r = 2 ∨ r = 4 ∨ r = 5
theorem why_push (m : St) (s out : List Val) : Why (push m s out) := by
  intro r h
  unfold push at h
  split at h
  · cases h; omega
  · split at h
    · cases h; omega
    · cases h
theorem why_next (m : St) : Why (.next m) := fun r h => by cases h
theorem why_goto (t : Int) (m : St) : Why (.goto t m) := fun r h => by cases h
theorem why_any1 (m : St) {f} (hf : ∀ a s, Why (f a s)) : Why (any1 m f) := by
  intro r h
  unfold any1 at h
  split at h
  · exact hf _ _ r h
  · cases h; omega
theorem why_any2 (m : St) {f} (hf : ∀ a b s, Why (f a b s)) : Why (any2 m f) := by
  intro r h
  unfold any2 at h
  split at h
  · exact hf _ _ _ r h
  · cases h; omega
theorem why_any3 (m : St) {f} (hf : ∀ a b c s, Why (f a b c s)) : Why (any3 m f) := by
  intro r h
  unfold any3 at h
  split at h
  · exact hf _ _ _ _ r h
  · cases h; omega
theorem why_isN (v : Val) {f} (hf : ∀ a, Why (f a)) : Why (isN v f) := by
  intro r h
  unfold isN at h
  split at h
  · exact hf _ r h
  · cases h; omega
theorem why_isT (v : Val) {f} (hf : ∀ a, Why (f a)) : Why (isT v f) := by
  intro r h
  unfold isT at h
  split at h
  · cases h; omega
  · exact hf _ r h
theorem why_nn (m : St) (f) : Why (nn m f) := why_any2 m fun _ _ _ => why_isN _ fun _ => why_isN _ fun _ => why_push _ _ _
theorem why_emit (m : St) (k v s) : Why (emit m k v s) := by
  intro r h
  unfold emit at h
  split at h
  · cases h; omega
  · split at h
    · cases h; omega
    · cases h
theorem why_step (key : ByteArray) (vals : List ByteArray) (x : Inst) (m : St) : Why (step key vals x m) := by
  unfold step
  split
  · exact why_push _ _ _
  · exact why_push _ _ _
  · exact why_any1 _ fun _ _ => why_push _ _ _
  · exact why_any1 _ fun _ _ => why_push _ _ _
  · exact why_any2 _ fun _ _ _ => why_push _ _ _
  · exact why_push _ _ _
  · split
    · exact why_push _ _ _
    · exact why_push _ _ _
  · exact why_nn _ _
  · exact why_nn _ _
  · exact why_nn _ _
  · exact why_nn _ _
  · exact why_any2 _ fun _ _ _ => why_push _ _ _
  · exact why_any2 _ fun _ _ _ => why_isT _ fun _ => why_isT _ fun _ => why_push _ _ _
  · exact why_any1 _ fun _ _ => why_isT _ fun _ => why_push _ _ _
  · exact why_any2 _ fun _ _ _ => why_isT _ fun _ => why_isN _ fun _ => why_push _ _ _
  · exact why_any3 _ fun _ _ _ _ => why_isT _ fun _ => why_isN _ fun _ => why_isN _ fun _ => why_push _ _ _
  · exact why_any1 _ fun _ _ => why_isN _ fun _ => why_push _ _ _
  · exact why_any1 _ fun _ _ => why_isT _ fun _ => why_push _ _ _
  · exact why_goto _ _
  · refine why_any1 _ fun _ _ => why_isN _ fun _ => ?_
    split
    · exact why_next _
    · exact why_goto _ _
  · exact why_push _ _ _
  · exact why_any1 _ fun _ _ => why_next _
  · exact why_any2 _ fun _ _ _ => why_isT _ fun _ => why_isT _ fun _ => why_emit _ _ _ _
  · exact why_next _

/-! ### Fuel -/
/-- What n instructions tell: Fuel, all of them done, or an end that is the same with more, and with less as long as it reaches. -/
def Fuels (p : List Inst) (key : ByteArray) (vals : List ByteArray) (n i : Nat) (m : St) : Prop :=
  (go p key vals n i m = ([], 3, n)) ∨
  ∃ a r d, r ≠ 3 ∧ d ≤ n ∧ go p key vals n i m = (a, r, d) ∧ ∀ k, (d ≤ k → go p key vals k i m = (a, r, d)) ∧ (k < d → go p key vals k i m = ([], 3, k))
theorem fuels_step {n i : Nat} {m : St} (h : i < p.length) {j : Nat} {m' : St} (hs : ∀ k, go p key vals (k + 1) i m = addD 1 (go p key vals k j m')) (ih : Fuels p key vals n j m') : Fuels p key vals (n + 1) i m := by
  rcases ih with ih | ⟨a, r, d, hr, hd, hg, hk⟩
  · exact .inl (by rw [hs, ih]; rfl)
  · refine .inr ⟨a, r, d + 1, hr, by omega, by rw [hs, hg]; rfl, fun k => ⟨fun hk' => ?_, fun hk' => ?_⟩⟩
    · obtain ⟨k, rfl⟩ : ∃ k', k = k' + 1 := ⟨k - 1, by omega⟩
      rw [hs, (hk k).1 (by omega)]; rfl
    · cases k with
      | zero => exact go_out h
      | succ k => rw [hs, (hk k).2 (by omega)]; rfl
theorem fuels (n : Nat) : ∀ (i : Nat) (m : St), Fuels p key vals n i m := by
  induction n with
  | zero =>
    intro i m
    by_cases h : p.length ≤ i
    · exact .inr ⟨m.told, 0, 0, by omega, Nat.le_refl _, go_end h, fun k => ⟨fun _ => go_end h, fun hk => by omega⟩⟩
    · exact .inl (go_out (by omega))
  | succ n ih =>
    intro i m
    by_cases h : p.length ≤ i
    · exact .inr ⟨m.told, 0, 0, by omega, by omega, go_end h, fun k => ⟨fun _ => go_end h, fun hk => by omega⟩⟩
    have h' : i < p.length := by omega
    by_cases h0 : (p.getD i zInst).1 = 0
    · refine .inr ⟨m.told, 0, 1, by omega, by omega, go_halt h' h0, fun k => ⟨fun hk => ?_, fun hk => ?_⟩⟩
      · obtain ⟨k, rfl⟩ : ∃ k', k = k' + 1 := ⟨k - 1, by omega⟩
        exact go_halt h' h0
      · obtain rfl : k = 0 := by omega
        exact go_out h'
    cases hs : step key vals (p.getD i zInst) m with
    | stop r =>
      have hr := why_step key vals (p.getD i zInst) m r hs
      refine .inr ⟨[], r, 1, by omega, by omega, go_stop h' h0 hs, fun k => ⟨fun hk => ?_, fun hk => ?_⟩⟩
      · obtain ⟨k, rfl⟩ : ∃ k', k = k' + 1 := ⟨k - 1, by omega⟩
        exact go_stop h' h0 hs
      · obtain rfl : k = 0 := by omega
        exact go_out h'
    | next m' => exact fuels_step h' (fun k => go_next h' h0 hs) (ih _ _)
    | goto t m' => exact fuels_step h' (fun k => go_goto h' h0 hs) (ih _ _)
end Go.Proofs.YtpggfdnpbipckaaGreatDoor
