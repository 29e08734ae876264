/- An instruction as chapter 6's own answer does it: what it needs, what it does of it, what is pushed. No program in this text. -/
import Derived.Test.YtpggfdnpbipckaaGreatDoorVStep
import Derived.Test.YtpggfdnpbipckaaGreatDoorRVal
namespace Go.Proofs.YtpggfdnpbipckaaGreatDoor
open Go.RowKit Go.Lib
set_option linter.unusedVariables false
set_option maxRecDepth 100000

/-- What an operation needs: 0 either, 1 a number, 2 bytes. -/
def ksOf : Nat → List Int
  | 3 => [0]
  | 4 => [0]
  | 22 => [0]
  | 5 => [0, 0]
  | 12 => [0, 0]
  | 8 => [1, 1]
  | 9 => [1, 1]
  | 10 => [1, 1]
  | 11 => [1, 1]
  | 13 => [2, 2]
  | 23 => [2, 2]
  | 14 => [2]
  | 18 => [2]
  | 15 => [2, 1]
  | 16 => [2, 1, 1]
  | 17 => [1]
  | 20 => [1]
  | _ => []
def kb (k : Int) : UInt8 := if k = 0 then 63 else if k = 1 then 110 else 116
theorem kindsOf_ks : ∀ o, o < 24 → kindsOf o = (ksOf o).map kb := by decide
theorem ksOf_len : ∀ o, o < 24 → (ksOf o).length ≤ 3 := by decide
theorem ksOf_some : ∀ o, o < 24 → ∀ k, k < (ksOf o).length → (ksOf o).getD k 0 = 0 ∨ (ksOf o).getD k 0 = 1 ∨ (ksOf o).getD k 0 = 2 := by decide

/-- What does answers: a reason, or what is pushed. -/
inductive Dn where
  | fail (r : Int)
  | give (out : List Val) (m : St)
def doesL (key : ByteArray) (vals : List ByteArray) (x : Inst) (av : List Val) (m : St) : Dn :=
  match x.1.toNat with
  | 1 => .give [.num x.2.1] m
  | 2 => .give [.text x.2.2] m
  | 3 => .give [at0 av, at0 av] m
  | 5 => .give [at1 av, at0 av] m
  | 6 => .give [.text key] m
  | 7 => if m.taken < vals.length then .give [.text (vals.getD m.taken ⟨#[]⟩), .num 1] { m with taken := m.taken + 1 } else .give [.num 0] m
  | 8 => .give [.num (wrap64 (nOf (at0 av) + nOf (at1 av)))] m
  | 9 => .give [.num (wrap64 (nOf (at0 av) - nOf (at1 av)))] m
  | 10 => .give [.num (wrap64 (nOf (at0 av) * nOf (at1 av)))] m
  | 11 => .give [flag (decide (nOf (at0 av) < nOf (at1 av)))] m
  | 12 => .give [flag (sameV (at0 av) (at1 av))] m
  | 13 => .give [.text (tOf (at0 av) ++ tOf (at1 av))] m
  | 14 => .give [.num (tOf (at0 av)).size] m
  | 15 => .give [.num (atV (tOf (at0 av)) (nOf (at1 av)))] m
  | 16 => .give [.text (cutV (tOf (at0 av)) (nOf (at1 av)) (nOf (at2 av)))] m
  | 17 => .give [.text (txt (itoa (nOf (at0 av))))] m
  | 18 => .give [.num (vNum (tOf (at0 av)).data.toList)] m
  | 21 => .give [m.regs.getD x.2.1.toNat (.num 0)] m
  | 22 => .give [] { m with regs := m.regs.set x.2.1.toNat (at0 av) }
  | 23 => if 16 < (tOf (at0 av)).size then .fail 4 else if 40 ≤ m.told.length then .fail 5 else .give [] { m with told := m.told ++ [(tOf (at0 av), tOf (at1 av))] }
  | _ => .give [] m
def afterL : Dn → Out
  | .fail r => .stop r
  | .give out m => push m m.stack out
def actL (key : ByteArray) (vals : List ByteArray) (x : Inst) (av : List Val) (m : St) : Out :=
  if x.1.toNat = 19 ∨ (x.1.toNat = 20 ∧ nOf (at0 av) ≠ 0) then .goto x.2.1 m else afterL (doesL key vals x av m)

variable {m : St} {key : ByteArray} {vals : List ByteArray} {x : Inst}
theorem needs0 (g : List Val → List Val → Out) : needs [] m g = g [] m.stack := by
  unfold needs
  rw [if_neg (by simp), if_pos (by rfl)]
  rfl
theorem push_none {m : St} (h : m.stack.length ≤ 16) : push m m.stack [] = .next m := by
  unfold push
  rw [if_neg (by simp), if_neg (by simp; omega)]
  rfl
theorem fits_num {a : Val} (h : fitsT 1 (tri a).1 = true) : ∃ n, a = .num n := by
  cases a with
  | num n => exact ⟨n, rfl⟩
  | text s => exact absurd h (by simp [fitsT, tri])
theorem fits_text {a : Val} (h : fitsT 2 (tri a).1 = true) : ∃ s, a = .text s := by
  cases a with
  | num n => exact absurd h (by simp [fitsT, tri])
  | text s => exact ⟨s, rfl⟩
theorem any1_needs {f : Val → List Val → Out} {g : List Val → List Val → Out} (k : Int) (h : ∀ a s, m.stack = a :: s → f a s = if fitsT k (tri a).1 = true then g [a] s else .stop 2) : any1 m f = needs [k] m g := by
  rw [needs1]
  unfold any1
  cases hs : m.stack with
  | nil => rfl
  | cons a s => exact h a s hs
theorem any2_needs {f : Val → Val → List Val → Out} {g : List Val → List Val → Out} (k l : Int) (h : ∀ a b s, m.stack = b :: a :: s → f a b s = if (fitsT k (tri a).1 && fitsT l (tri b).1) = true then g [a, b] s else .stop 2) : any2 m f = needs [k, l] m g := by
  rw [needs2]
  unfold any2
  match hs : m.stack with
  | [] => rfl
  | [b] => rfl
  | b :: a :: s => exact h a b s hs
theorem any3_needs {f : Val → Val → Val → List Val → Out} {g : List Val → List Val → Out} (k l j : Int) (h : ∀ a b c s, m.stack = c :: b :: a :: s → f a b c s = if (fitsT k (tri a).1 && (fitsT l (tri b).1 && fitsT j (tri c).1)) = true then g [a, b, c] s else .stop 2) : any3 m f = needs [k, l, j] m g := by
  rw [needs3]
  unfold any3
  match hs : m.stack with
  | [] => rfl
  | [b] => rfl
  | [c, b] => rfl
  | c :: b :: a :: s => exact h a b c s hs
/-- One instruction, but OpHalt. -/
theorem step_needs (hm : m.stack.length ≤ 16) (ho : x.1.toNat < 24) (h0 : x.1.toNat ≠ 0) : step key vals x m = needs (ksOf x.1.toNat) m fun av s => actL key vals x av { m with stack := s } := by
  have hc : x.1.toNat = 1 ∨ x.1.toNat = 2 ∨ x.1.toNat = 3 ∨ x.1.toNat = 4 ∨ x.1.toNat = 5 ∨ x.1.toNat = 6 ∨ x.1.toNat = 7 ∨ x.1.toNat = 8 ∨ x.1.toNat = 9 ∨ x.1.toNat = 10 ∨ x.1.toNat = 11 ∨ x.1.toNat = 12 ∨ x.1.toNat = 13 ∨ x.1.toNat = 14 ∨ x.1.toNat = 15 ∨ x.1.toNat = 16 ∨ x.1.toNat = 17 ∨ x.1.toNat = 18 ∨ x.1.toNat = 19 ∨ x.1.toNat = 20 ∨ x.1.toNat = 21 ∨ x.1.toNat = 22 ∨ x.1.toNat = 23 := by omega
  rcases hc with h | h | h | h | h | h | h | h | h | h | h | h | h | h | h | h | h | h | h | h | h | h | h <;> simp only [step, h, ksOf, actL, doesL]
  all_goals first
    | (rw [needs0]; rfl)
    | (rw [needs0]; by_cases ht : m.taken < vals.length <;> simp only [ht, if_true, if_false, afterL] <;> rfl)
    | (refine any1_needs _ fun a s hs => ?_; cases a <;> simp [isN, isT, fitsT, tri, afterL, at0, nOf, tOf] <;> rfl)
    | (refine any2_needs _ _ fun a b s hs => ?_; cases a <;> cases b <;> simp [isN, isT, fitsT, tri, afterL, at0, at1, nOf, tOf] <;> rfl)
    | (refine any3_needs _ _ _ fun a b c s hs => ?_; cases a <;> cases b <;> cases c <;> simp [isN, isT, fitsT, tri, afterL, at0, at1, at2, nOf, tOf] <;> rfl)
    | skip
  · refine any1_needs _ fun a s hs => ?_
    have hl : s.length ≤ 16 := by rw [hs] at hm; simp at hm; omega
    have hp := push_none (m := { m with stack := s }) hl
    cases a with
    | text t => simp [isN, fitsT, tri]
    | num n =>
      by_cases hn : n = 0
      · simp [isN, fitsT, tri, afterL, at0, nOf, hn]
        exact hp.symm
      · simp [isN, fitsT, tri, at0, nOf, hn]
  · refine any1_needs _ fun a s hs => ?_
    have hl : s.length ≤ 16 := by rw [hs] at hm; simp at hm; omega
    have hp := push_none (m := { m with stack := s, regs := m.regs.set x.2.1.toNat a }) hl
    simp [fitsT, afterL, at0]
    exact hp.symm
  · refine any2_needs _ _ fun a b s hs => ?_
    have hl : s.length ≤ 16 := by rw [hs] at hm; simp at hm; omega
    cases a with
    | num n => simp [isT, fitsT, tri]
    | text k =>
      cases b with
      | num n => simp [isT, fitsT, tri]
      | text v =>
        have hp := push_none (m := { m with stack := s, told := m.told ++ [(k, v)] }) hl
        simp [isT, fitsT, tri, at0, at1, tOf]
        unfold emit
        by_cases h1 : 16 < k.size
        · rw [if_pos h1, if_pos h1]; rfl
        · rw [if_neg h1, if_neg h1]
          by_cases h2 : 40 ≤ m.told.length
          · rw [if_pos h2, if_pos h2]; rfl
          · rw [if_neg h2, if_neg h2]
            exact hp.symm
end Go.Proofs.YtpggfdnpbipckaaGreatDoor
