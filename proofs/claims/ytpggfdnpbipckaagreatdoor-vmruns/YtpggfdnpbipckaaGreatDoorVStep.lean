/- What instructions need, as the machine over lists asks for it. -/
import Derived.Test.YtpggfdnpbipckaaGreatDoorVOps4
namespace Go.Proofs.YtpggfdnpbipckaaGreatDoor
open Go.RowKit Go.Lib
set_option linter.unusedVariables false
set_option maxRecDepth 100000

variable {m : St}
theorem range1 : List.range 1 = [0] := rfl
theorem range2 : List.range 2 = [0, 1] := rfl
theorem range3 : List.range 3 = [0, 1, 2] := rfl
theorem tops1 {a : Val} {s : List Val} (h : m.stack = a :: s) : tops m 1 = [a] := by unfold tops; rw [h]; rfl
theorem tops2 {a b : Val} {s : List Val} (h : m.stack = b :: a :: s) : tops m 2 = [a, b] := by unfold tops; rw [h]; rfl
theorem tops3 {a b c : Val} {s : List Val} (h : m.stack = c :: b :: a :: s) : tops m 3 = [a, b, c] := by unfold tops; rw [h]; rfl
theorem fit1 (k0 : Int) (a : Val) : allFit [k0] [a] = fitsT k0 (tri a).1 := by
  show (List.range 1).all _ = _
  rw [range1]; simp
theorem fit2 (k0 k1 : Int) (a b : Val) : allFit [k0, k1] [a, b] = (fitsT k0 (tri a).1 && fitsT k1 (tri b).1) := by
  show (List.range 2).all _ = _
  rw [range2]; simp
theorem fit3 (k0 k1 k2 : Int) (a b c : Val) : allFit [k0, k1, k2] [a, b, c] = (fitsT k0 (tri a).1 && (fitsT k1 (tri b).1 && fitsT k2 (tri c).1)) := by
  show (List.range 3).all _ = _
  rw [range3]; simp
theorem needs1 (k0 : Int) (g : List Val → List Val → Out) : needs [k0] m g = any1 m fun a s => if fitsT k0 (tri a).1 = true then g [a] s else .stop 2 := by
  unfold any1
  cases h : m.stack with
  | nil => rw [needs_short (by rw [h]; simp)]
  | cons a s =>
    have ht := tops1 h
    cases hf : fitsT k0 (tri a).1 with
    | true => rw [needs_fit (by rw [h]; simp) (by show allFit [k0] (tops m 1) = true; rw [ht, fit1, hf]), show tops m [k0].length = [a] from ht, h]; simp [hf]
    | false => rw [needs_unfit (by rw [h]; simp) (by show allFit [k0] (tops m 1) = false; rw [ht, fit1, hf])]; simp [hf]
theorem needs2 (k0 k1 : Int) (g : List Val → List Val → Out) : needs [k0, k1] m g = any2 m fun a b s => if (fitsT k0 (tri a).1 && fitsT k1 (tri b).1) = true then g [a, b] s else .stop 2 := by
  unfold any2
  match h : m.stack with
  | [] => rw [needs_short (by rw [h]; simp)]
  | [b] => rw [needs_short (by rw [h]; simp)]
  | b :: a :: s =>
    have ht := tops2 h
    cases hf : (fitsT k0 (tri a).1 && fitsT k1 (tri b).1) with
    | true => rw [needs_fit (by rw [h]; simp) (by show allFit [k0, k1] (tops m 2) = true; rw [ht, fit2, hf]), show tops m [k0, k1].length = [a, b] from ht, h]; simp [hf]
    | false => rw [needs_unfit (by rw [h]; simp) (by show allFit [k0, k1] (tops m 2) = false; rw [ht, fit2, hf])]; simp [hf]
theorem needs3 (k0 k1 k2 : Int) (g : List Val → List Val → Out) : needs [k0, k1, k2] m g = any3 m fun a b c s => if (fitsT k0 (tri a).1 && (fitsT k1 (tri b).1 && fitsT k2 (tri c).1)) = true then g [a, b, c] s else .stop 2 := by
  unfold any3
  match h : m.stack with
  | [] => rw [needs_short (by rw [h]; simp)]
  | [b] => rw [needs_short (by rw [h]; simp)]
  | [c, b] => rw [needs_short (by rw [h]; simp)]
  | c :: b :: a :: s =>
    have ht := tops3 h
    cases hf : (fitsT k0 (tri a).1 && (fitsT k1 (tri b).1 && fitsT k2 (tri c).1)) with
    | true => rw [needs_fit (by rw [h]; simp) (by show allFit [k0, k1, k2] (tops m 3) = true; rw [ht, fit3, hf]), show tops m [k0, k1, k2].length = [a, b, c] from ht, h]; simp [hf]
    | false => rw [needs_unfit (by rw [h]; simp) (by show allFit [k0, k1, k2] (tops m 3) = false; rw [ht, fit3, hf])]; simp [hf]
/-- What stands there when there is enough. -/
theorem have1 (h : ¬ m.stack.length < [0].length) : ∃ a s, m.stack = a :: s := by
  match e : m.stack with
  | [] => rw [e] at h; simp at h
  | a :: s => exact ⟨a, s, rfl⟩
theorem have2 (h : ¬ m.stack.length < 2) : ∃ a b s, m.stack = b :: a :: s := by
  match e : m.stack with
  | [] => rw [e] at h; simp at h
  | [a] => rw [e] at h; simp at h
  | b :: a :: s => exact ⟨a, b, s, rfl⟩
theorem have3 (h : ¬ m.stack.length < 3) : ∃ a b c s, m.stack = c :: b :: a :: s := by
  match e : m.stack with
  | [] => rw [e] at h; simp at h
  | [a] => rw [e] at h; simp at h
  | [b, a] => rw [e] at h; simp at h
  | c :: b :: a :: s => exact ⟨a, b, c, s, rfl⟩
def nOf (v : Val) : Int := (tri v).2.1
def tOf (v : Val) : ByteArray := (tri v).2.2
/-- What the eleven turns make. -/
def at0 (av : List Val) : Val := av.getD 0 zV
def at1 (av : List Val) : Val := av.getD 1 zV
def at2 (av : List Val) : Val := av.getD 2 zV
theorem nn_needs (f : Int → Int → Val) : nn m f = needs [1, 1] m fun av s => push m s [f (nOf (at0 av)) (nOf (at1 av))] := by
  rw [needs2]
  unfold nn
  congr 1
  funext a b s
  cases a <;> cases b <;> rfl
theorem tt_needs (f : ByteArray → ByteArray → Val) : (any2 m fun a b s => isT a fun a => isT b fun b => push m s [f a b]) = needs [2, 2] m fun av s => push m s [f (tOf (at0 av)) (tOf (at1 av))] := by
  rw [needs2]
  congr 1
  funext a b s
  cases a <;> cases b <;> rfl
theorem t_needs (f : ByteArray → Val) : (any1 m fun a s => isT a fun a => push m s [f a]) = needs [2] m fun av s => push m s [f (tOf (at0 av))] := by
  rw [needs1]
  congr 1
  funext a s
  cases a <;> rfl
theorem n_needs (f : Int → Val) : (any1 m fun a s => isN a fun a => push m s [f a]) = needs [1] m fun av s => push m s [f (nOf (at0 av))] := by
  rw [needs1]
  congr 1
  funext a s
  cases a <;> rfl
theorem tn_needs (f : ByteArray → Int → Val) : (any2 m fun a b s => isT a fun a => isN b fun b => push m s [f a b]) = needs [2, 1] m fun av s => push m s [f (tOf (at0 av)) (nOf (at1 av))] := by
  rw [needs2]
  congr 1
  funext a b s
  cases a <;> cases b <;> rfl
theorem tnn_needs (f : ByteArray → Int → Int → Val) : (any3 m fun a b c s => isT a fun a => isN b fun b => isN c fun c => push m s [f a b c]) = needs [2, 1, 1] m fun av s => push m s [f (tOf (at0 av)) (nOf (at1 av)) (nOf (at2 av))] := by
  rw [needs3]
  congr 1
  funext a b c s
  cases a <;> cases b <;> cases c <;> rfl
theorem eq_needs : (any2 m fun a b s => push m s [flag (sameV a b)]) = needs [0, 0] m fun av s => push m s [flag (sameV (at0 av) (at1 av))] := by
  rw [needs2]
  congr 1
theorem dup_needs : (any1 m fun a s => push m s [a, a]) = needs [0] m fun av s => push m s [sel av 1 0, sel av 1 0] := by
  rw [needs1]
  congr 1
theorem swap_needs : (any2 m fun a b s => push m s [b, a]) = needs [0, 0] m fun av s => push m s [sel av 2 1, sel av 2 0] := by
  rw [needs2]
  congr 1
theorem drop_needs (h : m.stack.length ≤ 16) : (any1 m fun a s => push m s []) = needs [0] m fun av s => .next { m with stack := s } := by
  rw [needs1]
  unfold any1
  cases e : m.stack with
  | nil => rfl
  | cons a s =>
    rw [e] at h
    simp at h
    show push m s [] = .next { m with stack := s }
    unfold push
    rw [if_neg (by simp), if_neg (by simp; omega)]
    rfl
theorem if_needs (t : Int) : (any1 m fun a s => isN a fun a => if a = 0 then .next { m with stack := s } else .goto t { m with stack := s }) = needs [1] m fun av s => if (tri (sel av 1 0)).2.1 = 0 then .next { m with stack := s } else .goto t { m with stack := s } := by
  rw [needs1]
  congr 1
  funext a s
  cases a <;> rfl
theorem store_needs (k : Nat) : (any1 m fun a s => .next { m with stack := s, regs := m.regs.set k a }) = needs [0] m fun av s => .next { m with stack := s, regs := m.regs.set k (sel av 1 0) } := by
  rw [needs1]
  congr 1
theorem emit_needs : (any2 m fun a b s => isT a fun a => isT b fun b => emit m a b s) = needs [2, 2] m fun av s => emit m (tri (sel av 2 0)).2.2 (tri (sel av 2 1)).2.2 s := by
  rw [needs2]
  congr 1
  funext a b s
  cases a <;> cases b <;> rfl
theorem same_tri (a b : Val) : sameOf (tri a).1 (tri b).1 (tri a).2.1 (tri b).2.1 (tri a).2.2 (tri b).2.2 = sameV a b := by
  cases a <;> cases b <;> rfl
end Go.Proofs.YtpggfdnpbipckaaGreatDoor
