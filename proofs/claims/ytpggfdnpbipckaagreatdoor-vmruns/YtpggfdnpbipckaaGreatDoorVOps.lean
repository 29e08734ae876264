/- take, as one contract; turn of the program's machine. -/
import Derived.Test.YtpggfdnpbipckaaGreatDoorVTurns
namespace Go.Proofs.YtpggfdnpbipckaaGreatDoor
open Go.RowKit Go.Lib
set_option linter.unusedVariables false
set_option maxRecDepth 100000

def allFit (ks : List Int) (av : List Val) : Bool := (List.range ks.length).all fun k => fitsT (ks.getD k 0) (tri (av.getD k zV)).1
theorem allFit_true {ks : List Int} {av : List Val} (h : allFit ks av = true) : ∀ k, k < ks.length → fitsT (ks.getD k 0) (tri (av.getD k zV)).1 = true := by
  intro k hk
  exact List.all_eq_true.1 h k (List.mem_range.2 hk)
theorem allFit_false {ks : List Int} {av : List Val} (h : allFit ks av = false) : ∃ k, k < ks.length ∧ fitsT (ks.getD k 0) (tri (av.getD k zV)).1 = false := by
  obtain ⟨k, hk, h⟩ := List.all_eq_false.1 h
  exact ⟨k, List.mem_range.1 hk, by simpa using h⟩
/-- What stands on top, the lowest first. -/
def tops (m : St) (n : Nat) : List Val := (m.stack.take n).reverse
/-- What an instruction needs, then what it does. -/
def needs (ks : List Int) (m : St) (g : List Val → List Val → Out) : Out :=
  if m.stack.length < ks.length then .stop 1 else if allFit ks (tops m ks.length) = true then g (tops m ks.length) (m.stack.drop ks.length) else .stop 2
section
variable {E : Fx} {m : St} {i : Int} {d : Nat} {w : World} {ks : List Int} {v : Value}
/-- What take answers. -/
def Took (E : Fx) (m : St) (i : Int) (d : Nat) (ks : List Int) (e : Ending) (w' : World) : Prop :=
  ∃ x r, e = .returned (.tuple #[x, .int .i64 r]) ∧
    ((m.stack.length < ks.length ∧ r = 1 ∧ x = opV zV zV zV ∧ VMac E m i d w') ∨
     (¬ m.stack.length < ks.length ∧ allFit ks (tops m ks.length) = false ∧ r = 2 ∧ x = opV zV zV zV ∧ VMac E m i d w') ∨
     (¬ m.stack.length < ks.length ∧ allFit ks (tops m ks.length) = true ∧ r = 0 ∧ x = opV (sel (tops m ks.length) ks.length 0) (sel (tops m ks.length) ks.length 1) (sel (tops m ks.length) ks.length 2) ∧ VMac E { m with stack := m.stack.drop ks.length } i d w'))
theorem take_any (h : VMac E m i d w) (hv : Reads 1 encK w v ks) (h3 : ks.length ≤ 3) (h0 : 0 < ks.length) (hs : m.stack.length ≤ 16) :
    Calls Tryz.prog 66 #[.pointer (some ⟨E.b, 0, none⟩), v] w (Took E m i d ks) := by
  by_cases hk : m.stack.length < ks.length
  · refine (take_under h hv hk h3).mono ?_
    rintro e w' ⟨rfl, hm⟩
    exact ⟨_, _, rfl, .inl ⟨hk, rfl, rfl, hm⟩⟩
  · have hl : (tops m ks.length).length = ks.length := by simp [tops]; omega
    have hst : m.stack = (tops m ks.length).reverse ++ m.stack.drop ks.length := by simp [tops]
    refine (take_enough h hv hst hl h3 h0 (by simp; omega)).mono ?_
    rintro e w' ⟨h1, h2⟩
    cases hf : allFit ks (tops m ks.length) with
    | true =>
      obtain ⟨rfl, hm⟩ := h1 (allFit_true hf)
      exact ⟨_, _, rfl, .inr (.inr ⟨hk, hf, rfl, rfl, hm⟩)⟩
    | false =>
      obtain ⟨rfl, hm⟩ := h2 (allFit_false hf)
      exact ⟨_, _, rfl, .inr (.inl ⟨hk, hf, rfl, rfl, hm⟩)⟩
theorem made1 (y : Val) (w : World) : Vls (w.alloc (.cells #[.bool (tri y).1, .int .i64 (tri y).2.1, .string (tri y).2.2] 57)) (.slice (some ⟨w.heap.size, 0, none⟩) 1 1) [y] := by
  have := Reads.made encV_len (by decide) 57 [y] w (by simp)
  simp only [fl, List.flatMap_cons, List.flatMap_nil, encV_tri, List.append_nil] at this
  exact this
theorem made2 (y z : Val) (w : World) : Vls (w.alloc (.cells #[.bool (tri y).1, .int .i64 (tri y).2.1, .string (tri y).2.2, .bool (tri z).1, .int .i64 (tri z).2.1, .string (tri z).2.2] 57)) (.slice (some ⟨w.heap.size, 0, none⟩) 2 2) [y, z] := by
  have := Reads.made encV_len (by decide) 57 [y, z] w (by simp)
  simp only [fl, List.flatMap_cons, List.flatMap_nil, encV_tri, List.append_nil] at this
  exact this
theorem VMac.tabs (h : VMac E m i d w) (T : Tabs E.w0) : Tabs w := by
  obtain ⟨vs, vt, h⟩ := h
  exact T.on h.bel
theorem push_with (s out : List Val) : push { m with stack := s } s out = push m s out := rfl
theorem Did.shape {o : Out} {e : Ending} (h : Did E i d o e w) : ∃ r, e = .returned (.int .i64 r) := by
  cases o with
  | stop r => exact ⟨_, h.1⟩
  | next m => exact ⟨_, h.1⟩
  | goto t m => exact ⟨_, h.1⟩
theorem Did.stop {r : Int} {i' : Int} (h : VMac E m i' d w) : Did E i d (.stop r) (.returned (.int .i64 r)) w := ⟨rfl, _, _, h⟩

set_option maxHeartbeats 2000000 in
theorem turn_any (h : VMac E m i d w) (hv : Reads 1 encK w v ks) (h3 : ks.length ≤ 3) (h0 : 0 < ks.length) (hs : m.stack.length ≤ 16) (G : Nat) (f : List Val → Val) (T : Tabs E.w0)
    (hE : ∀ c x, (callFunc G c).run Tryz.prog x = .ok (.enter G c) x)
    (hf : ∀ x, Tabs x → ¬ m.stack.length < ks.length → allFit ks (tops m ks.length) = true → Calls Tryz.prog G #[opV (sel (tops m ks.length) ks.length 0) (sel (tops m ks.length) ks.length 1) (sel (tops m ks.length) ks.length 2)] x fun e y => e = .returned (triV (f (tops m ks.length))) ∧ Below x.heap.size x y) :
    Calls Tryz.prog 47 #[.pointer (some ⟨E.b, 0, none⟩), .func (.func G) #[] #[], v] w (Did E i d (needs ks m fun av s => push m s [f av])) := by
  have H := hid (take_any h hv h3 h0 hs)
  have HF := hid hf
  have HT := hid T
  clear hf h hv T
  have hmf : ∀ (fn : Fn) (first cap : Array Value) (w : World), (Instr.makeFunc fn first cap).run Tryz.prog w = .ok (.func fn first cap) w := fun _ _ _ _ => rfl
  go_enter Tryz.func47, Tryz.ntmps47
  go_wp2_with fail
  refine H.out.mono ?_
  rintro e w1 ⟨x, r, rfl, hc⟩
  rcases hc with ⟨hk, rfl, rfl, hm⟩ | ⟨hk, hfit, rfl, rfl, hm⟩ | ⟨hk, hfit, rfl, rfl, hm⟩
  · have HM := hid hm
    clear hm
    go_wp2
    go_ret
    unfold needs
    rw [if_pos hk]
    exact Did.stop (HM.out.on (alloc1 _ _))
  · have HM := hid hm
    clear hm
    go_wp2
    go_ret
    unfold needs
    rw [if_neg hk, hfit]
    exact Did.stop (HM.out.on (alloc1 _ _))
  · have HM := hid hm
    have HFF := hid (fun x hx => HF.out x hx hk hfit)
    have HP := hid (show needs ks m (fun av s => push m s [f av]) = push m (m.stack.drop ks.length) [f (tops m ks.length)] by unfold needs; rw [if_neg hk, if_pos hfit])
    clear hm HF H
    have hs2 : (m.stack.drop ks.length).length ≤ 16 := by simp; omega
    generalize sel (tops m ks.length) ks.length 0 = a0 at HFF ⊢
    generalize sel (tops m ks.length) ks.length 1 = a1 at HFF ⊢
    generalize sel (tops m ks.length) ks.length 2 = a2 at HFF ⊢
    generalize f (tops m ks.length) = y at HFF HP
    go_wp2_with fail
    have HM1 := hid (HM.out.on (alloc1 w1 (Obj.cells (nine a0 a1 a2) 101)))
    refine (HFF.out _ (HM1.out.tabs HT.out)).mono ?_
    rintro e w2 ⟨rfl, hb2⟩
    have HM2 := hid ((HM1.out.on hb2).on (alloc1 w2 (.cells #[.bool (tri y).1, .int .i64 (tri y).2.1, .string (tri y).2.2] 57)))
    clear hb2 HM1 HM HFF
    go_wp2_with fail
    refine (push_any HM2.out hs2 (made1 y w2) (by simp) (by simp)).mono ?_
    rintro e w3 hd
    obtain ⟨r, rfl⟩ := hd.shape
    have HD := hid hd
    clear hd
    go_wp2
    go_ret
    rw [HP.out]
    exact HD.out
end
end Go.Proofs.YtpggfdnpbipckaaGreatDoor
