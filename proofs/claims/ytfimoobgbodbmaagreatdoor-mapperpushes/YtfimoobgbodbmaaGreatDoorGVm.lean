/- Laid together: VOps VOps2 VOps3 VOps4 VStep VDo1 VDo2 VDo3 VDo. -/
import Derived.Test.YtfimoobgbodbmaaGreatDoorGMac
import Derived.Deep.RegionLaw
import Derived.BigRegion
/-! take, as one contract; turn of the program's machine. -/
namespace Go.Proofs.YtfimoobgbodbmaaGreatDoor
open Go.RowKit Go.Lib
set_option linter.unusedVariables false
set_option maxRecDepth 100000

def allFit (ks : List Int) (av : List Val) : Bool := (List.range ks.length).all fun k => fitsT (ks.getD k 0) (tri (av.getD k zV)).1
theorem allFit_true {ks : List Int} {av : List Val} (h : allFit ks av = true) : ∀ k, k < ks.length → fitsT (ks.getD k 0) (tri (av.getD k zV)).1 = true := by
  intro k hk
  exact List.all_eq_true.1 h k (List.mem_range.2 hk)
theorem allFit_false {ks : List Int} {av : List Val} (h : allFit ks av = false) : ∃ k, k < ks.length ∧ fitsT (ks.getD k 0) (tri (av.getD k zV)).1 = false := by
  obtain ⟨k, hk, h⟩ := List.all_eq_false.1 h
  exact ⟨k, List.mem_range.1 hk, by simpa using h⟩
/-- What stands on top, the lowest first. -/
def tops (m : St) (n : Nat) : List Val := (m.stack.take n).reverse
/-- What an instruction needs, then what it does. -/
def needs (ks : List Int) (m : St) (g : List Val → List Val → Out) : Out :=
  if m.stack.length < ks.length then .stop 1 else if allFit ks (tops m ks.length) = true then g (tops m ks.length) (m.stack.drop ks.length) else .stop 2
section
variable {E : Fx} {m : St} {i : Int} {d : Nat} {w : World} {ks : List Int} {v : Value}
/-- What take answers. -/
def Took (E : Fx) (m : St) (i : Int) (d : Nat) (ks : List Int) (e : Ending) (w' : World) : Prop :=
  ∃ x r, e = .returned (.tuple #[x, .int .i64 r]) ∧
    ((m.stack.length < ks.length ∧ r = 1 ∧ x = opV zV zV zV ∧ VMac E m i d w') ∨
     (¬ m.stack.length < ks.length ∧ allFit ks (tops m ks.length) = false ∧ r = 2 ∧ x = opV zV zV zV ∧ VMac E m i d w') ∨
     (¬ m.stack.length < ks.length ∧ allFit ks (tops m ks.length) = true ∧ r = 0 ∧ x = opV (sel (tops m ks.length) ks.length 0) (sel (tops m ks.length) ks.length 1) (sel (tops m ks.length) ks.length 2) ∧ VMac E { m with stack := m.stack.drop ks.length } i d w'))
theorem take_any (h : VMac E m i d w) (hv : Reads 1 encK w v ks) (h3 : ks.length ≤ 3) (h0 : 0 < ks.length) (hs : m.stack.length ≤ 16) :
    Calls Tryz.prog 205 #[.pointer (some ⟨E.b, 0, none⟩), v] w (Took E m i d ks) := by
  by_cases hk : m.stack.length < ks.length
  · refine (take_under h hv hk h3).mono ?_
    rintro e w' ⟨rfl, hm⟩
    exact ⟨_, _, rfl, .inl ⟨hk, rfl, rfl, hm⟩⟩
  · have hl : (tops m ks.length).length = ks.length := by simp [tops]; omega
    have hst : m.stack = (tops m ks.length).reverse ++ m.stack.drop ks.length := by simp [tops]
    refine (take_enough h hv hst hl h3 h0 (by simp; omega)).mono ?_
    rintro e w' ⟨h1, h2⟩
    cases hf : allFit ks (tops m ks.length) with
    | true =>
      obtain ⟨rfl, hm⟩ := h1 (allFit_true hf)
      exact ⟨_, _, rfl, .inr (.inr ⟨hk, hf, rfl, rfl, hm⟩)⟩
    | false =>
      obtain ⟨rfl, hm⟩ := h2 (allFit_false hf)
      exact ⟨_, _, rfl, .inr (.inl ⟨hk, hf, rfl, rfl, hm⟩)⟩
theorem made1 (y : Val) (w : World) : Vls (w.alloc (.cells #[.bool (tri y).1, .int .i64 (tri y).2.1, .string (tri y).2.2] 151)) (.slice (some ⟨w.heap.size, 0, none⟩) 1 1) [y] := by
  have := Reads.made encV_len (by decide) 151 [y] w (by simp)
  simp only [fl, List.flatMap_cons, List.flatMap_nil, encV_tri, List.append_nil] at this
  exact this
theorem made2 (y z : Val) (w : World) : Vls (w.alloc (.cells #[.bool (tri y).1, .int .i64 (tri y).2.1, .string (tri y).2.2, .bool (tri z).1, .int .i64 (tri z).2.1, .string (tri z).2.2] 151)) (.slice (some ⟨w.heap.size, 0, none⟩) 2 2) [y, z] := by
  have := Reads.made encV_len (by decide) 151 [y, z] w (by simp)
  simp only [fl, List.flatMap_cons, List.flatMap_nil, encV_tri, List.append_nil] at this
  exact this
theorem VMac.tabs (h : VMac E m i d w) (T : Tabs E.w0) : Tabs w := by
  obtain ⟨vs, vt, h⟩ := h
  exact T.on h.bel
theorem push_with (s out : List Val) : push { m with stack := s } s out = push m s out := rfl
theorem Did.shape {o : Out} {e : Ending} (h : Did E i d o e w) : ∃ r, e = .returned (.int .i64 r) := by
  cases o with
  | stop r => exact ⟨_, h.1⟩
  | next m => exact ⟨_, h.1⟩
  | goto t m => exact ⟨_, h.1⟩
theorem Did.stop {r : Int} {i' : Int} (h : VMac E m i' d w) : Did E i d (.stop r) (.returned (.int .i64 r)) w := ⟨rfl, _, _, h⟩

set_option maxHeartbeats 2000000 in
theorem turn_any (h : VMac E m i d w) (hv : Reads 1 encK w v ks) (h3 : ks.length ≤ 3) (h0 : 0 < ks.length) (hs : m.stack.length ≤ 16) (G : Nat) (f : List Val → Val) (T : Tabs E.w0)
    (hE : ∀ c x, (callFunc G c).run Tryz.prog x = .ok (.enter G c) x)
    (hf : ∀ x, Tabs x → ¬ m.stack.length < ks.length → allFit ks (tops m ks.length) = true → Calls Tryz.prog G #[opV (sel (tops m ks.length) ks.length 0) (sel (tops m ks.length) ks.length 1) (sel (tops m ks.length) ks.length 2)] x fun e y => e = .returned (triV (f (tops m ks.length))) ∧ Below x.heap.size x y) :
    Calls Tryz.prog 172 #[.pointer (some ⟨E.b, 0, none⟩), .func (.func G) #[] #[], v] w (Did E i d (needs ks m fun av s => push m s [f av])) := by
  have H := hid (take_any h hv h3 h0 hs)
  have HF := hid hf
  have HT := hid T
  clear hf h hv T
  have hmf : ∀ (fn : Fn) (first cap : Array Value) (w : World), (Instr.makeFunc fn first cap).run Tryz.prog w = .ok (.func fn first cap) w := fun _ _ _ _ => rfl
  go_enter Tryz.func172, Tryz.ntmps172
  go_wp2_with fail
  refine H.out.mono ?_
  rintro e w1 ⟨x, r, rfl, hc⟩
  rcases hc with ⟨hk, rfl, rfl, hm⟩ | ⟨hk, hfit, rfl, rfl, hm⟩ | ⟨hk, hfit, rfl, rfl, hm⟩
  · have HM := hid hm
    clear hm
    go_wp2
    go_ret
    unfold needs
    rw [if_pos hk]
    exact Did.stop (HM.out.on (alloc1 _ _))
  · have HM := hid hm
    clear hm
    go_wp2
    go_ret
    unfold needs
    rw [if_neg hk, hfit]
    exact Did.stop (HM.out.on (alloc1 _ _))
  · have HM := hid hm
    have HFF := hid (fun x hx => HF.out x hx hk hfit)
    have HP := hid (show needs ks m (fun av s => push m s [f av]) = push m (m.stack.drop ks.length) [f (tops m ks.length)] by unfold needs; rw [if_neg hk, if_pos hfit])
    clear hm HF H
    have hs2 : (m.stack.drop ks.length).length ≤ 16 := by simp; omega
    generalize sel (tops m ks.length) ks.length 0 = a0 at HFF ⊢
    generalize sel (tops m ks.length) ks.length 1 = a1 at HFF ⊢
    generalize sel (tops m ks.length) ks.length 2 = a2 at HFF ⊢
    generalize f (tops m ks.length) = y at HFF HP
    go_wp2_with fail
    have HM1 := hid (HM.out.on (alloc1 w1 (Obj.cells (nine a0 a1 a2) 235)))
    refine (HFF.out _ (HM1.out.tabs HT.out)).mono ?_
    rintro e w2 ⟨rfl, hb2⟩
    have HM2 := hid ((HM1.out.on hb2).on (alloc1 w2 (.cells #[.bool (tri y).1, .int .i64 (tri y).2.1, .string (tri y).2.2] 151)))
    clear hb2 HM1 HM HFF
    go_wp2_with fail
    refine (push_any HM2.out hs2 (made1 y w2) (by simp) (by simp)).mono ?_
    rintro e w3 hd
    obtain ⟨r, rfl⟩ := hd.shape
    have HD := hid hd
    clear hd
    go_wp2
    go_ret
    rw [HP.out]
    exact HD.out
end
end Go.Proofs.YtfimoobgbodbmaaGreatDoor
/-! double, drop, swap, jump, jumpIf of the program's machine. -/
namespace Go.Proofs.YtfimoobgbodbmaaGreatDoor
open Go.RowKit Go.Lib
set_option linter.unusedVariables false
set_option maxRecDepth 100000

variable {E : Fx} {m : St} {i : Int} {d : Nat} {w : World}
theorem kinds1 (a : Int) (w : World) : Reads 1 encK (w.alloc (.cells #[.int .i64 a] 217)) (.slice (some ⟨w.heap.size, 0, none⟩) 1 1) [a] := Reads.made encK_len (by decide) 217 [a] w (by simp)
theorem kinds2 (a b : Int) (w : World) : Reads 1 encK (w.alloc (.cells #[.int .i64 a, .int .i64 b] 217)) (.slice (some ⟨w.heap.size, 0, none⟩) 2 2) [a, b] := Reads.made encK_len (by decide) 217 [a, b] w (by simp)
theorem kinds3 (a b c : Int) (w : World) : Reads 1 encK (w.alloc (.cells #[.int .i64 a, .int .i64 b, .int .i64 c] 217)) (.slice (some ⟨w.heap.size, 0, none⟩) 3 3) [a, b, c] := Reads.made encK_len (by decide) 217 [a, b, c] w (by simp)
theorem made2_at (y z : Val) {w : World} {k : Nat} (hk : w.heap.size = k) : Vls (w.alloc (.cells #[.bool (tri y).1, .int .i64 (tri y).2.1, .string (tri y).2.2, .bool (tri z).1, .int .i64 (tri z).2.1, .string (tri z).2.2] 151)) (.slice (some ⟨k, 0, none⟩) 2 2) [y, z] := by
  subst hk
  exact made2 y z w
theorem needs_short {ks : List Int} {g : List Val → List Val → Out} (h : m.stack.length < ks.length) : needs ks m g = .stop 1 := by unfold needs; rw [if_pos h]
theorem needs_unfit {ks : List Int} {g : List Val → List Val → Out} (h : ¬ m.stack.length < ks.length) (h2 : allFit ks (tops m ks.length) = false) : needs ks m g = .stop 2 := by unfold needs; rw [if_neg h, h2]; rfl
theorem needs_fit {ks : List Int} {g : List Val → List Val → Out} (h : ¬ m.stack.length < ks.length) (h2 : allFit ks (tops m ks.length) = true) : needs ks m g = g (tops m ks.length) (m.stack.drop ks.length) := by unfold needs; rw [if_neg h, if_pos h2]

set_option maxHeartbeats 2000000 in
theorem double_any (h : VMac E m i d w) (hs : m.stack.length ≤ 16) :
    Calls Tryz.prog 167 #[.pointer (some ⟨E.b, 0, none⟩)] w (Did E i d (needs [0] m (fun av s => push m s [sel av 1 0, sel av 1 0]))) := by
  have H := hid (take_any (h.on (alloc1 w _)) (kinds1 0 w) (by simp) (by simp) hs)
  clear h
  go_enter Tryz.func167, Tryz.ntmps167
  go_wp2_with fail
  refine H.out.mono ?_
  clear H
  rintro e w1 ⟨x, r, rfl, hc⟩
  rcases hc with ⟨hk, rfl, rfl, hm⟩ | ⟨hk, hfit, rfl, rfl, hm⟩ | ⟨hk, hfit, rfl, rfl, hm⟩
  · have HM := hid hm
    have HP := hid (needs_short (g := (fun av s => push m s [sel av 1 0, sel av 1 0])) hk)
    clear hm hk
    go_wp2
    go_ret
    rw [HP.out]
    exact Did.stop (HM.out.on (alloc1 _ _))
  · have HM := hid hm
    have HP := hid (needs_unfit (g := (fun av s => push m s [sel av 1 0, sel av 1 0])) hk hfit)
    clear hm hk hfit
    go_wp2
    go_ret
    rw [HP.out]
    exact Did.stop (HM.out.on (alloc1 _ _))
  · have HM := hid hm
    have HP := hid (needs_fit (g := (fun av s => push m s [sel av 1 0, sel av 1 0])) hk hfit)
    have hs2 : (m.stack.drop [0].length).length ≤ 16 := by simp; omega
    clear hm hk hfit
    generalize e0 : sel (tops m [0].length) [0].length 0 = a0
    generalize e1 : sel (tops m [0].length) [0].length 1 = a1
    generalize e2 : sel (tops m [0].length) [0].length 2 = a2
    have HE := hid (And.intro e0 (And.intro e1 e2))
    clear e0 e1 e2
    have HM1 := hid (HM.out.on (alloc1 w1 (Obj.cells (nine a0 a1 a2) 235)))
    have HM2 := hid (HM1.out.on (alloc1 (w1.alloc (Obj.cells (nine a0 a1 a2) 235)) (.cells #[.bool (tri a0).1, .int .i64 (tri a0).2.1, .string (tri a0).2.2, .bool (tri a0).1, .int .i64 (tri a0).2.1, .string (tri a0).2.2] 151)))
    have HV2 := hid (made2_at a0 a0 (show (w1.alloc (Obj.cells (nine a0 a1 a2) 235)).heap.size = w1.heap.size + 1 by simp))
    go_wp2_with fail
    refine (push_any HM2.out hs2 HV2.out (by simp) (by simp)).mono ?_
    rintro e w3 hd
    obtain ⟨r, rfl⟩ := hd.shape
    have HD := hid hd
    clear hd
    go_wp2
    go_ret
    rw [HP.out]
    obtain ⟨e0, e1, e2⟩ := HE.out
    simp only [List.length_cons, List.length_nil, Nat.zero_add] at e0 e1 e2 ⊢
    rw [e0]
    exact HD.out

set_option maxHeartbeats 2000000 in
theorem swap_any (h : VMac E m i d w) (hs : m.stack.length ≤ 16) :
    Calls Tryz.prog 169 #[.pointer (some ⟨E.b, 0, none⟩)] w (Did E i d (needs [0, 0] m (fun av s => push m s [sel av 2 1, sel av 2 0]))) := by
  have H := hid (take_any (h.on (alloc1 w _)) (kinds2 0 0 w) (by simp) (by simp) hs)
  clear h
  go_enter Tryz.func169, Tryz.ntmps169
  go_wp2_with fail
  refine H.out.mono ?_
  clear H
  rintro e w1 ⟨x, r, rfl, hc⟩
  rcases hc with ⟨hk, rfl, rfl, hm⟩ | ⟨hk, hfit, rfl, rfl, hm⟩ | ⟨hk, hfit, rfl, rfl, hm⟩
  · have HM := hid hm
    have HP := hid (needs_short (g := (fun av s => push m s [sel av 2 1, sel av 2 0])) hk)
    clear hm hk
    go_wp2
    go_ret
    rw [HP.out]
    exact Did.stop (HM.out.on (alloc1 _ _))
  · have HM := hid hm
    have HP := hid (needs_unfit (g := (fun av s => push m s [sel av 2 1, sel av 2 0])) hk hfit)
    clear hm hk hfit
    go_wp2
    go_ret
    rw [HP.out]
    exact Did.stop (HM.out.on (alloc1 _ _))
  · have HM := hid hm
    have HP := hid (needs_fit (g := (fun av s => push m s [sel av 2 1, sel av 2 0])) hk hfit)
    have hs2 : (m.stack.drop [0, 0].length).length ≤ 16 := by simp; omega
    clear hm hk hfit
    generalize e0 : sel (tops m [0, 0].length) [0, 0].length 0 = a0
    generalize e1 : sel (tops m [0, 0].length) [0, 0].length 1 = a1
    generalize e2 : sel (tops m [0, 0].length) [0, 0].length 2 = a2
    have HE := hid (And.intro e0 (And.intro e1 e2))
    clear e0 e1 e2
    have HM1 := hid (HM.out.on (alloc1 w1 (Obj.cells (nine a0 a1 a2) 235)))
    have HM2 := hid (HM1.out.on (alloc1 (w1.alloc (Obj.cells (nine a0 a1 a2) 235)) (.cells #[.bool (tri a1).1, .int .i64 (tri a1).2.1, .string (tri a1).2.2, .bool (tri a0).1, .int .i64 (tri a0).2.1, .string (tri a0).2.2] 151)))
    have HV2 := hid (made2_at a1 a0 (show (w1.alloc (Obj.cells (nine a0 a1 a2) 235)).heap.size = w1.heap.size + 1 by simp))
    go_wp2_with fail
    refine (push_any HM2.out hs2 HV2.out (by simp) (by simp)).mono ?_
    rintro e w3 hd
    obtain ⟨r, rfl⟩ := hd.shape
    have HD := hid hd
    clear hd
    go_wp2
    go_ret
    rw [HP.out]
    obtain ⟨e0, e1, e2⟩ := HE.out
    simp only [List.length_cons, List.length_nil, Nat.zero_add, Nat.reduceAdd] at e0 e1 e2 ⊢
    rw [e0, e1]
    exact HD.out

set_option maxHeartbeats 2000000 in
theorem drop_any (h : VMac E m i d w) (hs : m.stack.length ≤ 16) :
    Calls Tryz.prog 168 #[.pointer (some ⟨E.b, 0, none⟩)] w (Did E i d (needs [0] m (fun av s => .next { m with stack := s }))) := by
  have H := hid (take_any (h.on (alloc1 w _)) (kinds1 0 w) (by simp) (by simp) hs)
  clear h
  go_enter Tryz.func168, Tryz.ntmps168
  go_wp2_with fail
  refine H.out.mono ?_
  clear H
  rintro e w1 ⟨x, r, rfl, hc⟩
  rcases hc with ⟨hk, rfl, rfl, hm⟩ | ⟨hk, hfit, rfl, rfl, hm⟩ | ⟨hk, hfit, rfl, rfl, hm⟩
  · have HM := hid hm
    have HP := hid (needs_short (g := (fun av s => .next { m with stack := s })) hk)
    clear hm hk
    go_wp2
    go_ret
    rw [HP.out]
    exact Did.stop (HM.out.on (alloc1 _ _))
  · have HM := hid hm
    have HP := hid (needs_unfit (g := (fun av s => .next { m with stack := s })) hk hfit)
    clear hm hk hfit
    go_wp2
    go_ret
    rw [HP.out]
    exact Did.stop (HM.out.on (alloc1 _ _))
  · have HM := hid hm
    have HP := hid (needs_fit (g := (fun av s => .next { m with stack := s })) hk hfit)
    have hs2 : (m.stack.drop [0].length).length ≤ 16 := by simp; omega
    clear hm hk hfit
    generalize e0 : sel (tops m [0].length) [0].length 0 = a0
    generalize e1 : sel (tops m [0].length) [0].length 1 = a1
    generalize e2 : sel (tops m [0].length) [0].length 2 = a2
    have HE := hid (And.intro e0 (And.intro e1 e2))
    clear e0 e1 e2
    have HM1 := hid (HM.out.on (alloc1 w1 (Obj.cells (nine a0 a1 a2) 235)))
    go_wp2
    go_ret
    rw [HP.out]
    exact ⟨rfl, HM1.out⟩

set_option maxHeartbeats 2000000 in
theorem jumpIf_any (h : VMac E m i d w) (hs : m.stack.length ≤ 16) (t : Int) :
    Calls Tryz.prog 185 #[.pointer (some ⟨E.b, 0, none⟩), .int .i64 t] w (Did E i d (needs [1] m (fun av s => if (tri (sel av 1 0)).2.1 = 0 then .next { m with stack := s } else .goto t { m with stack := s }))) := by
  have H := hid (take_any (h.on (alloc1 w _)) (kinds1 1 w) (by simp) (by simp) hs)
  clear h
  go_enter Tryz.func185, Tryz.ntmps185
  go_wp2_with fail
  refine H.out.mono ?_
  clear H
  rintro e w1 ⟨x, r, rfl, hc⟩
  rcases hc with ⟨hk, rfl, rfl, hm⟩ | ⟨hk, hfit, rfl, rfl, hm⟩ | ⟨hk, hfit, rfl, rfl, hm⟩
  · have HM := hid hm
    have HP := hid (needs_short (g := (fun av s => if (tri (sel av 1 0)).2.1 = 0 then .next { m with stack := s } else .goto t { m with stack := s })) hk)
    clear hm hk
    go_wp2
    go_ret
    rw [HP.out]
    exact Did.stop (HM.out.on (alloc1 _ _))
  · have HM := hid hm
    have HP := hid (needs_unfit (g := (fun av s => if (tri (sel av 1 0)).2.1 = 0 then .next { m with stack := s } else .goto t { m with stack := s })) hk hfit)
    clear hm hk hfit
    go_wp2
    go_ret
    rw [HP.out]
    exact Did.stop (HM.out.on (alloc1 _ _))
  · have HM := hid hm
    have HP := hid (needs_fit (g := (fun av s => if (tri (sel av 1 0)).2.1 = 0 then .next { m with stack := s } else .goto t { m with stack := s })) hk hfit)
    have hs2 : (m.stack.drop [1].length).length ≤ 16 := by simp; omega
    clear hm hk hfit
    generalize e0 : sel (tops m [1].length) [1].length 0 = a0
    generalize e1 : sel (tops m [1].length) [1].length 1 = a1
    generalize e2 : sel (tops m [1].length) [1].length 2 = a2
    have HE := hid (And.intro e0 (And.intro e1 e2))
    clear e0 e1 e2
    have HM1 := hid (HM.out.on (alloc1 w1 (Obj.cells (nine a0 a1 a2) 235)))
    obtain ⟨vs, vt, hv⟩ := HM1.out
    have HV := hid hv
    have c29 : (w1.alloc (Obj.cells (nine a0 a1 a2) 235)).cell? ⟨E.b, 29, none⟩ = some (.int .i64 i) := hv.cN
    have f29 : (w1.alloc (Obj.cells (nine a0 a1 a2) 235)).frozen? ⟨E.b, 29, none⟩ = false := hv.free 29
    clear hv
    by_cases hz : (tri a0).2.1 = 0
    · go_wp2
      go_ret
      rw [HP.out]
      simp only [List.length_cons, List.length_nil, Nat.zero_add]
      rw [if_pos (by rw [show sel (tops m 1) 1 0 = a0 from HE.out.1]; exact hz)]
      exact ⟨rfl, HM.out.on (alloc1 _ _)⟩
    · have hz2 : ((tri a0).2.1 != 0) = true := by simpa using hz
      go_wp2
      go_ret
      rw [HP.out]
      simp only [List.length_cons, List.length_nil, Nat.zero_add]
      rw [if_neg (by rw [show sel (tops m 1) 1 0 = a0 from HE.out.1]; exact hz)]
      exact ⟨rfl, _, _, HV.out.next t⟩

theorem jump_any (h : VMac E m i d w) (t : Int) : Calls Tryz.prog 184 #[.pointer (some ⟨E.b, 0, none⟩), .int .i64 t] w (Did E i d (.goto t m)) := by
  obtain ⟨vs, vt, hv⟩ := h
  have HV := hid hv
  have c29 := hv.cN
  have f29 := hv.free 29
  clear hv
  go_enter Tryz.func184, Tryz.ntmps184
  go_wp2
  go_ret
  exact ⟨rfl, _, _, HV.out.next t⟩
end Go.Proofs.YtfimoobgbodbmaaGreatDoor
/-! store and emit of the program's machine. -/
namespace Go.Proofs.YtfimoobgbodbmaaGreatDoor
open Go.RowKit Go.Lib
set_option linter.unusedVariables false
set_option maxRecDepth 100000

/-- append onto what the call owns, as one step of a region that draws its order. -/
theorem step_append_own {P : Program} {ops : Array Oper} {o : Oper} {a : Act} {w : World} {K : Act → World → Prop} {Q : Exit → Act → World → Prop} {C : Prop}
    (hg : o.guard = none) (s x : Operand) (t : TypeId) (hop : o.op = Op.call { callee := Callee.builtin Builtin.append, args := #[s, x], argTypes := #[t, t] })
    (base : Nat) (e : TypeId) (i : TypeInfo) (z : Value) (size bytes : Nat) (h1 : P.underlying t = some (.slice e)) (h2 : P.info? e = some i) (h3 : i.zero = some z) (h4 : i.size = size) (h5 : i.bytes = bytes) (h6 : z.cells.size = size) (h7 : 0 < size)
    (v : Value) (n : Nat) (xs : List Value) (hs : a.eval s = v) (hown : w.ownsRow base e size v n xs)
    (ad : Addr) (m c : Nat) (news : List Value) (hx : a.eval x = .slice (some ad) m c) (hn : news.length = m * size) (hc : ∀ j u, news[j]? = some u → w.cell? (ad.add j) = some u) (h1c : ∀ u ∈ news, u.oneCell' = true)
    (b1 : n + m ≤ maxLen) (b2 : (n + m) * bytes ≤ 140737488355328) (hb : base ≤ w.heap.size)
    (hK : ∀ v' w', w'.ownsRow base e size v' (n + m) (xs ++ news) → w.grownBy w' v.ownBlock → K (a.put o.dst v') w') :
    if Region.wanted o (yielded ops a.tmps) = true then Oper.wp P o a w K Q else C := by
  have hw : Region.wanted o (yielded ops a.tmps) = true := by simp [Region.wanted, hg]
  rw [if_pos hw]
  obtain ⟨v', w', hrun, r1, r2, _⟩ := run_append_own (P := P) w base t o.type e i z size bytes h1 h2 h3 h4 h5 h6 h7 v n xs hown ad m c news hn hc h1c b1 b2 hb
  unfold Oper.wp
  simp [execOp, hop, resolve, invoke, builtin, hs, hx, hrun, Result.andThen]
  exact hK v' w' r1 r2

variable {E : Fx} {m : St} {i : Int} {d : Nat} {w : World}
theorem VM.drew {vs vt : Value} (h : VM E vs vt m i d w) : VM E vs vt m i d w.drew := h.on (drew1 w)
theorem told_row {base e s : Nat} {v : Value} {l : List Pr} {a b : ByteArray} (h : w.ownsRow base e s v (l.length + 1) (fl encP l ++ [.string a, .string b])) : w.ownsRow base e s v (l ++ [(a, b)]).length (fl encP (l ++ [(a, b)])) := by
  rw [List.length_append, fl_append]
  exact h
theorem block_cell {w : World} {q : Nat} {a b c : Val} {t : TypeId} (h : w.heap[q]? = some (.cells (nine a b c) t (0, 0))) : w.cell? ⟨q, 0, none⟩ = some (.bool (tri a).1) ∧ w.cell? ⟨q, 1, none⟩ = some (.int .i64 (tri a).2.1) ∧ w.cell? ⟨q, 2, none⟩ = some (.string (tri a).2.2) ∧ w.cell? ⟨q, 5, none⟩ = some (.string (tri b).2.2) :=
  ⟨cell_of_cells h, cell_of_cells h, cell_of_cells h, cell_of_cells h⟩

set_option maxHeartbeats 2000000 in
theorem store_any (h : VMac E m i d w) (hs : m.stack.length ≤ 16) (h8 : m.regs.length = 8) (k : Nat) (hk8 : k < 8) :
    Calls Tryz.prog 186 #[.pointer (some ⟨E.b, 0, none⟩), .int .i64 (k : Int)] w (Did E i d (needs [0] m (fun av s => .next { m with stack := s, regs := m.regs.set k (sel av 1 0) }))) := by
  have H := hid (take_any (h.on (alloc1 w _)) (kinds1 0 w) (by simp) (by simp) hs)
  clear h
  go_enter Tryz.func186, Tryz.ntmps186
  go_wp2_with fail
  refine H.out.mono ?_
  clear H
  rintro e w1 ⟨x, r, rfl, hc⟩
  rcases hc with ⟨hk, rfl, rfl, hm⟩ | ⟨hk, hfit, rfl, rfl, hm⟩ | ⟨hk, hfit, rfl, rfl, hm⟩
  · have HM := hid hm
    have HP := hid (needs_short (g := (fun av s => .next { m with stack := s, regs := m.regs.set k (sel av 1 0) })) hk)
    clear hm hk
    go_wp2
    go_ret
    rw [HP.out]
    exact Did.stop (HM.out.on (alloc1 _ _))
  · have HM := hid hm
    have HP := hid (needs_unfit (g := (fun av s => .next { m with stack := s, regs := m.regs.set k (sel av 1 0) })) hk hfit)
    clear hm hk hfit
    go_wp2
    go_ret
    rw [HP.out]
    exact Did.stop (HM.out.on (alloc1 _ _))
  · have HM := hid hm
    have HP := hid (needs_fit (g := (fun av s => .next { m with stack := s, regs := m.regs.set k (sel av 1 0) })) hk hfit)
    have hs2 : (m.stack.drop [0].length).length ≤ 16 := by simp; omega
    clear hm hk hfit
    generalize e0 : sel (tops m [0].length) [0].length 0 = a0
    generalize e1 : sel (tops m [0].length) [0].length 1 = a1
    generalize e2 : sel (tops m [0].length) [0].length 2 = a2
    have HE := hid (And.intro e0 (And.intro e1 e2))
    clear e0 e1 e2
    have HM1 := hid (HM.out.on (alloc1 w1 (Obj.cells (nine a0 a1 a2) 235)))
    obtain ⟨vs, vt, hv⟩ := HM1.out
    have HV := hid hv
    have HQ := hid (show (w1.alloc (Obj.cells (nine a0 a1 a2) 235)).heap[w1.heap.size]? = some (.cells (nine a0 a1 a2) 235 (0, 0)) from new_block _ _)
    clear hv HM HM1
    have hk' : (k : Int) < 8 := by omega
    go_wp2_with fail
    have HR := hid (HV.out.drew.reg h8 hk8 (encV_tri a0))
    obtain ⟨y0, z0⟩ : ∃ y, y = m.regs.getD k (.num 0) := ⟨_, rfl⟩
    have b0 : (w1.alloc (Obj.cells (nine a0 a1 a2) 235)).cell? ⟨E.b, 5 + k * 3, none⟩ = some (.bool (tri y0).1) := HV.out.cR hk8 (j := 0) (by rw [← z0, encV_tri]; rfl)
    have b1 : (w1.alloc (Obj.cells (nine a0 a1 a2) 235)).cell? ⟨E.b, 5 + k * 3 + 1, none⟩ = some (.int .i64 (tri y0).2.1) := HV.out.cR hk8 (j := 1) (by rw [← z0, encV_tri]; rfl)
    have b2 : (w1.alloc (Obj.cells (nine a0 a1 a2) 235)).cell? ⟨E.b, 5 + k * 3 + 2, none⟩ = some (.string (tri y0).2.2) := HV.out.cR hk8 (j := 2) (by rw [← z0, encV_tri]; rfl)
    have f0 := HV.out.free (5 + k * 3)
    have f1 := HV.out.free (5 + k * 3 + 1)
    have f2 := HV.out.free (5 + k * 3 + 2)
    obtain ⟨q0, q1, q2, -⟩ := block_cell HQ.out
    clear HV HQ
    generalize w1.alloc (Obj.cells (nine a0 a1 a2) 235) = W at HR b0 b1 b2 f0 f1 f2 q0 q1 q2 ⊢
    generalize w1.heap.size = q at q0 q1 q2 ⊢
    go_region
    go_wp2
    go_ret
    rw [HP.out]
    simp only [List.length_cons, List.length_nil, Nat.zero_add]
    rw [show sel (tops m 1) 1 0 = a0 from HE.out.1]
    exact ⟨rfl, _, _, HR.out⟩

set_option maxHeartbeats 2000000 in
theorem emit_any (h : VMac E m i d w) (hs : m.stack.length ≤ 16) (ht : m.told.length ≤ 40) :
    Calls Tryz.prog 187 #[.pointer (some ⟨E.b, 0, none⟩)] w (Did E i d (needs [2, 2] m (fun av s => emit m (tri (sel av 2 0)).2.2 (tri (sel av 2 1)).2.2 s))) := by
  have H := hid (take_any (h.on (alloc1 w _)) (kinds2 2 2 w) (by simp) (by simp) hs)
  clear h
  go_enter Tryz.func187, Tryz.ntmps187
  go_wp2_with fail
  refine H.out.mono ?_
  clear H
  rintro e w1 ⟨x, r, rfl, hc⟩
  rcases hc with ⟨hk, rfl, rfl, hm⟩ | ⟨hk, hfit, rfl, rfl, hm⟩ | ⟨hk, hfit, rfl, rfl, hm⟩
  · have HM := hid hm
    have HP := hid (needs_short (g := (fun av s => emit m (tri (sel av 2 0)).2.2 (tri (sel av 2 1)).2.2 s)) hk)
    clear hm hk
    go_wp2
    go_ret
    rw [HP.out]
    exact Did.stop (HM.out.on (alloc1 _ _))
  · have HM := hid hm
    have HP := hid (needs_unfit (g := (fun av s => emit m (tri (sel av 2 0)).2.2 (tri (sel av 2 1)).2.2 s)) hk hfit)
    clear hm hk hfit
    go_wp2
    go_ret
    rw [HP.out]
    exact Did.stop (HM.out.on (alloc1 _ _))
  · have HM := hid hm
    have HP := hid (needs_fit (g := (fun av s => emit m (tri (sel av 2 0)).2.2 (tri (sel av 2 1)).2.2 s)) hk hfit)
    have hs2 : (m.stack.drop [2, 2].length).length ≤ 16 := by simp; omega
    clear hm hk hfit
    generalize e0 : sel (tops m [2, 2].length) [2, 2].length 0 = a0
    generalize e1 : sel (tops m [2, 2].length) [2, 2].length 1 = a1
    generalize e2 : sel (tops m [2, 2].length) [2, 2].length 2 = a2
    have HE := hid (And.intro e0 (And.intro e1 e2))
    clear e0 e1 e2
    have HM1 := hid (HM.out.on (alloc1 w1 (Obj.cells (nine a0 a1 a2) 235)))
    obtain ⟨vs, vt, hv⟩ := HM1.out
    obtain ⟨o0, o2, rfl⟩ := own_slice hv.tl
    have HV := hid hv
    have HQ := hid (show (w1.alloc (Obj.cells (nine a0 a1 a2) 235)).heap[w1.heap.size]? = some (.cells (nine a0 a1 a2) 235 (0, 0)) from new_block _ _)
    have c30 : (w1.alloc (Obj.cells (nine a0 a1 a2) 235)).cell? ⟨E.b, 30, none⟩ = some (.slice o0 m.told.length o2) := hv.cO
    clear hv HM
    obtain ⟨i0, hi, hz0, hz1, hz2⟩ := info_parts Tryz.infoP
    have HP2 := hid (show needs [2, 2] m (fun av s => emit m (tri (sel av 2 0)).2.2 (tri (sel av 2 1)).2.2 s) = emit m (tri a0).2.2 (tri a1).2.2 (m.stack.drop 2) from by
      rw [HP.out]
      obtain ⟨e0, e1, e2⟩ := HE.out
      simp only [List.length_cons, List.length_nil, Nat.zero_add, Nat.reduceAdd] at e0 e1 e2 ⊢
      rw [e0, e1])
    clear HP HE
    by_cases hbig : 16 < (tri a0).2.2.size
    · have hd5 : decide ((16 : Int) < ((tri a0).2.2.size : Int)) = true := by simp; omega
      go_wp2
      go_ret
      rw [HP2.out]
      unfold emit
      rw [if_pos hbig]
      exact Did.stop HM1.out
    have hd5 : decide ((16 : Int) < ((tri a0).2.2.size : Int)) = false := by simp; omega
    by_cases hmany : 40 ≤ m.told.length
    · have hd6 : decide ((40 : Int) ≤ (m.told.length : Int)) = true := by simp; omega
      go_wp2
      go_ret
      rw [HP2.out]
      unfold emit
      rw [if_neg hbig, if_pos hmany]
      exact Did.stop HM1.out
    have hd6 : decide ((40 : Int) ≤ (m.told.length : Int)) = false := by simp; omega
    have HP3 := hid (show needs [2, 2] m (fun av s => emit m (tri (sel av 2 0)).2.2 (tri (sel av 2 1)).2.2 s) = .next { m with stack := m.stack.drop 2, told := m.told ++ [((tri a0).2.2, (tri a1).2.2)] } from by
      rw [HP2.out]
      unfold emit
      rw [if_neg hbig, if_neg hmany])
    clear HP2 HM1 hbig
    go_wp2_with fail
    obtain ⟨q0, q1, q2, q5⟩ := block_cell HQ.out
    clear HQ q0 q1
    generalize w1.alloc (Obj.cells (nine a0 a1 a2) 235) = W at HV c30 q2 q5 ⊢
    generalize w1.heap.size = q at q2 q5 ⊢
    generalize (tri a0).2.2 = s0 at HP3 q2 hd5 ⊢
    generalize (tri a1).2.2 = s1 at HP3 q5 ⊢
    have HX := hid ((HV.out.on (alloc1 W (Obj.cells #[.string s0, .string s1] 105))).on (drew1 _))
    have d30 : (W.alloc (Obj.cells #[.string s0, .string s1] 105)).cell? ⟨E.b, 30, none⟩ = some (.slice o0 m.told.length o2) := (HV.out.on (alloc1 W _)).cO
    have f30 := HV.out.free 30
    go_region_law (refine step_append_own rfl (.tmp 29) (.tmp 37) 51 rfl E.w0.heap.size 105 i0 _ 2 32 Tryz.underlying51 hi hz0 hz1 hz2 rfl (by decide) (.slice o0 m.told.length o2) m.told.length (fl encP m.told) (by simp [Act.eval]) HX.out.tl ⟨W.heap.size, 0, none⟩ 1 1 [.string s0, .string s1] (by simp [Act.eval]) rfl (two_new W _ _ _) (by intro u hu; simp at hu; rcases hu with rfl | rfl <;> rfl) (by unfold maxLen; omega) (by omega) (HX.out.bel.size) ?_; intro v1 w2 ho1 hg1; (have HO := hid ho1); (have HG := hid hg1); (obtain ⟨ao1, cc1, rfl⟩ := own_slice ho1); (have e30 : w2.cell? ⟨E.b, 30, none⟩ = some (.slice o0 m.told.length o2) := (World.cell?_of_block (w := (W.alloc (Obj.cells #[.string s0, .string s1] 105)).drew) (HX.out.heldO hg1)).trans HX.out.cO); (have g30 : w2.frozen? ⟨E.b, 30, none⟩ = false := HX.out.freeAt (HX.out.heldO hg1) 30); clear ho1 hg1)
    all_goals (go_wp2; go_ret; rw [HP3.out]; exact ⟨rfl, _, _, HX.out.emitted (told_row HO.out) HG.out⟩)

end Go.Proofs.YtfimoobgbodbmaaGreatDoor
/-! pushNext of the program's machine; its key's cell is asked. -/
namespace Go.Proofs.YtfimoobgbodbmaaGreatDoor
open Go.RowKit Go.Lib
set_option linter.unusedVariables false
set_option maxRecDepth 100000

variable {E : Fx} {m : St} {i : Int} {d : Nat} {w : World}
theorem owns_sav {e s n base : Nat} {v : Value} {xs : List Value} {S : Nat → Prop} {w' : World} (h : w.ownsRow base e s v n xs) (hs : Sav S w w') (hn : ∀ q, v.ownBlock = some q → ¬ S q) : w'.ownsRow base e s v n xs := by
  refine ⟨h.1, ?_⟩
  rcases h.2 with h1 | ⟨g, cap, cur, rfl, hb, hh, r⟩
  · exact .inl h1
  · exact .inr ⟨g, cap, cur, rfl, hb, hs.at hh (hn g rfl), r⟩
theorem KeyOk.kind (h : KeyOk E w) : ∃ cs f, w.heap[E.kb]? = some (.cells cs 213 f) := by
  rcases h with ⟨h1, _⟩ | h1
  · exact ⟨_, _, h1⟩
  · exact ⟨_, _, h1⟩
/-- Only the key's cell has turned. -/
theorem VM.asked {vs vt : Value} (h : VM E vs vt m i d w) {w' : World} (hs : Sav (Also Non E.kb) w w') (hk : w'.heap[E.kb]? = some (clObj 1 0 1 .nilFunc E.key)) : VM E vs vt m i d w' := by
  obtain ⟨cs, hc, hC⟩ := h.blk
  obtain ⟨ks, kf, hkb⟩ := h.ky.kind
  have hne : E.b ≠ E.kb := block_ne hc hkb (by decide)
  have hb : Below E.w0.heap.size w w' := hs.below (by intro k hk; rcases hk with hk | hk; exact hk.elim; rw [hk]; exact h.kbase) h.bel.size
  refine ⟨h.bel.trans hb, h.base, h.kbase, ⟨cs, hs.at hc (by intro hx; rcases hx with hx | hx; exact hx; exact hne hx), hC⟩, .inr hk, owns_sav h.st hs ?_, owns_sav h.tl hs ?_⟩
  · intro q hq hx
    rcases hx with hx | hx
    · exact hx
    · rw [hx] at hq
      exact owns_off h.st hkb (by decide) hq
  · intro q hq hx
    rcases hx with hx | hx
    · exact hx
    · rw [hx] at hq
      exact owns_off h.tl hkb (by decide) hq
theorem keyFn_calls (kv : Nat) (key : ByteArray) (w : World) (h : w.heap[kv]? = some (.cells #[.string key] 9 (0, 0))) : Calls Tryz.prog 136 #[.pointer (some ⟨kv, 0, none⟩)] w fun e w' => e = .returned (.string key) ∧ w' = w := by
  have c0 : w.cell? ⟨kv, 0, none⟩ = some (.string key) := cell_of_cells h
  clear h
  go_enter Tryz.func136, Tryz.ntmps136
  go_wp2
  go_ret
  exact ⟨rfl, rfl⟩
/-- The key's text, asked the first time or again. -/
theorem key_get (h : VMac E m i d w) : Calls Tryz.prog 170 #[.pointer (some ⟨E.kb, 0, none⟩)] w fun e w' => e = .returned (.string E.key) ∧ VMac E m i d w' := by
  obtain ⟨vs, vt, h⟩ := h
  rcases h.ky with ⟨h1, h2⟩ | h1
  · have hne : E.kv ≠ E.kb := block_ne h2 h1 (by decide)
    refine (get_first E.kb _ E.key Non (fun _ => True) w h1 (fun h => h) (fun _ _ _ h => h) (fun x hx => ?_)).mono ?_
    · refine textOf_fn 136 #[.pointer (some ⟨E.kv, 0, none⟩)] E.key Non (fun _ => True) x (fun _ => rfl) (fun k hk => hk.elim) (fun _ _ _ h => h) (fun y hy => ?_)
      refine (keyFn_calls E.kv E.key y (hy.at (hx.at h2 (fun h => hne h)) (fun h => h))).mono ?_
      rintro e w' ⟨rfl, rfl⟩
      exact ⟨rfl, Sav.refl _ _, trivial⟩
    · rintro e w' ⟨rfl, hb, hs, _⟩
      exact ⟨rfl, vs, vt, h.asked hs hb⟩
  · refine (get_done E.kb 0 1 .nilFunc E.key w h1).mono ?_
    rintro e w' ⟨rfl, rfl⟩
    exact ⟨rfl, vs, vt, h⟩

set_option maxHeartbeats 2000000 in
theorem pushNext_any {vals : List ByteArray} (h : VMac E m i d w) (hs : m.stack.length ≤ 16) (hvv : Txs E.w0 E.vv vals) (hfew : vals.length ≤ 1000) (htk : m.taken ≤ vals.length) :
    Calls Tryz.prog 171 #[.pointer (some ⟨E.b, 0, none⟩)] w (Did E i d (if m.taken < vals.length then push { m with taken := m.taken + 1 } m.stack [.text (vals.getD m.taken ⟨#[]⟩), .num 1] else push m m.stack [.num 0])) := by
  obtain ⟨vs, vt, h⟩ := h
  obtain ⟨ao, cap, hvE, g1, g2, g3, g4⟩ := hvv
  have HV := hid h
  have c2 := h.cV
  have c3 := h.cT
  rw [hvE] at c2
  clear h
  obtain ⟨t, et⟩ : ∃ t, m.taken = t := ⟨_, rfl⟩
  rw [et] at c3 htk ⊢
  by_cases hlt : t < vals.length
  · rw [if_pos hlt]
    obtain ⟨b, off, rfl, hb, hc⟩ := g4 (by intro e; rw [e] at hlt; simp at hlt)
    have x0 : w.cell? ⟨b, off + t, none⟩ = some (.string (vals.getD t ⟨#[]⟩)) := by
      have e1 := hc t vals[t] (List.getElem?_eq_getElem hlt) 0 _ rfl
      rw [List.getD_eq_getElem?_getD, List.getElem?_eq_getElem hlt]
      have e2 := (HV.out.bel.cell (p := ⟨b, off + t * 1 + 0, none⟩) hb).trans e1
      simpa using e2
    generalize vals.getD t ⟨#[]⟩ = x at x0 ⊢
    have hd : decide ((vals.length : Int) ≤ (t : Int)) = false := by simp; omega
    have hd2 : (t : Int) < (vals.length : Int) := by omega
    clear hc g3 g4
    go_enter Tryz.func171, Tryz.ntmps171
    go_wp2_with fail
    go_quiet (fail)
    have HV1 := hid (HV.out.on (below_drew w nq))
    have x1 : (w.drewN nq).cell? ⟨b, off + t, none⟩ = some (.string x) := x0
    clear c2 c3 x0 HV
    generalize w.drewN nq = W at HV1 x1 ⊢
    have c2 := HV1.out.cV
    have c3 := HV1.out.cT
    rw [hvE] at c2
    rw [et] at c3
    go_wp2_with fail
    go_quiet (fail)
    have HV2 := hid (HV1.out.on (below_drew W nq))
    clear c2 c3 x1 HV1
    generalize W.drewN nq = W2 at HV2 ⊢
    have c3 := HV2.out.cT
    rw [et] at c3
    have f3 := HV2.out.free 3
    have HV3 := hid (show VM E vs vt { m with taken := t + 1 } i d (W2.setCell ⟨E.b, 3, none⟩ (.int .i64 ((t : Int) + 1))) from HV2.out.taken (t + 1))
    go_wp2_with fail
    generalize W2.setCell ⟨E.b, 3, none⟩ (.int .i64 ((t : Int) + 1)) = W3 at HV3 ⊢
    clear c3 f3 HV2
    refine (bytes_calls x _).mono ?_
    rintro e w1 ⟨rfl, hb1⟩
    have HV4 := hid (HV3.out.on hb1)
    clear hb1 HV3
    go_wp2_with fail
    refine (int_calls 1 _).mono ?_
    rintro e w2 ⟨rfl, hb2⟩
    have HV5 := hid ((HV4.out.on hb2).on (alloc1 w2 (.cells #[.bool true, .int .i64 0, .string x, .bool false, .int .i64 1, .string ⟨#[]⟩] 151)))
    have HX := hid (made2 (.text x) (.num 1) w2)
    clear hb2 HV4
    go_wp2_with fail
    refine (push_any ⟨_, _, HV5.out⟩ hs HX.out (by simp) (by simp)).mono ?_
    rintro e w3 hd
    obtain ⟨r, rfl⟩ := hd.shape
    have HD := hid hd
    clear hd
    go_wp2
    go_ret
    exact HD.out
  · rw [if_neg hlt]
    have hd : decide ((vals.length : Int) ≤ (t : Int)) = true := by simp; omega
    clear g3 g4
    go_enter Tryz.func171, Tryz.ntmps171
    go_wp2_with fail
    go_quiet (fail)
    have HV1 := hid (HV.out.on (below_drew w nq))
    generalize w.drewN nq = W at HV1 ⊢
    go_wp2_with fail
    refine (int_calls 0 _).mono ?_
    rintro e w1 ⟨rfl, hb1⟩
    have HV2 := hid ((HV1.out.on hb1).on (alloc1 w1 (.cells #[.bool false, .int .i64 0, .string ⟨#[]⟩] 151)))
    have HX := hid (made1 (.num 0) w1)
    clear hb1 HV1
    go_wp2_with fail
    refine (push_any ⟨_, _, HV2.out⟩ hs HX.out (by simp) (by simp)).mono ?_
    rintro e w3 hd
    obtain ⟨r, rfl⟩ := hd.shape
    have HD := hid hd
    clear hd
    go_wp2
    go_ret
    exact HD.out
end Go.Proofs.YtfimoobgbodbmaaGreatDoor
/-! What instructions need, as the machine over lists asks for it. -/
namespace Go.Proofs.YtfimoobgbodbmaaGreatDoor
open Go.RowKit Go.Lib
set_option linter.unusedVariables false
set_option maxRecDepth 100000

variable {m : St}
theorem range1 : List.range 1 = [0] := rfl
theorem range2 : List.range 2 = [0, 1] := rfl
theorem range3 : List.range 3 = [0, 1, 2] := rfl
theorem tops1 {a : Val} {s : List Val} (h : m.stack = a :: s) : tops m 1 = [a] := by unfold tops; rw [h]; rfl
theorem tops2 {a b : Val} {s : List Val} (h : m.stack = b :: a :: s) : tops m 2 = [a, b] := by unfold tops; rw [h]; rfl
theorem tops3 {a b c : Val} {s : List Val} (h : m.stack = c :: b :: a :: s) : tops m 3 = [a, b, c] := by unfold tops; rw [h]; rfl
theorem fit1 (k0 : Int) (a : Val) : allFit [k0] [a] = fitsT k0 (tri a).1 := by
  show (List.range 1).all _ = _
  rw [range1]; simp
theorem fit2 (k0 k1 : Int) (a b : Val) : allFit [k0, k1] [a, b] = (fitsT k0 (tri a).1 && fitsT k1 (tri b).1) := by
  show (List.range 2).all _ = _
  rw [range2]; simp
theorem fit3 (k0 k1 k2 : Int) (a b c : Val) : allFit [k0, k1, k2] [a, b, c] = (fitsT k0 (tri a).1 && (fitsT k1 (tri b).1 && fitsT k2 (tri c).1)) := by
  show (List.range 3).all _ = _
  rw [range3]; simp
theorem needs1 (k0 : Int) (g : List Val → List Val → Out) : needs [k0] m g = any1 m fun a s => if fitsT k0 (tri a).1 = true then g [a] s else .stop 2 := by
  unfold any1
  cases h : m.stack with
  | nil => rw [needs_short (by rw [h]; simp)]
  | cons a s =>
    have ht := tops1 h
    cases hf : fitsT k0 (tri a).1 with
    | true => rw [needs_fit (by rw [h]; simp) (by show allFit [k0] (tops m 1) = true; rw [ht, fit1, hf]), show tops m [k0].length = [a] from ht, h]; simp [hf]
    | false => rw [needs_unfit (by rw [h]; simp) (by show allFit [k0] (tops m 1) = false; rw [ht, fit1, hf])]; simp [hf]
theorem needs2 (k0 k1 : Int) (g : List Val → List Val → Out) : needs [k0, k1] m g = any2 m fun a b s => if (fitsT k0 (tri a).1 && fitsT k1 (tri b).1) = true then g [a, b] s else .stop 2 := by
  unfold any2
  match h : m.stack with
  | [] => rw [needs_short (by rw [h]; simp)]
  | [b] => rw [needs_short (by rw [h]; simp)]
  | b :: a :: s =>
    have ht := tops2 h
    cases hf : (fitsT k0 (tri a).1 && fitsT k1 (tri b).1) with
    | true => rw [needs_fit (by rw [h]; simp) (by show allFit [k0, k1] (tops m 2) = true; rw [ht, fit2, hf]), show tops m [k0, k1].length = [a, b] from ht, h]; simp [hf]
    | false => rw [needs_unfit (by rw [h]; simp) (by show allFit [k0, k1] (tops m 2) = false; rw [ht, fit2, hf])]; simp [hf]
theorem needs3 (k0 k1 k2 : Int) (g : List Val → List Val → Out) : needs [k0, k1, k2] m g = any3 m fun a b c s => if (fitsT k0 (tri a).1 && (fitsT k1 (tri b).1 && fitsT k2 (tri c).1)) = true then g [a, b, c] s else .stop 2 := by
  unfold any3
  match h : m.stack with
  | [] => rw [needs_short (by rw [h]; simp)]
  | [b] => rw [needs_short (by rw [h]; simp)]
  | [c, b] => rw [needs_short (by rw [h]; simp)]
  | c :: b :: a :: s =>
    have ht := tops3 h
    cases hf : (fitsT k0 (tri a).1 && (fitsT k1 (tri b).1 && fitsT k2 (tri c).1)) with
    | true => rw [needs_fit (by rw [h]; simp) (by show allFit [k0, k1, k2] (tops m 3) = true; rw [ht, fit3, hf]), show tops m [k0, k1, k2].length = [a, b, c] from ht, h]; simp [hf]
    | false => rw [needs_unfit (by rw [h]; simp) (by show allFit [k0, k1, k2] (tops m 3) = false; rw [ht, fit3, hf])]; simp [hf]
/-- What stands there when there is enough. -/
theorem have1 (h : ¬ m.stack.length < [0].length) : ∃ a s, m.stack = a :: s := by
  match e : m.stack with
  | [] => rw [e] at h; simp at h
  | a :: s => exact ⟨a, s, rfl⟩
theorem have2 (h : ¬ m.stack.length < 2) : ∃ a b s, m.stack = b :: a :: s := by
  match e : m.stack with
  | [] => rw [e] at h; simp at h
  | [a] => rw [e] at h; simp at h
  | b :: a :: s => exact ⟨a, b, s, rfl⟩
theorem have3 (h : ¬ m.stack.length < 3) : ∃ a b c s, m.stack = c :: b :: a :: s := by
  match e : m.stack with
  | [] => rw [e] at h; simp at h
  | [a] => rw [e] at h; simp at h
  | [b, a] => rw [e] at h; simp at h
  | c :: b :: a :: s => exact ⟨a, b, c, s, rfl⟩
def nOf (v : Val) : Int := (tri v).2.1
def tOf (v : Val) : ByteArray := (tri v).2.2
/-- What the eleven turns make. -/
def at0 (av : List Val) : Val := av.getD 0 zV
def at1 (av : List Val) : Val := av.getD 1 zV
def at2 (av : List Val) : Val := av.getD 2 zV
theorem nn_needs (f : Int → Int → Val) : nn m f = needs [1, 1] m fun av s => push m s [f (nOf (at0 av)) (nOf (at1 av))] := by
  rw [needs2]
  unfold nn
  congr 1
  funext a b s
  cases a <;> cases b <;> rfl
theorem tt_needs (f : ByteArray → ByteArray → Val) : (any2 m fun a b s => isT a fun a => isT b fun b => push m s [f a b]) = needs [2, 2] m fun av s => push m s [f (tOf (at0 av)) (tOf (at1 av))] := by
  rw [needs2]
  congr 1
  funext a b s
  cases a <;> cases b <;> rfl
theorem t_needs (f : ByteArray → Val) : (any1 m fun a s => isT a fun a => push m s [f a]) = needs [2] m fun av s => push m s [f (tOf (at0 av))] := by
  rw [needs1]
  congr 1
  funext a s
  cases a <;> rfl
theorem n_needs (f : Int → Val) : (any1 m fun a s => isN a fun a => push m s [f a]) = needs [1] m fun av s => push m s [f (nOf (at0 av))] := by
  rw [needs1]
  congr 1
  funext a s
  cases a <;> rfl
theorem tn_needs (f : ByteArray → Int → Val) : (any2 m fun a b s => isT a fun a => isN b fun b => push m s [f a b]) = needs [2, 1] m fun av s => push m s [f (tOf (at0 av)) (nOf (at1 av))] := by
  rw [needs2]
  congr 1
  funext a b s
  cases a <;> cases b <;> rfl
theorem tnn_needs (f : ByteArray → Int → Int → Val) : (any3 m fun a b c s => isT a fun a => isN b fun b => isN c fun c => push m s [f a b c]) = needs [2, 1, 1] m fun av s => push m s [f (tOf (at0 av)) (nOf (at1 av)) (nOf (at2 av))] := by
  rw [needs3]
  congr 1
  funext a b c s
  cases a <;> cases b <;> cases c <;> rfl
theorem eq_needs : (any2 m fun a b s => push m s [flag (sameV a b)]) = needs [0, 0] m fun av s => push m s [flag (sameV (at0 av) (at1 av))] := by
  rw [needs2]
  congr 1
theorem dup_needs : (any1 m fun a s => push m s [a, a]) = needs [0] m fun av s => push m s [sel av 1 0, sel av 1 0] := by
  rw [needs1]
  congr 1
theorem swap_needs : (any2 m fun a b s => push m s [b, a]) = needs [0, 0] m fun av s => push m s [sel av 2 1, sel av 2 0] := by
  rw [needs2]
  congr 1
theorem drop_needs (h : m.stack.length ≤ 16) : (any1 m fun a s => push m s []) = needs [0] m fun av s => .next { m with stack := s } := by
  rw [needs1]
  unfold any1
  cases e : m.stack with
  | nil => rfl
  | cons a s =>
    rw [e] at h
    simp at h
    show push m s [] = .next { m with stack := s }
    unfold push
    rw [if_neg (by simp), if_neg (by simp; omega)]
    rfl
theorem if_needs (t : Int) : (any1 m fun a s => isN a fun a => if a = 0 then .next { m with stack := s } else .goto t { m with stack := s }) = needs [1] m fun av s => if (tri (sel av 1 0)).2.1 = 0 then .next { m with stack := s } else .goto t { m with stack := s } := by
  rw [needs1]
  congr 1
  funext a s
  cases a <;> rfl
theorem store_needs (k : Nat) : (any1 m fun a s => .next { m with stack := s, regs := m.regs.set k a }) = needs [0] m fun av s => .next { m with stack := s, regs := m.regs.set k (sel av 1 0) } := by
  rw [needs1]
  congr 1
theorem emit_needs : (any2 m fun a b s => isT a fun a => isT b fun b => emit m a b s) = needs [2, 2] m fun av s => emit m (tri (sel av 2 0)).2.2 (tri (sel av 2 1)).2.2 s := by
  rw [needs2]
  congr 1
  funext a b s
  cases a <;> cases b <;> rfl
theorem same_tri (a b : Val) : sameOf (tri a).1 (tri b).1 (tri a).2.1 (tri b).2.1 (tri a).2.2 (tri b).2.2 = sameV a b := by
  cases a <;> cases b <;> rfl
end Go.Proofs.YtfimoobgbodbmaaGreatDoor
/-! do of the program's machine: the turns. -/
namespace Go.Proofs.YtfimoobgbodbmaaGreatDoor
open Go.RowKit Go.Lib
set_option linter.unusedVariables false
set_option maxRecDepth 100000

variable {E : Fx} {m : St} {i : Int} {d : Nat} {w : World} {vals : List ByteArray}

theorem kinds1_at (a : Int) {w : World} {k : Nat} (hk : w.heap.size = k) : Reads 1 encK (w.alloc (.cells #[.int .i64 a] 217)) (.slice (some ⟨k, 0, none⟩) 1 1) [a] := by
  subst hk
  exact kinds1 a w
theorem kinds2_at (a b : Int) {w : World} {k : Nat} (hk : w.heap.size = k) : Reads 1 encK (w.alloc (.cells #[.int .i64 a, .int .i64 b] 217)) (.slice (some ⟨k, 0, none⟩) 2 2) [a, b] := by
  subst hk
  exact kinds2 a b w
theorem kinds3_at (a b c : Int) {w : World} {k : Nat} (hk : w.heap.size = k) : Reads 1 encK (w.alloc (.cells #[.int .i64 a, .int .i64 b, .int .i64 c] 217)) (.slice (some ⟨k, 0, none⟩) 3 3) [a, b, c] := by
  subst hk
  exact kinds3 a b c w
theorem made1_at (y : Val) {w : World} {k : Nat} (hk : w.heap.size = k) : Vls (w.alloc (.cells #[.bool (tri y).1, .int .i64 (tri y).2.1, .string (tri y).2.2] 151)) (.slice (some ⟨k, 0, none⟩) 1 1) [y] := by
  subst hk
  exact made1 y w
theorem nn_shape (hk : ¬ m.stack.length < [(1 : Int), 1].length) (hf : allFit [1, 1] (tops m [(1 : Int), 1].length) = true) : ∃ a b s, m.stack = .num b :: .num a :: s := by
  obtain ⟨a, b, s, h⟩ := have2 hk
  rw [show tops m [(1 : Int), 1].length = [a, b] from tops2 h, fit2] at hf
  cases a with
  | text _ => simp [fitsT, tri] at hf
  | num a =>
    cases b with
    | text _ => simp [fitsT, tri] at hf
    | num b => exact ⟨a, b, s, h⟩
theorem tt_shape (hk : ¬ m.stack.length < [(2 : Int), 2].length) (hf : allFit [2, 2] (tops m [(2 : Int), 2].length) = true) : ∃ a b s, m.stack = .text b :: .text a :: s := by
  obtain ⟨a, b, s, h⟩ := have2 hk
  rw [show tops m [(2 : Int), 2].length = [a, b] from tops2 h, fit2] at hf
  cases a with
  | num _ => simp [fitsT, tri] at hf
  | text a =>
    cases b with
    | num _ => simp [fitsT, tri] at hf
    | text b => exact ⟨a, b, s, h⟩
theorem tn_shape (hk : ¬ m.stack.length < [(2 : Int), 1].length) (hf : allFit [2, 1] (tops m [(2 : Int), 1].length) = true) : ∃ a b s, m.stack = .num b :: .text a :: s := by
  obtain ⟨a, b, s, h⟩ := have2 hk
  rw [show tops m [(2 : Int), 1].length = [a, b] from tops2 h, fit2] at hf
  cases a with
  | num _ => simp [fitsT, tri] at hf
  | text a =>
    cases b with
    | text _ => simp [fitsT, tri] at hf
    | num b => exact ⟨a, b, s, h⟩
theorem t_shape (hk : ¬ m.stack.length < [(2 : Int)].length) (hf : allFit [2] (tops m [(2 : Int)].length) = true) : ∃ a s, m.stack = .text a :: s := by
  obtain ⟨a, s, h⟩ := have1 hk
  rw [show tops m [(2 : Int)].length = [a] from tops1 h, fit1] at hf
  cases a with
  | num _ => simp [fitsT, tri] at hf
  | text a => exact ⟨a, s, h⟩
theorem n_shape (hk : ¬ m.stack.length < [(1 : Int)].length) (hf : allFit [1] (tops m [(1 : Int)].length) = true) : ∃ a s, m.stack = .num a :: s := by
  obtain ⟨a, s, h⟩ := have1 hk
  rw [show tops m [(1 : Int)].length = [a] from tops1 h, fit1] at hf
  cases a with
  | text _ => simp [fitsT, tri] at hf
  | num a => exact ⟨a, s, h⟩
theorem tnn_shape (hk : ¬ m.stack.length < [(2 : Int), 1, 1].length) (hf : allFit [2, 1, 1] (tops m [(2 : Int), 1, 1].length) = true) : ∃ a b c s, m.stack = .num c :: .num b :: .text a :: s := by
  obtain ⟨a, b, c, s, h⟩ := have3 hk
  rw [show tops m [(2 : Int), 1, 1].length = [a, b, c] from tops3 h, fit3] at hf
  cases a with
  | num _ => simp [fitsT, tri] at hf
  | text a =>
    cases b with
    | text _ => simp [fitsT, tri] at hf
    | num b =>
      cases c with
      | text _ => simp [fitsT, tri] at hf
      | num c => exact ⟨a, b, c, s, h⟩

set_option maxHeartbeats 2000000 in
theorem do_add (h : VMac E m i d w) (ok : Ok vals m) (T : Tabs E.w0) (A : Int) (S : ByteArray) :
    Calls Tryz.prog 137 #[.pointer (some ⟨E.b, 0, none⟩), .agg #[.int .i64 8, .int .i64 A, .string S]] w (Did E i d (nn m fun a b => .num (wrap64 (a + b)))) := by
  rw [nn_needs]
  have hf : ∀ x, Tabs x → ¬ m.stack.length < [(1 : Int), 1].length → allFit [1, 1] (tops m [(1 : Int), 1].length) = true → Calls Tryz.prog 173 #[opV (sel (tops m [(1 : Int), 1].length) [(1 : Int), 1].length 0) (sel (tops m [(1 : Int), 1].length) [(1 : Int), 1].length 1) (sel (tops m [(1 : Int), 1].length) [(1 : Int), 1].length 2)] x fun e y => e = .returned (triV ((fun av => .num (wrap64 (nOf (at0 av) + nOf (at1 av)))) (tops m [(1 : Int), 1].length))) ∧ Below x.heap.size x y := by
    intro x hx hk hfit
    obtain ⟨a, b, s, hst⟩ := nn_shape hk hfit
    rw [show tops m [(1 : Int), 1].length = [.num a, .num b] from tops2 hst]
    exact sum_calls false false false a b 0 ⟨#[]⟩ ⟨#[]⟩ ⟨#[]⟩ x
  have H := hid (turn_any ((h.on (alloc1 w (Obj.cells #[.int .i64 8, .int .i64 A, .string S] 118))).on (alloc1 _ _)) (kinds2_at 1 1 (show (w.alloc (Obj.cells #[.int .i64 8, .int .i64 A, .string S] 118)).heap.size = w.heap.size + 1 by simp)) (by simp) (by simp) ok.high 173 (fun av => .num (wrap64 (nOf (at0 av) + nOf (at1 av)))) T (fun _ _ => rfl) hf)
  clear hf h T
  go_enter Tryz.func137, Tryz.ntmps137
  go_wp2_with fail
  refine H.out.mono ?_
  clear H
  rintro e w3 hd
  obtain ⟨r, rfl⟩ := hd.shape
  have HD := hid hd
  clear hd
  go_wp2
  go_ret
  exact HD.out

set_option maxHeartbeats 2000000 in
theorem do_sub (h : VMac E m i d w) (ok : Ok vals m) (T : Tabs E.w0) (A : Int) (S : ByteArray) :
    Calls Tryz.prog 137 #[.pointer (some ⟨E.b, 0, none⟩), .agg #[.int .i64 9, .int .i64 A, .string S]] w (Did E i d (nn m fun a b => .num (wrap64 (a - b)))) := by
  rw [nn_needs]
  have hf : ∀ x, Tabs x → ¬ m.stack.length < [(1 : Int), 1].length → allFit [1, 1] (tops m [(1 : Int), 1].length) = true → Calls Tryz.prog 174 #[opV (sel (tops m [(1 : Int), 1].length) [(1 : Int), 1].length 0) (sel (tops m [(1 : Int), 1].length) [(1 : Int), 1].length 1) (sel (tops m [(1 : Int), 1].length) [(1 : Int), 1].length 2)] x fun e y => e = .returned (triV ((fun av => .num (wrap64 (nOf (at0 av) - nOf (at1 av)))) (tops m [(1 : Int), 1].length))) ∧ Below x.heap.size x y := by
    intro x hx hk hfit
    obtain ⟨a, b, s, hst⟩ := nn_shape hk hfit
    rw [show tops m [(1 : Int), 1].length = [.num a, .num b] from tops2 hst]
    exact dif_calls false false false a b 0 ⟨#[]⟩ ⟨#[]⟩ ⟨#[]⟩ x
  have H := hid (turn_any ((h.on (alloc1 w (Obj.cells #[.int .i64 9, .int .i64 A, .string S] 118))).on (alloc1 _ _)) (kinds2_at 1 1 (show (w.alloc (Obj.cells #[.int .i64 9, .int .i64 A, .string S] 118)).heap.size = w.heap.size + 1 by simp)) (by simp) (by simp) ok.high 174 (fun av => .num (wrap64 (nOf (at0 av) - nOf (at1 av)))) T (fun _ _ => rfl) hf)
  clear hf h T
  go_enter Tryz.func137, Tryz.ntmps137
  go_wp2_with fail
  refine H.out.mono ?_
  clear H
  rintro e w3 hd
  obtain ⟨r, rfl⟩ := hd.shape
  have HD := hid hd
  clear hd
  go_wp2
  go_ret
  exact HD.out

set_option maxHeartbeats 2000000 in
theorem do_mul (h : VMac E m i d w) (ok : Ok vals m) (T : Tabs E.w0) (A : Int) (S : ByteArray) :
    Calls Tryz.prog 137 #[.pointer (some ⟨E.b, 0, none⟩), .agg #[.int .i64 10, .int .i64 A, .string S]] w (Did E i d (nn m fun a b => .num (wrap64 (a * b)))) := by
  rw [nn_needs]
  have hf : ∀ x, Tabs x → ¬ m.stack.length < [(1 : Int), 1].length → allFit [1, 1] (tops m [(1 : Int), 1].length) = true → Calls Tryz.prog 175 #[opV (sel (tops m [(1 : Int), 1].length) [(1 : Int), 1].length 0) (sel (tops m [(1 : Int), 1].length) [(1 : Int), 1].length 1) (sel (tops m [(1 : Int), 1].length) [(1 : Int), 1].length 2)] x fun e y => e = .returned (triV ((fun av => .num (wrap64 (nOf (at0 av) * nOf (at1 av)))) (tops m [(1 : Int), 1].length))) ∧ Below x.heap.size x y := by
    intro x hx hk hfit
    obtain ⟨a, b, s, hst⟩ := nn_shape hk hfit
    rw [show tops m [(1 : Int), 1].length = [.num a, .num b] from tops2 hst]
    exact prod_calls false false false a b 0 ⟨#[]⟩ ⟨#[]⟩ ⟨#[]⟩ x
  have H := hid (turn_any ((h.on (alloc1 w (Obj.cells #[.int .i64 10, .int .i64 A, .string S] 118))).on (alloc1 _ _)) (kinds2_at 1 1 (show (w.alloc (Obj.cells #[.int .i64 10, .int .i64 A, .string S] 118)).heap.size = w.heap.size + 1 by simp)) (by simp) (by simp) ok.high 175 (fun av => .num (wrap64 (nOf (at0 av) * nOf (at1 av)))) T (fun _ _ => rfl) hf)
  clear hf h T
  go_enter Tryz.func137, Tryz.ntmps137
  go_wp2_with fail
  refine H.out.mono ?_
  clear H
  rintro e w3 hd
  obtain ⟨r, rfl⟩ := hd.shape
  have HD := hid hd
  clear hd
  go_wp2
  go_ret
  exact HD.out

set_option maxHeartbeats 2000000 in
theorem do_less (h : VMac E m i d w) (ok : Ok vals m) (T : Tabs E.w0) (A : Int) (S : ByteArray) :
    Calls Tryz.prog 137 #[.pointer (some ⟨E.b, 0, none⟩), .agg #[.int .i64 11, .int .i64 A, .string S]] w (Did E i d (nn m fun a b => flag (decide (a < b)))) := by
  rw [nn_needs]
  have hf : ∀ x, Tabs x → ¬ m.stack.length < [(1 : Int), 1].length → allFit [1, 1] (tops m [(1 : Int), 1].length) = true → Calls Tryz.prog 176 #[opV (sel (tops m [(1 : Int), 1].length) [(1 : Int), 1].length 0) (sel (tops m [(1 : Int), 1].length) [(1 : Int), 1].length 1) (sel (tops m [(1 : Int), 1].length) [(1 : Int), 1].length 2)] x fun e y => e = .returned (triV ((fun av => flag (decide (nOf (at0 av) < nOf (at1 av)))) (tops m [(1 : Int), 1].length))) ∧ Below x.heap.size x y := by
    intro x hx hk hfit
    obtain ⟨a, b, s, hst⟩ := nn_shape hk hfit
    rw [show tops m [(1 : Int), 1].length = [.num a, .num b] from tops2 hst]
    show Calls Tryz.prog 176 _ x fun e y => e = .returned (triV (flag (decide (a < b)))) ∧ _
    cases hd : decide (a < b) with
    | true => exact less1_calls false false false a b 0 ⟨#[]⟩ ⟨#[]⟩ ⟨#[]⟩ x hd
    | false => exact less0_calls false false false a b 0 ⟨#[]⟩ ⟨#[]⟩ ⟨#[]⟩ x hd
  have H := hid (turn_any ((h.on (alloc1 w (Obj.cells #[.int .i64 11, .int .i64 A, .string S] 118))).on (alloc1 _ _)) (kinds2_at 1 1 (show (w.alloc (Obj.cells #[.int .i64 11, .int .i64 A, .string S] 118)).heap.size = w.heap.size + 1 by simp)) (by simp) (by simp) ok.high 176 (fun av => flag (decide (nOf (at0 av) < nOf (at1 av)))) T (fun _ _ => rfl) hf)
  clear hf h T
  go_enter Tryz.func137, Tryz.ntmps137
  go_wp2_with fail
  refine H.out.mono ?_
  clear H
  rintro e w3 hd
  obtain ⟨r, rfl⟩ := hd.shape
  have HD := hid hd
  clear hd
  go_wp2
  go_ret
  exact HD.out

set_option maxHeartbeats 2000000 in
theorem do_eq (h : VMac E m i d w) (ok : Ok vals m) (T : Tabs E.w0) (A : Int) (S : ByteArray) :
    Calls Tryz.prog 137 #[.pointer (some ⟨E.b, 0, none⟩), .agg #[.int .i64 12, .int .i64 A, .string S]] w (Did E i d (any2 m fun a b s => push m s [flag (sameV a b)])) := by
  rw [eq_needs]
  have hf : ∀ x, Tabs x → ¬ m.stack.length < [(0 : Int), 0].length → allFit [0, 0] (tops m [(0 : Int), 0].length) = true → Calls Tryz.prog 177 #[opV (sel (tops m [(0 : Int), 0].length) [(0 : Int), 0].length 0) (sel (tops m [(0 : Int), 0].length) [(0 : Int), 0].length 1) (sel (tops m [(0 : Int), 0].length) [(0 : Int), 0].length 2)] x fun e y => e = .returned (triV ((fun av => flag (sameV (at0 av) (at1 av))) (tops m [(0 : Int), 0].length))) ∧ Below x.heap.size x y := by
    intro x hx hk hfit
    obtain ⟨a, b, s, hst⟩ := have2 hk
    rw [show tops m [(0 : Int), 0].length = [a, b] from tops2 hst]
    have hq := same_tri a b
    show Calls Tryz.prog 177 #[.agg #[.bool (tri a).1, .int .i64 (tri a).2.1, .string (tri a).2.2, .bool (tri b).1, .int .i64 (tri b).2.1, .string (tri b).2.2, .bool false, .int .i64 0, .string ⟨#[]⟩]] x fun e y => e = .returned (triV (flag (sameV a b))) ∧ _
    cases hd : sameV a b with
    | true => exact equal1_calls _ _ false _ _ 0 _ _ ⟨#[]⟩ x (hq.trans hd)
    | false => exact equal0_calls _ _ false _ _ 0 _ _ ⟨#[]⟩ x (hq.trans hd)
  have H := hid (turn_any ((h.on (alloc1 w (Obj.cells #[.int .i64 12, .int .i64 A, .string S] 118))).on (alloc1 _ _)) (kinds2_at 0 0 (show (w.alloc (Obj.cells #[.int .i64 12, .int .i64 A, .string S] 118)).heap.size = w.heap.size + 1 by simp)) (by simp) (by simp) ok.high 177 (fun av => flag (sameV (at0 av) (at1 av))) T (fun _ _ => rfl) hf)
  clear hf h T
  go_enter Tryz.func137, Tryz.ntmps137
  go_wp2_with fail
  refine H.out.mono ?_
  clear H
  rintro e w3 hd
  obtain ⟨r, rfl⟩ := hd.shape
  have HD := hid hd
  clear hd
  go_wp2
  go_ret
  exact HD.out

set_option maxHeartbeats 2000000 in
theorem do_cat (h : VMac E m i d w) (ok : Ok vals m) (T : Tabs E.w0) (A : Int) (S : ByteArray) :
    Calls Tryz.prog 137 #[.pointer (some ⟨E.b, 0, none⟩), .agg #[.int .i64 13, .int .i64 A, .string S]] w (Did E i d (any2 m fun a b s => isT a fun a => isT b fun b => push m s [.text (a ++ b)])) := by
  rw [tt_needs]
  have hf : ∀ x, Tabs x → ¬ m.stack.length < [(2 : Int), 2].length → allFit [2, 2] (tops m [(2 : Int), 2].length) = true → Calls Tryz.prog 178 #[opV (sel (tops m [(2 : Int), 2].length) [(2 : Int), 2].length 0) (sel (tops m [(2 : Int), 2].length) [(2 : Int), 2].length 1) (sel (tops m [(2 : Int), 2].length) [(2 : Int), 2].length 2)] x fun e y => e = .returned (triV ((fun av => .text (tOf (at0 av) ++ tOf (at1 av))) (tops m [(2 : Int), 2].length))) ∧ Below x.heap.size x y := by
    intro x hx hk hfit
    obtain ⟨a, b, s, hst⟩ := tt_shape hk hfit
    rw [show tops m [(2 : Int), 2].length = [.text a, .text b] from tops2 hst]
    have ha : a.size ≤ 64 := ok.vs (.text a) (by rw [hst]; simp)
    have hb : b.size ≤ 64 := ok.vs (.text b) (by rw [hst]; simp)
    exact joined_calls true true false 0 0 0 a b ⟨#[]⟩ x ha hb
  have H := hid (turn_any ((h.on (alloc1 w (Obj.cells #[.int .i64 13, .int .i64 A, .string S] 118))).on (alloc1 _ _)) (kinds2_at 2 2 (show (w.alloc (Obj.cells #[.int .i64 13, .int .i64 A, .string S] 118)).heap.size = w.heap.size + 1 by simp)) (by simp) (by simp) ok.high 178 (fun av => .text (tOf (at0 av) ++ tOf (at1 av))) T (fun _ _ => rfl) hf)
  clear hf h T
  go_enter Tryz.func137, Tryz.ntmps137
  go_wp2_with fail
  refine H.out.mono ?_
  clear H
  rintro e w3 hd
  obtain ⟨r, rfl⟩ := hd.shape
  have HD := hid hd
  clear hd
  go_wp2
  go_ret
  exact HD.out

set_option maxHeartbeats 2000000 in
theorem do_len (h : VMac E m i d w) (ok : Ok vals m) (T : Tabs E.w0) (A : Int) (S : ByteArray) :
    Calls Tryz.prog 137 #[.pointer (some ⟨E.b, 0, none⟩), .agg #[.int .i64 14, .int .i64 A, .string S]] w (Did E i d (any1 m fun a s => isT a fun a => push m s [.num a.size])) := by
  rw [t_needs (fun a => .num a.size)]
  have hf : ∀ x, Tabs x → ¬ m.stack.length < [(2 : Int)].length → allFit [2] (tops m [(2 : Int)].length) = true → Calls Tryz.prog 179 #[opV (sel (tops m [(2 : Int)].length) [(2 : Int)].length 0) (sel (tops m [(2 : Int)].length) [(2 : Int)].length 1) (sel (tops m [(2 : Int)].length) [(2 : Int)].length 2)] x fun e y => e = .returned (triV ((fun av => .num (tOf (at0 av)).size) (tops m [(2 : Int)].length))) ∧ Below x.heap.size x y := by
    intro x hx hk hfit
    obtain ⟨a, s, hst⟩ := t_shape hk hfit
    rw [show tops m [(2 : Int)].length = [.text a] from tops1 hst]
    have ha : a.size ≤ 64 := ok.vs (.text a) (by rw [hst]; simp)
    exact length_calls true false false 0 0 0 a ⟨#[]⟩ ⟨#[]⟩ x ha
  have H := hid (turn_any ((h.on (alloc1 w (Obj.cells #[.int .i64 14, .int .i64 A, .string S] 118))).on (alloc1 _ _)) (kinds1_at 2 (show (w.alloc (Obj.cells #[.int .i64 14, .int .i64 A, .string S] 118)).heap.size = w.heap.size + 1 by simp)) (by simp) (by simp) ok.high 179 (fun av => .num (tOf (at0 av)).size) T (fun _ _ => rfl) hf)
  clear hf h T
  go_enter Tryz.func137, Tryz.ntmps137
  go_wp2_with fail
  refine H.out.mono ?_
  clear H
  rintro e w3 hd
  obtain ⟨r, rfl⟩ := hd.shape
  have HD := hid hd
  clear hd
  go_wp2
  go_ret
  exact HD.out
end Go.Proofs.YtfimoobgbodbmaaGreatDoor
/-! do of the program's machine: the other turns. -/
namespace Go.Proofs.YtfimoobgbodbmaaGreatDoor
open Go.RowKit Go.Lib
set_option linter.unusedVariables false
set_option maxRecDepth 100000

variable {E : Fx} {m : St} {i : Int} {d : Nat} {w : World} {vals : List ByteArray}

set_option maxHeartbeats 2000000 in
theorem do_at (h : VMac E m i d w) (ok : Ok vals m) (T : Tabs E.w0) (A : Int) (S : ByteArray) :
    Calls Tryz.prog 137 #[.pointer (some ⟨E.b, 0, none⟩), .agg #[.int .i64 15, .int .i64 A, .string S]] w (Did E i d (any2 m fun a b s => isT a fun a => isN b fun b => push m s [.num (atV a b)])) := by
  rw [tn_needs]
  have hf : ∀ x, Tabs x → ¬ m.stack.length < [(2 : Int), 1].length → allFit [2, 1] (tops m [(2 : Int), 1].length) = true → Calls Tryz.prog 180 #[opV (sel (tops m [(2 : Int), 1].length) [(2 : Int), 1].length 0) (sel (tops m [(2 : Int), 1].length) [(2 : Int), 1].length 1) (sel (tops m [(2 : Int), 1].length) [(2 : Int), 1].length 2)] x fun e y => e = .returned (triV ((fun av => .num (atV (tOf (at0 av)) (nOf (at1 av)))) (tops m [(2 : Int), 1].length))) ∧ Below x.heap.size x y := by
    intro x hx hk hfit
    obtain ⟨a, b, s, hst⟩ := tn_shape hk hfit
    rw [show tops m [(2 : Int), 1].length = [.text a, .num b] from tops2 hst]
    have ha : a.size ≤ 64 := ok.vs (.text a) (by rw [hst]; simp)
    exact byteAt_calls true false false 0 b 0 a ⟨#[]⟩ ⟨#[]⟩ x ha
  have H := hid (turn_any ((h.on (alloc1 w (Obj.cells #[.int .i64 15, .int .i64 A, .string S] 118))).on (alloc1 _ _)) (kinds2_at 2 1 (show (w.alloc (Obj.cells #[.int .i64 15, .int .i64 A, .string S] 118)).heap.size = w.heap.size + 1 by simp)) (by simp) (by simp) ok.high 180 (fun av => .num (atV (tOf (at0 av)) (nOf (at1 av)))) T (fun _ _ => rfl) hf)
  clear hf h T
  go_enter Tryz.func137, Tryz.ntmps137
  go_wp2_with fail
  refine H.out.mono ?_
  clear H
  rintro e w3 hd
  obtain ⟨r, rfl⟩ := hd.shape
  have HD := hid hd
  clear hd
  go_wp2
  go_ret
  exact HD.out

set_option maxHeartbeats 2000000 in
theorem do_cut (h : VMac E m i d w) (ok : Ok vals m) (T : Tabs E.w0) (A : Int) (S : ByteArray) :
    Calls Tryz.prog 137 #[.pointer (some ⟨E.b, 0, none⟩), .agg #[.int .i64 16, .int .i64 A, .string S]] w (Did E i d (any3 m fun a b c s => isT a fun a => isN b fun b => isN c fun c => push m s [.text (cutV a b c)])) := by
  rw [tnn_needs]
  have hf : ∀ x, Tabs x → ¬ m.stack.length < [(2 : Int), 1, 1].length → allFit [2, 1, 1] (tops m [(2 : Int), 1, 1].length) = true → Calls Tryz.prog 181 #[opV (sel (tops m [(2 : Int), 1, 1].length) [(2 : Int), 1, 1].length 0) (sel (tops m [(2 : Int), 1, 1].length) [(2 : Int), 1, 1].length 1) (sel (tops m [(2 : Int), 1, 1].length) [(2 : Int), 1, 1].length 2)] x fun e y => e = .returned (triV ((fun av => .text (cutV (tOf (at0 av)) (nOf (at1 av)) (nOf (at2 av)))) (tops m [(2 : Int), 1, 1].length))) ∧ Below x.heap.size x y := by
    intro x hx hk hfit
    obtain ⟨a, b, c, s, hst⟩ := tnn_shape hk hfit
    rw [show tops m [(2 : Int), 1, 1].length = [.text a, .num b, .num c] from tops3 hst]
    have ha : a.size ≤ 64 := ok.vs (.text a) (by rw [hst]; simp)
    exact piece_calls true false false 0 b c a ⟨#[]⟩ ⟨#[]⟩ x ha
  have H := hid (turn_any ((h.on (alloc1 w (Obj.cells #[.int .i64 16, .int .i64 A, .string S] 118))).on (alloc1 _ _)) (kinds3_at 2 1 1 (show (w.alloc (Obj.cells #[.int .i64 16, .int .i64 A, .string S] 118)).heap.size = w.heap.size + 1 by simp)) (by simp) (by simp) ok.high 181 (fun av => .text (cutV (tOf (at0 av)) (nOf (at1 av)) (nOf (at2 av)))) T (fun _ _ => rfl) hf)
  clear hf h T
  go_enter Tryz.func137, Tryz.ntmps137
  go_wp2_with fail
  refine H.out.mono ?_
  clear H
  rintro e w3 hd
  obtain ⟨r, rfl⟩ := hd.shape
  have HD := hid hd
  clear hd
  go_wp2
  go_ret
  exact HD.out

set_option maxHeartbeats 2000000 in
theorem do_text (h : VMac E m i d w) (ok : Ok vals m) (T : Tabs E.w0) (A : Int) (S : ByteArray) :
    Calls Tryz.prog 137 #[.pointer (some ⟨E.b, 0, none⟩), .agg #[.int .i64 17, .int .i64 A, .string S]] w (Did E i d (any1 m fun a s => isN a fun a => push m s [.text (txt (itoa a))])) := by
  rw [n_needs (fun a => .text (txt (itoa a)))]
  have hf : ∀ x, Tabs x → ¬ m.stack.length < [(1 : Int)].length → allFit [1] (tops m [(1 : Int)].length) = true → Calls Tryz.prog 182 #[opV (sel (tops m [(1 : Int)].length) [(1 : Int)].length 0) (sel (tops m [(1 : Int)].length) [(1 : Int)].length 1) (sel (tops m [(1 : Int)].length) [(1 : Int)].length 2)] x fun e y => e = .returned (triV ((fun av => .text (txt (itoa (nOf (at0 av))))) (tops m [(1 : Int)].length))) ∧ Below x.heap.size x y := by
    intro x hx hk hfit
    obtain ⟨a, s, hst⟩ := n_shape hk hfit
    rw [show tops m [(1 : Int)].length = [.num a] from tops1 hst]
    have ha : I64 a := ok.vs (.num a) (by rw [hst]; simp)
    exact digitsV_calls false false false a 0 0 ⟨#[]⟩ ⟨#[]⟩ ⟨#[]⟩ x hx ha
  have H := hid (turn_any ((h.on (alloc1 w (Obj.cells #[.int .i64 17, .int .i64 A, .string S] 118))).on (alloc1 _ _)) (kinds1_at 1 (show (w.alloc (Obj.cells #[.int .i64 17, .int .i64 A, .string S] 118)).heap.size = w.heap.size + 1 by simp)) (by simp) (by simp) ok.high 182 (fun av => .text (txt (itoa (nOf (at0 av))))) T (fun _ _ => rfl) hf)
  clear hf h T
  go_enter Tryz.func137, Tryz.ntmps137
  go_wp2_with fail
  refine H.out.mono ?_
  clear H
  rintro e w3 hd
  obtain ⟨r, rfl⟩ := hd.shape
  have HD := hid hd
  clear hd
  go_wp2
  go_ret
  exact HD.out

set_option maxHeartbeats 2000000 in
theorem do_num (h : VMac E m i d w) (ok : Ok vals m) (T : Tabs E.w0) (A : Int) (S : ByteArray) :
    Calls Tryz.prog 137 #[.pointer (some ⟨E.b, 0, none⟩), .agg #[.int .i64 18, .int .i64 A, .string S]] w (Did E i d (any1 m fun a s => isT a fun a => push m s [.num (vNum a.data.toList)])) := by
  rw [t_needs (fun a => .num (vNum a.data.toList))]
  have hf : ∀ x, Tabs x → ¬ m.stack.length < [(2 : Int)].length → allFit [2] (tops m [(2 : Int)].length) = true → Calls Tryz.prog 183 #[opV (sel (tops m [(2 : Int)].length) [(2 : Int)].length 0) (sel (tops m [(2 : Int)].length) [(2 : Int)].length 1) (sel (tops m [(2 : Int)].length) [(2 : Int)].length 2)] x fun e y => e = .returned (triV ((fun av => .num (vNum (tOf (at0 av)).data.toList)) (tops m [(2 : Int)].length))) ∧ Below x.heap.size x y := by
    intro x hx hk hfit
    obtain ⟨a, s, hst⟩ := t_shape hk hfit
    rw [show tops m [(2 : Int)].length = [.text a] from tops1 hst]
    have ha : a.size ≤ 64 := ok.vs (.text a) (by rw [hst]; simp)
    exact numeral_calls true false false 0 0 0 a ⟨#[]⟩ ⟨#[]⟩ x hx ha
  have H := hid (turn_any ((h.on (alloc1 w (Obj.cells #[.int .i64 18, .int .i64 A, .string S] 118))).on (alloc1 _ _)) (kinds1_at 2 (show (w.alloc (Obj.cells #[.int .i64 18, .int .i64 A, .string S] 118)).heap.size = w.heap.size + 1 by simp)) (by simp) (by simp) ok.high 183 (fun av => .num (vNum (tOf (at0 av)).data.toList)) T (fun _ _ => rfl) hf)
  clear hf h T
  go_enter Tryz.func137, Tryz.ntmps137
  go_wp2_with fail
  refine H.out.mono ?_
  clear H
  rintro e w3 hd
  obtain ⟨r, rfl⟩ := hd.shape
  have HD := hid hd
  clear hd
  go_wp2
  go_ret
  exact HD.out

set_option maxHeartbeats 2000000 in
theorem do_dup (h : VMac E m i d w) (ok : Ok vals m) (A : Int) (S : ByteArray) :
    Calls Tryz.prog 137 #[.pointer (some ⟨E.b, 0, none⟩), .agg #[.int .i64 3, .int .i64 A, .string S]] w (Did E i d (any1 m fun a s => push m s [a, a])) := by
  rw [dup_needs]
  have H := hid (double_any (h.on (alloc1 w (Obj.cells #[.int .i64 3, .int .i64 A, .string S] 118))) ok.high)
  clear h
  go_enter Tryz.func137, Tryz.ntmps137
  go_wp2_with fail
  refine H.out.mono ?_
  clear H
  rintro e w3 hd
  obtain ⟨r, rfl⟩ := hd.shape
  have HD := hid hd
  clear hd
  go_wp2
  go_ret
  exact HD.out

set_option maxHeartbeats 2000000 in
theorem do_drop (h : VMac E m i d w) (ok : Ok vals m) (A : Int) (S : ByteArray) :
    Calls Tryz.prog 137 #[.pointer (some ⟨E.b, 0, none⟩), .agg #[.int .i64 4, .int .i64 A, .string S]] w (Did E i d (any1 m fun a s => push m s [])) := by
  rw [drop_needs ok.high]
  have H := hid (drop_any (h.on (alloc1 w (Obj.cells #[.int .i64 4, .int .i64 A, .string S] 118))) ok.high)
  clear h
  go_enter Tryz.func137, Tryz.ntmps137
  go_wp2_with fail
  refine H.out.mono ?_
  clear H
  rintro e w3 hd
  obtain ⟨r, rfl⟩ := hd.shape
  have HD := hid hd
  clear hd
  go_wp2
  go_ret
  exact HD.out

set_option maxHeartbeats 2000000 in
theorem do_swap (h : VMac E m i d w) (ok : Ok vals m) (A : Int) (S : ByteArray) :
    Calls Tryz.prog 137 #[.pointer (some ⟨E.b, 0, none⟩), .agg #[.int .i64 5, .int .i64 A, .string S]] w (Did E i d (any2 m fun a b s => push m s [b, a])) := by
  rw [swap_needs]
  have H := hid (swap_any (h.on (alloc1 w (Obj.cells #[.int .i64 5, .int .i64 A, .string S] 118))) ok.high)
  clear h
  go_enter Tryz.func137, Tryz.ntmps137
  go_wp2_with fail
  refine H.out.mono ?_
  clear H
  rintro e w3 hd
  obtain ⟨r, rfl⟩ := hd.shape
  have HD := hid hd
  clear hd
  go_wp2
  go_ret
  exact HD.out

set_option maxHeartbeats 2000000 in
theorem do_next (h : VMac E m i d w) (ok : Ok vals m) (A : Int) (S : ByteArray) (hvv : Txs E.w0 E.vv vals) (hfew : vals.length ≤ 1000) :
    Calls Tryz.prog 137 #[.pointer (some ⟨E.b, 0, none⟩), .agg #[.int .i64 7, .int .i64 A, .string S]] w (Did E i d (if m.taken < vals.length then push { m with taken := m.taken + 1 } m.stack [.text (vals.getD m.taken ⟨#[]⟩), .num 1] else push m m.stack [.num 0])) := by
  have H := hid (pushNext_any (h.on (alloc1 w (Obj.cells #[.int .i64 7, .int .i64 A, .string S] 118))) ok.high hvv hfew ok.tk)
  generalize (if m.taken < vals.length then push { m with taken := m.taken + 1 } m.stack [.text (vals.getD m.taken ⟨#[]⟩), .num 1] else push m m.stack [.num 0]) = o at H ⊢
  clear h
  go_enter Tryz.func137, Tryz.ntmps137
  go_wp2_with fail
  refine H.out.mono ?_
  clear H
  rintro e w3 hd
  obtain ⟨r, rfl⟩ := hd.shape
  have HD := hid hd
  clear hd
  go_wp2
  go_ret
  exact HD.out

set_option maxHeartbeats 2000000 in
theorem do_jump (h : VMac E m i d w) (ok : Ok vals m) (A : Int) (S : ByteArray) :
    Calls Tryz.prog 137 #[.pointer (some ⟨E.b, 0, none⟩), .agg #[.int .i64 19, .int .i64 A, .string S]] w (Did E i d (.goto A m)) := by
  have H := hid (jump_any (i := i) (h.on (alloc1 w (Obj.cells #[.int .i64 19, .int .i64 A, .string S] 118))) A)
  clear h
  go_enter Tryz.func137, Tryz.ntmps137
  go_wp2_with fail
  refine H.out.mono ?_
  clear H
  rintro e w3 hd
  obtain ⟨r, rfl⟩ := hd.shape
  have HD := hid hd
  clear hd
  go_wp2
  go_ret
  exact HD.out

set_option maxHeartbeats 2000000 in
theorem do_if (h : VMac E m i d w) (ok : Ok vals m) (A : Int) (S : ByteArray) :
    Calls Tryz.prog 137 #[.pointer (some ⟨E.b, 0, none⟩), .agg #[.int .i64 20, .int .i64 A, .string S]] w (Did E i d (any1 m fun a s => isN a fun a => if a = 0 then .next { m with stack := s } else .goto A { m with stack := s })) := by
  rw [if_needs]
  have H := hid (jumpIf_any (h.on (alloc1 w (Obj.cells #[.int .i64 20, .int .i64 A, .string S] 118))) ok.high A)
  clear h
  go_enter Tryz.func137, Tryz.ntmps137
  go_wp2_with fail
  refine H.out.mono ?_
  clear H
  rintro e w3 hd
  obtain ⟨r, rfl⟩ := hd.shape
  have HD := hid hd
  clear hd
  go_wp2
  go_ret
  exact HD.out

set_option maxHeartbeats 2000000 in
theorem do_emit (h : VMac E m i d w) (ok : Ok vals m) (A : Int) (S : ByteArray) :
    Calls Tryz.prog 137 #[.pointer (some ⟨E.b, 0, none⟩), .agg #[.int .i64 23, .int .i64 A, .string S]] w (Did E i d (any2 m fun a b s => isT a fun a => isT b fun b => emit m a b s)) := by
  rw [emit_needs]
  have H := hid (emit_any (h.on (alloc1 w (Obj.cells #[.int .i64 23, .int .i64 A, .string S] 118))) ok.high ok.few)
  clear h
  go_enter Tryz.func137, Tryz.ntmps137
  go_wp2_with fail
  refine H.out.mono ?_
  clear H
  rintro e w3 hd
  obtain ⟨r, rfl⟩ := hd.shape
  have HD := hid hd
  clear hd
  go_wp2
  go_ret
  exact HD.out
end Go.Proofs.YtfimoobgbodbmaaGreatDoor
/-! do of the program's machine: numbers, bytes, the key, registers, the end. -/
namespace Go.Proofs.YtfimoobgbodbmaaGreatDoor
open Go.RowKit Go.Lib
set_option linter.unusedVariables false
set_option maxRecDepth 100000

variable {E : Fx} {m : St} {i : Int} {d : Nat} {w : World} {vals : List ByteArray}

set_option maxHeartbeats 2000000 in
theorem do_store (h : VMac E m i d w) (ok : Ok vals m) (S : ByteArray) (k : Nat) (hk : k < 8) :
    Calls Tryz.prog 137 #[.pointer (some ⟨E.b, 0, none⟩), .agg #[.int .i64 22, .int .i64 (k : Int), .string S]] w (Did E i d (any1 m fun a s => .next { m with stack := s, regs := m.regs.set k a })) := by
  rw [store_needs]
  have H := hid (store_any (h.on (alloc1 w (Obj.cells #[.int .i64 22, .int .i64 (k : Int), .string S] 118))) ok.high ok.eight k hk)
  clear h
  go_enter Tryz.func137, Tryz.ntmps137
  go_wp2_with fail
  refine H.out.mono ?_
  clear H
  rintro e w3 hd
  obtain ⟨r, rfl⟩ := hd.shape
  have HD := hid hd
  clear hd
  go_wp2
  go_ret
  exact HD.out

set_option maxHeartbeats 2000000 in
theorem do_int (h : VMac E m i d w) (ok : Ok vals m) (A : Int) (S : ByteArray) :
    Calls Tryz.prog 137 #[.pointer (some ⟨E.b, 0, none⟩), .agg #[.int .i64 1, .int .i64 A, .string S]] w (Did E i d (push m m.stack [.num A])) := by
  have H := hid (h.on (alloc1 w (Obj.cells #[.int .i64 1, .int .i64 A, .string S] 118)))
  clear h
  go_enter Tryz.func137, Tryz.ntmps137
  go_wp2_with fail
  refine (int_calls A _).mono ?_
  rintro e w1 ⟨rfl, hb1⟩
  have H2 := hid ((H.out.on hb1).on (alloc1 w1 (.cells #[.bool (tri (.num A)).1, .int .i64 (tri (.num A)).2.1, .string (tri (.num A)).2.2] 151)))
  have HX := hid (made1 (.num A) w1)
  clear hb1 H
  go_wp2_with fail
  refine (push_any H2.out ok.high HX.out (by simp) (by simp)).mono ?_
  rintro e w3 hd
  obtain ⟨r, rfl⟩ := hd.shape
  have HD := hid hd
  clear hd
  go_wp2
  go_ret
  exact HD.out

set_option maxHeartbeats 2000000 in
theorem do_bytes (h : VMac E m i d w) (ok : Ok vals m) (A : Int) (S : ByteArray) :
    Calls Tryz.prog 137 #[.pointer (some ⟨E.b, 0, none⟩), .agg #[.int .i64 2, .int .i64 A, .string S]] w (Did E i d (push m m.stack [.text S])) := by
  have H := hid (h.on (alloc1 w (Obj.cells #[.int .i64 2, .int .i64 A, .string S] 118)))
  clear h
  go_enter Tryz.func137, Tryz.ntmps137
  go_wp2_with fail
  refine (bytes_calls S _).mono ?_
  rintro e w1 ⟨rfl, hb1⟩
  have H2 := hid ((H.out.on hb1).on (alloc1 w1 (.cells #[.bool (tri (.text S)).1, .int .i64 (tri (.text S)).2.1, .string (tri (.text S)).2.2] 151)))
  have HX := hid (made1 (.text S) w1)
  clear hb1 H
  go_wp2_with fail
  refine (push_any H2.out ok.high HX.out (by simp) (by simp)).mono ?_
  rintro e w3 hd
  obtain ⟨r, rfl⟩ := hd.shape
  have HD := hid hd
  clear hd
  go_wp2
  go_ret
  exact HD.out

set_option maxHeartbeats 2000000 in
theorem do_key (h : VMac E m i d w) (ok : Ok vals m) (A : Int) (S : ByteArray) :
    Calls Tryz.prog 137 #[.pointer (some ⟨E.b, 0, none⟩), .agg #[.int .i64 6, .int .i64 A, .string S]] w (Did E i d (push m m.stack [.text E.key])) := by
  have H := hid (h.on (alloc1 w (Obj.cells #[.int .i64 6, .int .i64 A, .string S] 118)))
  obtain ⟨vs, vt, hv⟩ := (h.on (alloc1 w (Obj.cells #[.int .i64 6, .int .i64 A, .string S] 118)))
  have c1 := hv.cK
  clear h hv
  go_enter Tryz.func137, Tryz.ntmps137
  go_wp2_with fail
  refine (key_get H.out).mono ?_
  rintro e w0 ⟨rfl, hm⟩
  have H0 := hid hm
  clear hm H
  go_wp2_with fail
  refine (bytes_calls E.key _).mono ?_
  rintro e w1 ⟨rfl, hb1⟩
  have H2 := hid ((H0.out.on hb1).on (alloc1 w1 (.cells #[.bool true, .int .i64 0, .string E.key] 151)))
  have HX := hid (made1 (.text E.key) w1)
  clear hb1 H0
  go_wp2_with fail
  refine (push_any H2.out ok.high HX.out (by simp) (by simp)).mono ?_
  rintro e w3 hd
  obtain ⟨r, rfl⟩ := hd.shape
  have HD := hid hd
  clear hd
  go_wp2
  go_ret
  exact HD.out

set_option maxHeartbeats 2000000 in
theorem do_halt (h : VMac E m i d w) (ok : Ok vals m) (A : Int) (S : ByteArray) {ao : Option Addr} {n cap : Nat} (hp : E.vp = .slice ao n cap) :
    Calls Tryz.prog 137 #[.pointer (some ⟨E.b, 0, none⟩), .agg #[.int .i64 0, .int .i64 A, .string S]] w (Did E i d (.goto n m)) := by
  obtain ⟨vs, vt, hv⟩ := (h.on (alloc1 w (Obj.cells #[.int .i64 0, .int .i64 A, .string S] 118)))
  have c0 := hv.cP
  rw [hp] at c0
  have H := hid (jump_any (i := i) (h.on (alloc1 w (Obj.cells #[.int .i64 0, .int .i64 A, .string S] 118))) (n : Int))
  clear h hv
  go_enter Tryz.func137, Tryz.ntmps137
  go_wp2_with fail
  refine H.out.mono ?_
  clear H
  rintro e w3 hd
  obtain ⟨r, rfl⟩ := hd.shape
  have HD := hid hd
  clear hd
  go_wp2
  go_ret
  exact HD.out

set_option maxHeartbeats 4000000 in
theorem do_load (h : VMac E m i d w) (ok : Ok vals m) (S : ByteArray) (k : Nat) (hk : k < 8) :
    Calls Tryz.prog 137 #[.pointer (some ⟨E.b, 0, none⟩), .agg #[.int .i64 21, .int .i64 (k : Int), .string S]] w (Did E i d (push m m.stack [m.regs.getD k (.num 0)])) := by
  obtain ⟨vs, vt, hv⟩ := (h.on (alloc1 w (Obj.cells #[.int .i64 21, .int .i64 (k : Int), .string S] 118)))
  generalize hy : m.regs.getD k (.num 0) = y
  have b0 : (w.alloc (Obj.cells #[.int .i64 21, .int .i64 (k : Int), .string S] 118)).cell? ⟨E.b, 5 + k * 3, none⟩ = some (.bool (tri y).1) := hv.cR hk (j := 0) (by rw [hy, encV_tri]; rfl)
  have b1 : (w.alloc (Obj.cells #[.int .i64 21, .int .i64 (k : Int), .string S] 118)).cell? ⟨E.b, 5 + k * 3 + 1, none⟩ = some (.int .i64 (tri y).2.1) := hv.cR hk (j := 1) (by rw [hy, encV_tri]; rfl)
  have b2 : (w.alloc (Obj.cells #[.int .i64 21, .int .i64 (k : Int), .string S] 118)).cell? ⟨E.b, 5 + k * 3 + 2, none⟩ = some (.string (tri y).2.2) := hv.cR hk (j := 2) (by rw [hy, encV_tri]; rfl)
  have q1 : (w.alloc (Obj.cells #[.int .i64 21, .int .i64 (k : Int), .string S] 118)).cell? ⟨w.heap.size, 1, none⟩ = some (.int .i64 (k : Int)) := cell_of_cells (new_block _ _)
  have HV := hid hv
  clear h hv hy
  have hk' : (k : Int) < 8 := by omega
  go_enter Tryz.func137, Tryz.ntmps137
  go_wp2_with fail
  generalize w.alloc (Obj.cells #[.int .i64 21, .int .i64 (k : Int), .string S] 118) = W at HV b0 b1 b2 q1 ⊢
  generalize w.heap.size = q at q1 ⊢
  have H2 := hid ((HV.out.on (alloc1 W (.cells #[.bool (tri y).1, .int .i64 (tri y).2.1, .string (tri y).2.2] 151))).on (drew1 _))
  have HX := hid ((made1 y W).below (drew1 _))
  go_region_with (go_at_call 164; refine (push_any ⟨_, _, H2.out⟩ ok.high HX.out (by simp) (by simp)).mono ?_; rintro e w3 hd; obtain ⟨r, rfl⟩ := hd.shape; have HD := hid hd; clear hd)
  all_goals (go_wp2; go_ret; exact HD.out)
end Go.Proofs.YtfimoobgbodbmaaGreatDoor
/-! do of the program's machine, whatever the instruction. -/
namespace Go.Proofs.YtfimoobgbodbmaaGreatDoor
open Go.RowKit Go.Lib
set_option linter.unusedVariables false
set_option maxRecDepth 100000

variable {E : Fx} {m : St} {i : Int} {d : Nat} {w : World} {vals : List ByteArray}
theorem good_op {x : Inst} {n : Int} (h : good x n = true) : 0 ≤ x.1 ∧ x.1 ≤ 23 := by
  unfold good at h
  split at h
  · omega
  · split at h
    · omega
    · split at h
      · omega
      · split at h
        · omega
        · simp at h
          omega
theorem good_reg {x : Inst} {n : Int} (h : good x n = true) (hx : x.1 = 21 ∨ x.1 = 22) : 0 ≤ x.2.1 ∧ x.2.1 ≤ 7 := by
  unfold good at h
  rw [if_neg (by omega), if_neg (by omega), if_neg (by omega), if_pos hx] at h
  simp at h
  omega
theorem do_any (h : VMac E m i d w) (ok : Ok vals m) (T : Tabs E.w0) (hvv : Txs E.w0 E.vv vals) (hfew : vals.length ≤ 1000) (x : Inst) (n : Int) (hg : good x n = true) (h0 : ¬ x.1 = 0) :
    Calls Tryz.prog 137 #[.pointer (some ⟨E.b, 0, none⟩), .agg #[.int .i64 x.1, .int .i64 x.2.1, .string x.2.2]] w (Did E i d (step E.key vals x m)) := by
  have hb := good_op hg
  have hr := fun hx => good_reg hg hx
  obtain ⟨o, A, S⟩ := x
  simp only at hb hr h0 ⊢
  have hc : o = 1 ∨ o = 2 ∨ o = 3 ∨ o = 4 ∨ o = 5 ∨ o = 6 ∨ o = 7 ∨ o = 8 ∨ o = 9 ∨ o = 10 ∨ o = 11 ∨ o = 12 ∨ o = 13 ∨ o = 14 ∨ o = 15 ∨ o = 16 ∨ o = 17 ∨ o = 18 ∨ o = 19 ∨ o = 20 ∨ o = 21 ∨ o = 22 ∨ o = 23 := by omega
  rcases hc with rfl | rfl | rfl | rfl | rfl | rfl | rfl | rfl | rfl | rfl | rfl | rfl | rfl | rfl | rfl | rfl | rfl | rfl | rfl | rfl | rfl | rfl | rfl
  · exact do_int h ok A S
  · exact do_bytes h ok A S
  · exact do_dup h ok A S
  · exact do_drop h ok A S
  · exact do_swap h ok A S
  · exact do_key h ok A S
  · exact do_next h ok A S hvv hfew
  · exact do_add h ok T A S
  · exact do_sub h ok T A S
  · exact do_mul h ok T A S
  · exact do_less h ok T A S
  · exact do_eq h ok T A S
  · exact do_cat h ok T A S
  · exact do_len h ok T A S
  · exact do_at h ok T A S
  · exact do_cut h ok T A S
  · exact do_text h ok T A S
  · exact do_num h ok T A S
  · exact do_jump h ok A S
  · exact do_if h ok A S
  · obtain ⟨k, rfl⟩ : ∃ k : Nat, A = k := ⟨A.toNat, by have := hr (by omega); omega⟩
    exact do_load h ok S k (by have := hr (by omega); omega)
  · obtain ⟨k, rfl⟩ : ∃ k : Nat, A = k := ⟨A.toNat, by have := hr (by omega); omega⟩
    exact do_store h ok S k (by have := hr (by omega); omega)
  · exact do_emit h ok A S
end Go.Proofs.YtfimoobgbodbmaaGreatDoor
