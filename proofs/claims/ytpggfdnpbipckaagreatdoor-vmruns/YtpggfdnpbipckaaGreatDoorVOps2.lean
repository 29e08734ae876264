/- double, drop, swap, jump, jumpIf of the program's machine. -/
import Derived.Test.YtpggfdnpbipckaaGreatDoorVOps
namespace Go.Proofs.YtpggfdnpbipckaaGreatDoor
open Go.RowKit Go.Lib
set_option linter.unusedVariables false
set_option maxRecDepth 100000

variable {E : Fx} {m : St} {i : Int} {d : Nat} {w : World}
theorem kinds1 (a : Int) (w : World) : Reads 1 encK (w.alloc (.cells #[.int .i64 a] 94)) (.slice (some ⟨w.heap.size, 0, none⟩) 1 1) [a] := Reads.made encK_len (by decide) 94 [a] w (by simp)
theorem kinds2 (a b : Int) (w : World) : Reads 1 encK (w.alloc (.cells #[.int .i64 a, .int .i64 b] 94)) (.slice (some ⟨w.heap.size, 0, none⟩) 2 2) [a, b] := Reads.made encK_len (by decide) 94 [a, b] w (by simp)
theorem kinds3 (a b c : Int) (w : World) : Reads 1 encK (w.alloc (.cells #[.int .i64 a, .int .i64 b, .int .i64 c] 94)) (.slice (some ⟨w.heap.size, 0, none⟩) 3 3) [a, b, c] := Reads.made encK_len (by decide) 94 [a, b, c] w (by simp)
theorem made2_at (y z : Val) {w : World} {k : Nat} (hk : w.heap.size = k) : Vls (w.alloc (.cells #[.bool (tri y).1, .int .i64 (tri y).2.1, .string (tri y).2.2, .bool (tri z).1, .int .i64 (tri z).2.1, .string (tri z).2.2] 57)) (.slice (some ⟨k, 0, none⟩) 2 2) [y, z] := by
  subst hk
  exact made2 y z w
theorem needs_short {ks : List Int} {g : List Val → List Val → Out} (h : m.stack.length < ks.length) : needs ks m g = .stop 1 := by unfold needs; rw [if_pos h]
theorem needs_unfit {ks : List Int} {g : List Val → List Val → Out} (h : ¬ m.stack.length < ks.length) (h2 : allFit ks (tops m ks.length) = false) : needs ks m g = .stop 2 := by unfold needs; rw [if_neg h, h2]; rfl
theorem needs_fit {ks : List Int} {g : List Val → List Val → Out} (h : ¬ m.stack.length < ks.length) (h2 : allFit ks (tops m ks.length) = true) : needs ks m g = g (tops m ks.length) (m.stack.drop ks.length) := by unfold needs; rw [if_neg h, if_pos h2]

set_option maxHeartbeats 2000000 in
theorem double_any (h : VMac E m i d w) (hs : m.stack.length ≤ 16) :
    Calls Tryz.prog 42 #[.pointer (some ⟨E.b, 0, none⟩)] w (Did E i d (needs [0] m (fun av s => push m s [sel av 1 0, sel av 1 0]))) := by
  have H := hid (take_any (h.on (alloc1 w _)) (kinds1 0 w) (by simp) (by simp) hs)
  clear h
  go_enter Tryz.func42, Tryz.ntmps42
  go_wp2_with fail
  refine H.out.mono ?_
  clear H
  rintro e w1 ⟨x, r, rfl, hc⟩
  rcases hc with ⟨hk, rfl, rfl, hm⟩ | ⟨hk, hfit, rfl, rfl, hm⟩ | ⟨hk, hfit, rfl, rfl, hm⟩
  · have HM := hid hm
    have HP := hid (needs_short (g := (fun av s => push m s [sel av 1 0, sel av 1 0])) hk)
    clear hm hk
    go_wp2
    go_ret
    rw [HP.out]
    exact Did.stop (HM.out.on (alloc1 _ _))
  · have HM := hid hm
    have HP := hid (needs_unfit (g := (fun av s => push m s [sel av 1 0, sel av 1 0])) hk hfit)
    clear hm hk hfit
    go_wp2
    go_ret
    rw [HP.out]
    exact Did.stop (HM.out.on (alloc1 _ _))
  · have HM := hid hm
    have HP := hid (needs_fit (g := (fun av s => push m s [sel av 1 0, sel av 1 0])) hk hfit)
    have hs2 : (m.stack.drop [0].length).length ≤ 16 := by simp; omega
    clear hm hk hfit
    generalize e0 : sel (tops m [0].length) [0].length 0 = a0
    generalize e1 : sel (tops m [0].length) [0].length 1 = a1
    generalize e2 : sel (tops m [0].length) [0].length 2 = a2
    have HE := hid (And.intro e0 (And.intro e1 e2))
    clear e0 e1 e2
    have HM1 := hid (HM.out.on (alloc1 w1 (Obj.cells (nine a0 a1 a2) 101)))
    have HM2 := hid (HM1.out.on (alloc1 (w1.alloc (Obj.cells (nine a0 a1 a2) 101)) (.cells #[.bool (tri a0).1, .int .i64 (tri a0).2.1, .string (tri a0).2.2, .bool (tri a0).1, .int .i64 (tri a0).2.1, .string (tri a0).2.2] 57)))
    have HV2 := hid (made2_at a0 a0 (show (w1.alloc (Obj.cells (nine a0 a1 a2) 101)).heap.size = w1.heap.size + 1 by simp))
    go_wp2_with fail
    refine (push_any HM2.out hs2 HV2.out (by simp) (by simp)).mono ?_
    rintro e w3 hd
    obtain ⟨r, rfl⟩ := hd.shape
    have HD := hid hd
    clear hd
    go_wp2
    go_ret
    rw [HP.out]
    obtain ⟨e0, e1, e2⟩ := HE.out
    simp only [List.length_cons, List.length_nil, Nat.zero_add] at e0 e1 e2 ⊢
    rw [e0]
    exact HD.out

set_option maxHeartbeats 2000000 in
theorem swap_any (h : VMac E m i d w) (hs : m.stack.length ≤ 16) :
    Calls Tryz.prog 44 #[.pointer (some ⟨E.b, 0, none⟩)] w (Did E i d (needs [0, 0] m (fun av s => push m s [sel av 2 1, sel av 2 0]))) := by
  have H := hid (take_any (h.on (alloc1 w _)) (kinds2 0 0 w) (by simp) (by simp) hs)
  clear h
  go_enter Tryz.func44, Tryz.ntmps44
  go_wp2_with fail
  refine H.out.mono ?_
  clear H
  rintro e w1 ⟨x, r, rfl, hc⟩
  rcases hc with ⟨hk, rfl, rfl, hm⟩ | ⟨hk, hfit, rfl, rfl, hm⟩ | ⟨hk, hfit, rfl, rfl, hm⟩
  · have HM := hid hm
    have HP := hid (needs_short (g := (fun av s => push m s [sel av 2 1, sel av 2 0])) hk)
    clear hm hk
    go_wp2
    go_ret
    rw [HP.out]
    exact Did.stop (HM.out.on (alloc1 _ _))
  · have HM := hid hm
    have HP := hid (needs_unfit (g := (fun av s => push m s [sel av 2 1, sel av 2 0])) hk hfit)
    clear hm hk hfit
    go_wp2
    go_ret
    rw [HP.out]
    exact Did.stop (HM.out.on (alloc1 _ _))
  · have HM := hid hm
    have HP := hid (needs_fit (g := (fun av s => push m s [sel av 2 1, sel av 2 0])) hk hfit)
    have hs2 : (m.stack.drop [0, 0].length).length ≤ 16 := by simp; omega
    clear hm hk hfit
    generalize e0 : sel (tops m [0, 0].length) [0, 0].length 0 = a0
    generalize e1 : sel (tops m [0, 0].length) [0, 0].length 1 = a1
    generalize e2 : sel (tops m [0, 0].length) [0, 0].length 2 = a2
    have HE := hid (And.intro e0 (And.intro e1 e2))
    clear e0 e1 e2
    have HM1 := hid (HM.out.on (alloc1 w1 (Obj.cells (nine a0 a1 a2) 101)))
    have HM2 := hid (HM1.out.on (alloc1 (w1.alloc (Obj.cells (nine a0 a1 a2) 101)) (.cells #[.bool (tri a1).1, .int .i64 (tri a1).2.1, .string (tri a1).2.2, .bool (tri a0).1, .int .i64 (tri a0).2.1, .string (tri a0).2.2] 57)))
    have HV2 := hid (made2_at a1 a0 (show (w1.alloc (Obj.cells (nine a0 a1 a2) 101)).heap.size = w1.heap.size + 1 by simp))
    go_wp2_with fail
    refine (push_any HM2.out hs2 HV2.out (by simp) (by simp)).mono ?_
    rintro e w3 hd
    obtain ⟨r, rfl⟩ := hd.shape
    have HD := hid hd
    clear hd
    go_wp2
    go_ret
    rw [HP.out]
    obtain ⟨e0, e1, e2⟩ := HE.out
    simp only [List.length_cons, List.length_nil, Nat.zero_add, Nat.reduceAdd] at e0 e1 e2 ⊢
    rw [e0, e1]
    exact HD.out

set_option maxHeartbeats 2000000 in
theorem drop_any (h : VMac E m i d w) (hs : m.stack.length ≤ 16) :
    Calls Tryz.prog 43 #[.pointer (some ⟨E.b, 0, none⟩)] w (Did E i d (needs [0] m (fun av s => .next { m with stack := s }))) := by
  have H := hid (take_any (h.on (alloc1 w _)) (kinds1 0 w) (by simp) (by simp) hs)
  clear h
  go_enter Tryz.func43, Tryz.ntmps43
  go_wp2_with fail
  refine H.out.mono ?_
  clear H
  rintro e w1 ⟨x, r, rfl, hc⟩
  rcases hc with ⟨hk, rfl, rfl, hm⟩ | ⟨hk, hfit, rfl, rfl, hm⟩ | ⟨hk, hfit, rfl, rfl, hm⟩
  · have HM := hid hm
    have HP := hid (needs_short (g := (fun av s => .next { m with stack := s })) hk)
    clear hm hk
    go_wp2
    go_ret
    rw [HP.out]
    exact Did.stop (HM.out.on (alloc1 _ _))
  · have HM := hid hm
    have HP := hid (needs_unfit (g := (fun av s => .next { m with stack := s })) hk hfit)
    clear hm hk hfit
    go_wp2
    go_ret
    rw [HP.out]
    exact Did.stop (HM.out.on (alloc1 _ _))
  · have HM := hid hm
    have HP := hid (needs_fit (g := (fun av s => .next { m with stack := s })) hk hfit)
    have hs2 : (m.stack.drop [0].length).length ≤ 16 := by simp; omega
    clear hm hk hfit
    generalize e0 : sel (tops m [0].length) [0].length 0 = a0
    generalize e1 : sel (tops m [0].length) [0].length 1 = a1
    generalize e2 : sel (tops m [0].length) [0].length 2 = a2
    have HE := hid (And.intro e0 (And.intro e1 e2))
    clear e0 e1 e2
    have HM1 := hid (HM.out.on (alloc1 w1 (Obj.cells (nine a0 a1 a2) 101)))
    go_wp2
    go_ret
    rw [HP.out]
    exact ⟨rfl, HM1.out⟩

set_option maxHeartbeats 2000000 in
theorem jumpIf_any (h : VMac E m i d w) (hs : m.stack.length ≤ 16) (t : Int) :
    Calls Tryz.prog 60 #[.pointer (some ⟨E.b, 0, none⟩), .int .i64 t] w (Did E i d (needs [1] m (fun av s => if (tri (sel av 1 0)).2.1 = 0 then .next { m with stack := s } else .goto t { m with stack := s }))) := by
  have H := hid (take_any (h.on (alloc1 w _)) (kinds1 1 w) (by simp) (by simp) hs)
  clear h
  go_enter Tryz.func60, Tryz.ntmps60
  go_wp2_with fail
  refine H.out.mono ?_
  clear H
  rintro e w1 ⟨x, r, rfl, hc⟩
  rcases hc with ⟨hk, rfl, rfl, hm⟩ | ⟨hk, hfit, rfl, rfl, hm⟩ | ⟨hk, hfit, rfl, rfl, hm⟩
  · have HM := hid hm
    have HP := hid (needs_short (g := (fun av s => if (tri (sel av 1 0)).2.1 = 0 then .next { m with stack := s } else .goto t { m with stack := s })) hk)
    clear hm hk
    go_wp2
    go_ret
    rw [HP.out]
    exact Did.stop (HM.out.on (alloc1 _ _))
  · have HM := hid hm
    have HP := hid (needs_unfit (g := (fun av s => if (tri (sel av 1 0)).2.1 = 0 then .next { m with stack := s } else .goto t { m with stack := s })) hk hfit)
    clear hm hk hfit
    go_wp2
    go_ret
    rw [HP.out]
    exact Did.stop (HM.out.on (alloc1 _ _))
  · have HM := hid hm
    have HP := hid (needs_fit (g := (fun av s => if (tri (sel av 1 0)).2.1 = 0 then .next { m with stack := s } else .goto t { m with stack := s })) hk hfit)
    have hs2 : (m.stack.drop [1].length).length ≤ 16 := by simp; omega
    clear hm hk hfit
    generalize e0 : sel (tops m [1].length) [1].length 0 = a0
    generalize e1 : sel (tops m [1].length) [1].length 1 = a1
    generalize e2 : sel (tops m [1].length) [1].length 2 = a2
    have HE := hid (And.intro e0 (And.intro e1 e2))
    clear e0 e1 e2
    have HM1 := hid (HM.out.on (alloc1 w1 (Obj.cells (nine a0 a1 a2) 101)))
    obtain ⟨vs, vt, hv⟩ := HM1.out
    have HV := hid hv
    have c29 : (w1.alloc (Obj.cells (nine a0 a1 a2) 101)).cell? ⟨E.b, 29, none⟩ = some (.int .i64 i) := hv.cN
    have f29 : (w1.alloc (Obj.cells (nine a0 a1 a2) 101)).frozen? ⟨E.b, 29, none⟩ = false := hv.free 29
    clear hv
    by_cases hz : (tri a0).2.1 = 0
    · go_wp2
      go_ret
      rw [HP.out]
      simp only [List.length_cons, List.length_nil, Nat.zero_add]
      rw [if_pos (by rw [show sel (tops m 1) 1 0 = a0 from HE.out.1]; exact hz)]
      exact ⟨rfl, HM.out.on (alloc1 _ _)⟩
    · have hz2 : ((tri a0).2.1 != 0) = true := by simpa using hz
      go_wp2
      go_ret
      rw [HP.out]
      simp only [List.length_cons, List.length_nil, Nat.zero_add]
      rw [if_neg (by rw [show sel (tops m 1) 1 0 = a0 from HE.out.1]; exact hz)]
      exact ⟨rfl, _, _, HV.out.next t⟩

theorem jump_any (h : VMac E m i d w) (t : Int) : Calls Tryz.prog 59 #[.pointer (some ⟨E.b, 0, none⟩), .int .i64 t] w (Did E i d (.goto t m)) := by
  obtain ⟨vs, vt, hv⟩ := h
  have HV := hid hv
  have c29 := hv.cN
  have f29 := hv.free 29
  clear hv
  go_enter Tryz.func59, Tryz.ntmps59
  go_wp2
  go_ret
  exact ⟨rfl, _, _, HV.out.next t⟩
end Go.Proofs.YtpggfdnpbipckaaGreatDoor
