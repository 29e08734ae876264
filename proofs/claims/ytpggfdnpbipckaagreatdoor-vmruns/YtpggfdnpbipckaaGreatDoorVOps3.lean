/- store and emit of the program's machine. -/
import Derived.Test.YtpggfdnpbipckaaGreatDoorVOps2
import Derived.Deep.RegionLaw
import Derived.BigRegion
namespace Go.Proofs.YtpggfdnpbipckaaGreatDoor
open Go.RowKit Go.Lib
set_option linter.unusedVariables false
set_option maxRecDepth 100000

/-- append onto what the call owns, as one step of a region that draws its order. -/
theorem step_append_own {P : Program} {ops : Array Oper} {o : Oper} {a : Act} {w : World} {K : Act → World → Prop} {Q : Exit → Act → World → Prop} {C : Prop}
    (hg : o.guard = none) (s x : Operand) (t : TypeId) (hop : o.op = Op.call { callee := Callee.builtin Builtin.append, args := #[s, x], argTypes := #[t, t] })
    (base : Nat) (e : TypeId) (i : TypeInfo) (z : Value) (size bytes : Nat) (h1 : P.underlying t = some (.slice e)) (h2 : P.info? e = some i) (h3 : i.zero = some z) (h4 : i.size = size) (h5 : i.bytes = bytes) (h6 : z.cells.size = size) (h7 : 0 < size)
    (v : Value) (n : Nat) (xs : List Value) (hs : a.eval s = v) (hown : w.ownsRow base e size v n xs)
    (ad : Addr) (m c : Nat) (news : List Value) (hx : a.eval x = .slice (some ad) m c) (hn : news.length = m * size) (hc : ∀ j u, news[j]? = some u → w.cell? (ad.add j) = some u) (h1c : ∀ u ∈ news, u.oneCell' = true)
    (b1 : n + m ≤ maxLen) (b2 : (n + m) * bytes ≤ 140737488355328) (hb : base ≤ w.heap.size)
    (hK : ∀ v' w', w'.ownsRow base e size v' (n + m) (xs ++ news) → w.grownBy w' v.ownBlock → K (a.put o.dst v') w') :
    if Region.wanted o (yielded ops a.tmps) = true then Oper.wp P o a w K Q else C := by
  have hw : Region.wanted o (yielded ops a.tmps) = true := by simp [Region.wanted, hg]
  rw [if_pos hw]
  obtain ⟨v', w', hrun, r1, r2, _⟩ := run_append_own (P := P) w base t o.type e i z size bytes h1 h2 h3 h4 h5 h6 h7 v n xs hown ad m c news hn hc h1c b1 b2 hb
  unfold Oper.wp
  simp [execOp, hop, resolve, invoke, builtin, hs, hx, hrun, Result.andThen]
  exact hK v' w' r1 r2

variable {E : Fx} {m : St} {i : Int} {d : Nat} {w : World}
theorem VM.drew {vs vt : Value} (h : VM E vs vt m i d w) : VM E vs vt m i d w.drew := h.on (drew1 w)
theorem told_row {base e s : Nat} {v : Value} {l : List Pr} {a b : ByteArray} (h : w.ownsRow base e s v (l.length + 1) (fl encP l ++ [.string a, .string b])) : w.ownsRow base e s v (l ++ [(a, b)]).length (fl encP (l ++ [(a, b)])) := by
  rw [List.length_append, fl_append]
  exact h
theorem block_cell {w : World} {q : Nat} {a b c : Val} {t : TypeId} (h : w.heap[q]? = some (.cells (nine a b c) t (0, 0))) : w.cell? ⟨q, 0, none⟩ = some (.bool (tri a).1) ∧ w.cell? ⟨q, 1, none⟩ = some (.int .i64 (tri a).2.1) ∧ w.cell? ⟨q, 2, none⟩ = some (.string (tri a).2.2) ∧ w.cell? ⟨q, 5, none⟩ = some (.string (tri b).2.2) :=
  ⟨cell_of_cells h, cell_of_cells h, cell_of_cells h, cell_of_cells h⟩

set_option maxHeartbeats 2000000 in
theorem store_any (h : VMac E m i d w) (hs : m.stack.length ≤ 16) (h8 : m.regs.length = 8) (k : Nat) (hk8 : k < 8) :
    Calls Tryz.prog 61 #[.pointer (some ⟨E.b, 0, none⟩), .int .i64 (k : Int)] w (Did E i d (needs [0] m (fun av s => .next { m with stack := s, regs := m.regs.set k (sel av 1 0) }))) := by
  have H := hid (take_any (h.on (alloc1 w _)) (kinds1 0 w) (by simp) (by simp) hs)
  clear h
  go_enter Tryz.func61, Tryz.ntmps61
  go_wp2_with fail
  refine H.out.mono ?_
  clear H
  rintro e w1 ⟨x, r, rfl, hc⟩
  rcases hc with ⟨hk, rfl, rfl, hm⟩ | ⟨hk, hfit, rfl, rfl, hm⟩ | ⟨hk, hfit, rfl, rfl, hm⟩
  · have HM := hid hm
    have HP := hid (needs_short (g := (fun av s => .next { m with stack := s, regs := m.regs.set k (sel av 1 0) })) hk)
    clear hm hk
    go_wp2
    go_ret
    rw [HP.out]
    exact Did.stop (HM.out.on (alloc1 _ _))
  · have HM := hid hm
    have HP := hid (needs_unfit (g := (fun av s => .next { m with stack := s, regs := m.regs.set k (sel av 1 0) })) hk hfit)
    clear hm hk hfit
    go_wp2
    go_ret
    rw [HP.out]
    exact Did.stop (HM.out.on (alloc1 _ _))
  · have HM := hid hm
    have HP := hid (needs_fit (g := (fun av s => .next { m with stack := s, regs := m.regs.set k (sel av 1 0) })) hk hfit)
    have hs2 : (m.stack.drop [0].length).length ≤ 16 := by simp; omega
    clear hm hk hfit
    generalize e0 : sel (tops m [0].length) [0].length 0 = a0
    generalize e1 : sel (tops m [0].length) [0].length 1 = a1
    generalize e2 : sel (tops m [0].length) [0].length 2 = a2
    have HE := hid (And.intro e0 (And.intro e1 e2))
    clear e0 e1 e2
    have HM1 := hid (HM.out.on (alloc1 w1 (Obj.cells (nine a0 a1 a2) 101)))
    obtain ⟨vs, vt, hv⟩ := HM1.out
    have HV := hid hv
    have HQ := hid (show (w1.alloc (Obj.cells (nine a0 a1 a2) 101)).heap[w1.heap.size]? = some (.cells (nine a0 a1 a2) 101 (0, 0)) from new_block _ _)
    clear hv HM HM1
    have hk' : (k : Int) < 8 := by omega
    go_wp2_with fail
    have HR := hid (HV.out.drew.reg h8 hk8 (encV_tri a0))
    obtain ⟨y0, z0⟩ : ∃ y, y = m.regs.getD k (.num 0) := ⟨_, rfl⟩
    have b0 : (w1.alloc (Obj.cells (nine a0 a1 a2) 101)).cell? ⟨E.b, 5 + k * 3, none⟩ = some (.bool (tri y0).1) := HV.out.cR hk8 (j := 0) (by rw [← z0, encV_tri]; rfl)
    have b1 : (w1.alloc (Obj.cells (nine a0 a1 a2) 101)).cell? ⟨E.b, 5 + k * 3 + 1, none⟩ = some (.int .i64 (tri y0).2.1) := HV.out.cR hk8 (j := 1) (by rw [← z0, encV_tri]; rfl)
    have b2 : (w1.alloc (Obj.cells (nine a0 a1 a2) 101)).cell? ⟨E.b, 5 + k * 3 + 2, none⟩ = some (.string (tri y0).2.2) := HV.out.cR hk8 (j := 2) (by rw [← z0, encV_tri]; rfl)
    have f0 := HV.out.free (5 + k * 3)
    have f1 := HV.out.free (5 + k * 3 + 1)
    have f2 := HV.out.free (5 + k * 3 + 2)
    obtain ⟨q0, q1, q2, -⟩ := block_cell HQ.out
    clear HV HQ
    generalize w1.alloc (Obj.cells (nine a0 a1 a2) 101) = W at HR b0 b1 b2 f0 f1 f2 q0 q1 q2 ⊢
    generalize w1.heap.size = q at q0 q1 q2 ⊢
    go_region
    go_wp2
    go_ret
    rw [HP.out]
    simp only [List.length_cons, List.length_nil, Nat.zero_add]
    rw [show sel (tops m 1) 1 0 = a0 from HE.out.1]
    exact ⟨rfl, _, _, HR.out⟩

set_option maxHeartbeats 2000000 in
theorem emit_any (h : VMac E m i d w) (hs : m.stack.length ≤ 16) (ht : m.told.length ≤ 40) :
    Calls Tryz.prog 62 #[.pointer (some ⟨E.b, 0, none⟩)] w (Did E i d (needs [2, 2] m (fun av s => emit m (tri (sel av 2 0)).2.2 (tri (sel av 2 1)).2.2 s))) := by
  have H := hid (take_any (h.on (alloc1 w _)) (kinds2 2 2 w) (by simp) (by simp) hs)
  clear h
  go_enter Tryz.func62, Tryz.ntmps62
  go_wp2_with fail
  refine H.out.mono ?_
  clear H
  rintro e w1 ⟨x, r, rfl, hc⟩
  rcases hc with ⟨hk, rfl, rfl, hm⟩ | ⟨hk, hfit, rfl, rfl, hm⟩ | ⟨hk, hfit, rfl, rfl, hm⟩
  · have HM := hid hm
    have HP := hid (needs_short (g := (fun av s => emit m (tri (sel av 2 0)).2.2 (tri (sel av 2 1)).2.2 s)) hk)
    clear hm hk
    go_wp2
    go_ret
    rw [HP.out]
    exact Did.stop (HM.out.on (alloc1 _ _))
  · have HM := hid hm
    have HP := hid (needs_unfit (g := (fun av s => emit m (tri (sel av 2 0)).2.2 (tri (sel av 2 1)).2.2 s)) hk hfit)
    clear hm hk hfit
    go_wp2
    go_ret
    rw [HP.out]
    exact Did.stop (HM.out.on (alloc1 _ _))
  · have HM := hid hm
    have HP := hid (needs_fit (g := (fun av s => emit m (tri (sel av 2 0)).2.2 (tri (sel av 2 1)).2.2 s)) hk hfit)
    have hs2 : (m.stack.drop [2, 2].length).length ≤ 16 := by simp; omega
    clear hm hk hfit
    generalize e0 : sel (tops m [2, 2].length) [2, 2].length 0 = a0
    generalize e1 : sel (tops m [2, 2].length) [2, 2].length 1 = a1
    generalize e2 : sel (tops m [2, 2].length) [2, 2].length 2 = a2
    have HE := hid (And.intro e0 (And.intro e1 e2))
    clear e0 e1 e2
    have HM1 := hid (HM.out.on (alloc1 w1 (Obj.cells (nine a0 a1 a2) 101)))
    obtain ⟨vs, vt, hv⟩ := HM1.out
    obtain ⟨o0, o2, rfl⟩ := own_slice hv.tl
    have HV := hid hv
    have HQ := hid (show (w1.alloc (Obj.cells (nine a0 a1 a2) 101)).heap[w1.heap.size]? = some (.cells (nine a0 a1 a2) 101 (0, 0)) from new_block _ _)
    have c30 : (w1.alloc (Obj.cells (nine a0 a1 a2) 101)).cell? ⟨E.b, 30, none⟩ = some (.slice o0 m.told.length o2) := hv.cO
    clear hv HM
    obtain ⟨i0, hi, hz0, hz1, hz2⟩ := info_parts Tryz.infoP
    have HP2 := hid (show needs [2, 2] m (fun av s => emit m (tri (sel av 2 0)).2.2 (tri (sel av 2 1)).2.2 s) = emit m (tri a0).2.2 (tri a1).2.2 (m.stack.drop 2) from by
      rw [HP.out]
      obtain ⟨e0, e1, e2⟩ := HE.out
      simp only [List.length_cons, List.length_nil, Nat.zero_add, Nat.reduceAdd] at e0 e1 e2 ⊢
      rw [e0, e1])
    clear HP HE
    by_cases hbig : 16 < (tri a0).2.2.size
    · have hd5 : decide ((16 : Int) < ((tri a0).2.2.size : Int)) = true := by simp; omega
      go_wp2
      go_ret
      rw [HP2.out]
      unfold emit
      rw [if_pos hbig]
      exact Did.stop HM1.out
    have hd5 : decide ((16 : Int) < ((tri a0).2.2.size : Int)) = false := by simp; omega
    by_cases hmany : 40 ≤ m.told.length
    · have hd6 : decide ((40 : Int) ≤ (m.told.length : Int)) = true := by simp; omega
      go_wp2
      go_ret
      rw [HP2.out]
      unfold emit
      rw [if_neg hbig, if_pos hmany]
      exact Did.stop HM1.out
    have hd6 : decide ((40 : Int) ≤ (m.told.length : Int)) = false := by simp; omega
    have HP3 := hid (show needs [2, 2] m (fun av s => emit m (tri (sel av 2 0)).2.2 (tri (sel av 2 1)).2.2 s) = .next { m with stack := m.stack.drop 2, told := m.told ++ [((tri a0).2.2, (tri a1).2.2)] } from by
      rw [HP2.out]
      unfold emit
      rw [if_neg hbig, if_neg hmany])
    clear HP2 HM1 hbig
    go_wp2_with fail
    obtain ⟨q0, q1, q2, q5⟩ := block_cell HQ.out
    clear HQ q0 q1
    generalize w1.alloc (Obj.cells (nine a0 a1 a2) 101) = W at HV c30 q2 q5 ⊢
    generalize w1.heap.size = q at q2 q5 ⊢
    generalize (tri a0).2.2 = s0 at HP3 q2 hd5 ⊢
    generalize (tri a1).2.2 = s1 at HP3 q5 ⊢
    have HX := hid ((HV.out.on (alloc1 W (Obj.cells #[.string s0, .string s1] 41))).on (drew1 _))
    have d30 : (W.alloc (Obj.cells #[.string s0, .string s1] 41)).cell? ⟨E.b, 30, none⟩ = some (.slice o0 m.told.length o2) := (HV.out.on (alloc1 W _)).cO
    have f30 := HV.out.free 30
    go_region_law (refine step_append_own rfl (.tmp 29) (.tmp 37) 28 rfl E.w0.heap.size 41 i0 _ 2 32 Tryz.underlying28 hi hz0 hz1 hz2 rfl (by decide) (.slice o0 m.told.length o2) m.told.length (fl encP m.told) (by simp [Act.eval]) HX.out.tl ⟨W.heap.size, 0, none⟩ 1 1 [.string s0, .string s1] (by simp [Act.eval]) rfl (two_new W _ _ _) (by intro u hu; simp at hu; rcases hu with rfl | rfl <;> rfl) (by unfold maxLen; omega) (by omega) (HX.out.bel.size) ?_; intro v1 w2 ho1 hg1; (have HO := hid ho1); (have HG := hid hg1); (obtain ⟨ao1, cc1, rfl⟩ := own_slice ho1); (have e30 : w2.cell? ⟨E.b, 30, none⟩ = some (.slice o0 m.told.length o2) := (World.cell?_of_block (w := (W.alloc (Obj.cells #[.string s0, .string s1] 41)).drew) (HX.out.heldO hg1)).trans HX.out.cO); (have g30 : w2.frozen? ⟨E.b, 30, none⟩ = false := HX.out.freeAt (HX.out.heldO hg1) 30); clear ho1 hg1)
    all_goals (go_wp2; go_ret; rw [HP3.out]; exact ⟨rfl, _, _, HX.out.emitted (told_row HO.out) HG.out⟩)

end Go.Proofs.YtpggfdnpbipckaaGreatDoor
