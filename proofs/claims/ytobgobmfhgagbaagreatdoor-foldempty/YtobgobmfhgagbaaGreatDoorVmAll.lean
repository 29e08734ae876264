/- vm.Run and vm.Steps are the machine's. -/
import Derived.Test.YtobgobmfhgagbaaGreatDoorVRun
import Derived.Test.YtobgobmfhgagbaaGreatDoorLVm
namespace Go.Proofs.YtobgobmfhgagbaaGreatDoor
open Go.RowKit Go.Lib
set_option linter.unusedVariables false
set_option maxRecDepth 100000

theorem start_cells (E : Fx) : VCells E (.slice none 0 0) (.slice none 0 0) st0 0 0 #[E.vp, .pointer (some ⟨E.kb, 0, none⟩), E.vv, .int .i64 0, .slice none 0 0, .bool false, .int .i64 0, .string ⟨#[]⟩, .bool false, .int .i64 0, .string ⟨#[]⟩, .bool false, .int .i64 0, .string ⟨#[]⟩, .bool false, .int .i64 0, .string ⟨#[]⟩, .bool false, .int .i64 0, .string ⟨#[]⟩, .bool false, .int .i64 0, .string ⟨#[]⟩, .bool false, .int .i64 0, .string ⟨#[]⟩, .bool false, .int .i64 0, .string ⟨#[]⟩, .int .i64 0, .slice none 0 0, .int .i64 0] := by
  refine ⟨rfl, rfl, rfl, rfl, rfl, rfl, ?_, rfl, rfl, rfl⟩
  intro k hk j u hu
  have hz : st0.regs.getD k (.num 0) = .num 0 := by
    have hc : k = 0 ∨ k = 1 ∨ k = 2 ∨ k = 3 ∨ k = 4 ∨ k = 5 ∨ k = 6 ∨ k = 7 := by omega
    rcases hc with rfl | rfl | rfl | rfl | rfl | rfl | rfl | rfl <;> rfl
  rw [hz] at hu
  have hj : j = 0 ∨ j = 1 ∨ j = 2 := by
    have := (List.getElem?_eq_some_iff.1 hu).1
    simp [encV] at this
    omega
  have hc : k = 0 ∨ k = 1 ∨ k = 2 ∨ k = 3 ∨ k = 4 ∨ k = 5 ∨ k = 6 ∨ k = 7 := by omega
  rcases hj with rfl | rfl | rfl <;> rcases hc with rfl | rfl | rfl | rfl | rfl | rfl | rfl | rfl <;> exact hu
theorem new_at {w : World} {k : Nat} (hk : w.heap.size = k) (o : Obj) : (w.alloc o).heap[k]? = some o := by
  subst hk
  exact new_block w o
/-- A new machine. -/
def Fresh (w0 : World) (key : ByteArray) (vp vv : Value) (e : Ending) (w' : World) : Prop :=
  ∃ E : Fx, E.w0 = w0 ∧ E.key = key ∧ E.vp = vp ∧ E.vv = vv ∧ e = .returned (.pointer (some ⟨E.b, 0, none⟩)) ∧ VMac E st0 0 0 w'
set_option maxHeartbeats 2000000 in
theorem newMachine_any (w0 w : World) (hb : Below w0.heap.size w0 w) (a1 : Option Addr) (n1 c1 : Nat) (key : ByteArray) (a2 : Option Addr) (n2 c2 : Nat) :
    Calls Tryz.prog 40 #[.slice a1 n1 c1, .string key, .slice a2 n2 c2] w (Fresh w0 key (.slice a1 n1 c1) (.slice a2 n2 c2)) := by
  have HB := hid hb
  clear hb
  have hmf : ∀ (fn : Fn) (first cap : Array Value) (w : World), (Instr.makeFunc fn first cap).run Tryz.prog w = .ok (.func fn first cap) w := fun _ _ _ _ => rfl
  go_enter Tryz.func40, Tryz.ntmps40
  go_wp2_with fail
  refine (lnew_fn _ _ _ _).mono ?_
  rintro e w1 ⟨rfl, rfl⟩
  go_wp2
  go_ret
  have hsz := HB.out.size
  refine ⟨⟨w0, w.heap.size + 2, w.heap.size + 1, w.heap.size, key, .slice a1 n1 c1, .slice a2 n2 c2⟩, rfl, rfl, rfl, rfl, rfl, .slice none 0 0, .slice none 0 0, ?_⟩
  refine ⟨below_then (below_then (below_then HB.out (alloc1 w _) hsz) (alloc1 _ _) (by simp; omega)) (alloc1 _ _) (by simp; omega), by simp only; omega, by simp only; omega, ⟨_, ?_, start_cells _⟩, .inl ⟨?_, ?_⟩, World.ownsRow_nil _ _ _ _, World.ownsRow_nil _ _ _ _⟩
  · exact new_at (by simp) _
  · exact ((alloc1 _ _).block _ (by simp)).trans (new_at (by simp) _)
  · exact ((alloc1 _ _).block _ (by simp; omega)).trans (((alloc1 _ _).block _ (by simp)).trans (new_at rfl _))
theorem vmMay_any (v : Value) (l : List Inst) (f : Int) (w : World) (hv : Co w v l) :
    Calls Tryz.prog 39 #[v, .int .i64 f] w fun e w' => e = .returned (.bool (decide (bad l < 0 ∧ 0 ≤ f))) ∧ Below w.heap.size w w' := by
  have H := hid (may_any v l w hv)
  clear hv
  by_cases h0 : 0 ≤ f
  · have e0 : decide (bad l < 0 ∧ 0 ≤ f) = decide (bad l < 0) := by simp [h0]
    rw [e0]
    have hd : decide ((0 : Int) ≤ f) = true := by simp; omega
    generalize decide (bad l < 0) = g at H ⊢
    go_enter Tryz.func39, Tryz.ntmps39
    go_wp2_with fail
    refine H.out.mono ?_
    rintro e w1 ⟨rfl, hb⟩
    have HB := hid hb
    clear hb
    go_wp2
    go_ret
    exact ⟨rfl, HB.out⟩
  · have e0 : decide (bad l < 0 ∧ 0 ≤ f) = false := by simp [h0]
    rw [e0]
    have hd : decide ((0 : Int) ≤ f) = false := by simp; omega
    clear H
    go_enter Tryz.func39, Tryz.ntmps39
    go_wp2
    go_ret
    exact ⟨rfl, Below.refl _ _⟩
set_option maxHeartbeats 2000000 in
theorem vmRun_any (w : World) (v u : Value) (l : List Inst) (key : ByteArray) (vals : List ByteArray) (f : Int) (T : Tabs w) (hv : Co w v l) (hu : Txs w u vals) (hF : Fits l key vals) (hf : I64 f) :
    Calls Tryz.prog 29 #[v, .string key, u, .int .i64 f] w fun e w' => ∃ x, e = .returned (.tuple #[x, .int .i64 (run l key vals f).2.1]) ∧ w'.ownsRow w.heap.size 34 2 x (run l key vals f).1.length (fl encP (run l key vals f).1) ∧ Below w.heap.size w w' := by
  have H := hid (vmMay_any v l f w hv)
  have HF := hid hF
  have HT := hid T
  have HV := hid hv
  have HU := hid hu
  obtain ⟨ao, ca, rfl, -, -, -, -⟩ := hv
  obtain ⟨bo, cb, rfl, -, -, -, -⟩ := hu
  clear hF T
  by_cases hm : bad l < 0 ∧ 0 ≤ f
  · have hr : run l key vals f = go l key vals (min f 2000).toNat 0 st0 := by unfold run; rw [if_pos hm]
    have HFA := hid (fair_run (key := key) (vals := vals) HF.out.nums f)
    have hd : decide (bad l < 0 ∧ 0 ≤ f) = true := by simpa using hm
    rw [hd] at H
    rw [hr] at HFA ⊢
    generalize hR : go l key vals (min f 2000).toNat 0 st0 = R at HFA ⊢
    have HR := hid hR
    clear hR hr hd
    have HM := hid hm
    clear hm
    go_enter Tryz.func29, Tryz.ntmps29
    go_wp2_with fail
    refine H.out.mono ?_
    rintro e w1 ⟨rfl, hb1⟩
    have HB1 := hid hb1
    clear hb1 H
    go_wp2_with fail
    refine (newMachine_any w w1 HB1.out _ _ _ _ _ _ _).mono ?_
    rintro e w2 ⟨E, rfl, rfl, hp, hu2, rfl, hm2⟩
    have HM2 := hid hm2
    have HP := hid hp
    have HU2 := hid hu2
    clear hm2 hp hu2
    go_wp2_with fail
    refine (runLoop (vals := vals) (l := l) HM2.out HT.out (by rw [HU2.out]; exact HU.out) HF.out.few (by rw [HP.out]; exact HV.out) HM.out.1 HF.out.nums f HM.out.2 hf).mono ?_
    rintro e w3 hr3
    rw [HR.out] at hr3
    obtain ⟨rfl, m3, i3, ⟨vs3, vt3, hv3⟩, ht3⟩ := hr3
    have HV3 := hid hv3
    have HT3 := hid ht3
    have c30 := hv3.cO
    obtain ⟨o0, o2, rfl⟩ := own_slice hv3.tl
    clear hv3 ht3
    by_cases hz : R.2.1 = 0
    · have hz2 : (R.2.1 != 0) = false := by simpa using hz
      have hto := HT3.out hz
      have HTL := hid HV3.out.tl
      rw [hto] at HTL
      have hz3 := hid hz
      rw [hto] at c30
      go_wp2
      go_ret2
      refine ⟨.slice o0 R.1.length o2, ?_, HTL.out, HV3.out.bel⟩
      rw [hz3.out]
      rfl
    · have hz2 : (R.2.1 != 0) = true := by simpa using hz
      have hnil := HFA.out.2.1 hz
      go_wp2
      go_ret2
      exact ⟨_, rfl, by rw [hnil]; exact World.ownsRow_nil _ _ _ _, HV3.out.bel⟩
  · have hr : run l key vals f = ([], 2, 0) := by unfold run; rw [if_neg hm]
    have hd : decide (bad l < 0 ∧ 0 ≤ f) = false := by simpa using hm
    rw [hd] at H
    rw [hr]
    clear hd hm hr
    go_enter Tryz.func29, Tryz.ntmps29
    go_wp2_with fail
    refine H.out.mono ?_
    rintro e w1 ⟨rfl, hb1⟩
    have HB1 := hid hb1
    clear hb1 H
    go_wp2
    go_ret2
    exact ⟨_, rfl, World.ownsRow_nil _ _ _ _, HB1.out⟩
end Go.Proofs.YtobgobmfhgagbaaGreatDoor
