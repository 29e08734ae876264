/- Laid together: VRun LGreat LVm VmAll. -/
import Derived.Test.YtfimoobgbodbmaaGreatDoorGVm
import Derived.Test.YtfimoobgbodbmaaGreatDoorGProg
import Derived.Test.YtfimoobgbodbmaaGreatDoorGTexts
import Derived.Test.YtfimoobgbodbmaaGreatDoorGRun
/-! run of the program's machine: its loop. -/
namespace Go.Proofs.YtfimoobgbodbmaaGreatDoor
open Go.RowKit Go.Lib
set_option linter.unusedVariables false
set_option maxRecDepth 100000

/-- How many are done, as the machine holds it. -/
def doneOf (b : Nat) (w : World) : Nat := match w.cell? ⟨b, 31, none⟩ with
  | some (.int _ n) => n.toNat
  | _ => 0
theorem doneOf_is {b d : Nat} {w : World} (h : w.cell? ⟨b, 31, none⟩ = some (.int .i64 d)) : doneOf b w = d := by unfold doneOf; rw [h]; simp
/-- What a run leaves. -/
def Ran (E : Fx) (R : Res) (e : Ending) (w' : World) : Prop := e = .returned (.int .i64 R.2.1) ∧ ∃ m i, VMac E m i R.2.2 w' ∧ (R.2.1 = 0 → m.told = R.1)
theorem Ran.shape {E : Fx} {R : Res} {e : Ending} {w : World} (h : Ran E R e w) : e = .returned (.int .i64 R.2.1) := h.1
/-- Only jumps go elsewhere, and where they say. -/
def NoGo (o : Out) : Prop := ∀ t m, o ≠ .goto t m
theorem nogo_push (m : St) (s out : List Val) : NoGo (push m s out) := by
  intro t m' h
  unfold push at h
  split at h
  · cases h
  · split at h <;> cases h
theorem nogo_next (m : St) : NoGo (.next m) := fun _ _ h => by cases h
theorem nogo_any1 (m : St) {f} (hf : ∀ a s, NoGo (f a s)) : NoGo (any1 m f) := by
  intro t m' h
  unfold any1 at h
  split at h
  · exact hf _ _ t m' h
  · cases h
theorem nogo_any2 (m : St) {f} (hf : ∀ a b s, NoGo (f a b s)) : NoGo (any2 m f) := by
  intro t m' h
  unfold any2 at h
  split at h
  · exact hf _ _ _ t m' h
  · cases h
theorem nogo_any3 (m : St) {f} (hf : ∀ a b c s, NoGo (f a b c s)) : NoGo (any3 m f) := by
  intro t m' h
  unfold any3 at h
  split at h
  · exact hf _ _ _ _ t m' h
  · cases h
theorem nogo_isN (v : Val) {f} (hf : ∀ a, NoGo (f a)) : NoGo (isN v f) := by
  intro t m' h
  unfold isN at h
  split at h
  · exact hf _ t m' h
  · cases h
theorem nogo_isT (v : Val) {f} (hf : ∀ a, NoGo (f a)) : NoGo (isT v f) := by
  intro t m' h
  unfold isT at h
  split at h
  · cases h
  · exact hf _ t m' h
theorem nogo_nn (m : St) (f) : NoGo (nn m f) := nogo_any2 m fun _ _ _ => nogo_isN _ fun _ => nogo_isN _ fun _ => nogo_push _ _ _
theorem nogo_emit (m : St) (k v s) : NoGo (emit m k v s) := by
  intro t m' h
  unfold emit at h
  split at h
  · cases h
  · split at h <;> cases h
theorem goto_if {m : St} {A t : Int} {m' : St} (h : (any1 m fun a s => isN a fun a => if a = 0 then .next { m with stack := s } else .goto A { m with stack := s }) = .goto t m') : t = A := by
  cases hst : m.stack with
  | nil => simp [any1, hst] at h
  | cons a s =>
    cases a with
    | text x => simp [any1, hst, isN] at h
    | num a =>
      simp only [any1, hst, isN] at h
      by_cases ha : a = 0
      · rw [if_pos ha] at h
        cases h
      · rw [if_neg ha] at h
        cases h
        rfl
theorem goto_step {key : ByteArray} {vals : List ByteArray} {x : Inst} {m m' : St} {t : Int} (h : step key vals x m = .goto t m') : t = x.2.1 ∧ (x.1.toNat = 19 ∨ x.1.toNat = 20) := by
  unfold step at h
  split at h
  · exact absurd h (nogo_push _ _ _ _ _)
  · exact absurd h (nogo_push _ _ _ _ _)
  · exact absurd h (nogo_any1 _ (fun _ _ => nogo_push _ _ _) _ _)
  · exact absurd h (nogo_any1 _ (fun _ _ => nogo_push _ _ _) _ _)
  · exact absurd h (nogo_any2 _ (fun _ _ _ => nogo_push _ _ _) _ _)
  · exact absurd h (nogo_push _ _ _ _ _)
  · split at h
    · exact absurd h (nogo_push _ _ _ _ _)
    · exact absurd h (nogo_push _ _ _ _ _)
  · exact absurd h (nogo_nn _ _ _ _)
  · exact absurd h (nogo_nn _ _ _ _)
  · exact absurd h (nogo_nn _ _ _ _)
  · exact absurd h (nogo_nn _ _ _ _)
  · exact absurd h (nogo_any2 _ (fun _ _ _ => nogo_push _ _ _) _ _)
  · exact absurd h (nogo_any2 _ (fun _ _ _ => nogo_isT _ fun _ => nogo_isT _ fun _ => nogo_push _ _ _) _ _)
  · exact absurd h (nogo_any1 _ (fun _ _ => nogo_isT _ fun _ => nogo_push _ _ _) _ _)
  · exact absurd h (nogo_any2 _ (fun _ _ _ => nogo_isT _ fun _ => nogo_isN _ fun _ => nogo_push _ _ _) _ _)
  · exact absurd h (nogo_any3 _ (fun _ _ _ _ => nogo_isT _ fun _ => nogo_isN _ fun _ => nogo_isN _ fun _ => nogo_push _ _ _) _ _)
  · exact absurd h (nogo_any1 _ (fun _ _ => nogo_isN _ fun _ => nogo_push _ _ _) _ _)
  · exact absurd h (nogo_any1 _ (fun _ _ => nogo_isT _ fun _ => nogo_push _ _ _) _ _)
  · cases h
    exact ⟨rfl, .inl (by assumption)⟩
  · exact ⟨goto_if h, .inr (by assumption)⟩
  · exact absurd h (nogo_push _ _ _ _ _)
  · exact absurd h (nogo_any1 _ (fun _ _ => nogo_next _) _ _)
  · exact absurd h (nogo_any2 _ (fun _ _ _ => nogo_isT _ fun _ => nogo_isT _ fun _ => nogo_emit _ _ _ _) _ _)
  · exact absurd h (nogo_next _ _ _)
theorem good_goto {x : Inst} {n : Int} (hg : good x n = true) (hx : x.1.toNat = 19 ∨ x.1.toNat = 20) : 0 ≤ x.2.1 ∧ x.2.1 ≤ n := by
  have := good_op hg
  exact good_jump (by unfold jumps; simp; omega) hg
variable {E : Fx} {m : St} {i : Int} {d : Nat} {w : World} {vals : List ByteArray} {l : List Inst}
def InvR (E : Fx) (l : List Inst) (vals : List ByteArray) (N : Nat) (R : Res) (wr : World) : Prop :=
  ∃ m k d, VMac E m ((k : Nat) : Int) d wr ∧ Ok vals m ∧ k ≤ l.length ∧ d ≤ N ∧ addD d (go l E.key vals (N - d) k m) = R

set_option maxHeartbeats 8000000 in
theorem runLoop (h : VMac E st0 0 0 w) (T : Tabs E.w0) (hvv : Txs E.w0 E.vv vals) (hfew : vals.length ≤ 1000) (hco : Co E.w0 E.vp l) (hmay : bad l < 0) (hI : ∀ x ∈ l, I64 x.2.1) (f : Int) (hf0 : 0 ≤ f) (hf1 : I64 f) :
    Calls Tryz.prog 121 #[.pointer (some ⟨E.b, 0, none⟩), .int .i64 f] w (Ran E (go l E.key vals (min f 2000).toNat 0 st0)) := by
  obtain ⟨hlen, hfine⟩ := (may_iff l).1 hmay
  obtain ⟨ao, ca, hvp, g1, g2, g3, g4⟩ := hco
  obtain ⟨N, hN⟩ : ∃ N : Nat, min f 2000 = (N : Int) := ⟨(min f 2000).toNat, by omega⟩
  rw [show (min f 2000).toNat = N by omega]
  generalize hR : go l E.key vals N 0 st0 = R
  have H0 := hid (show InvR E l vals N R w from ⟨st0, 0, 0, h, ok_st0 vals, by omega, by omega, by rw [addD_zero]; exact hR⟩)
  have hN2 : N ≤ 2000 := by omega
  clear hR h
  have hmin : min f 2000 = (N : Int) := hN
  go_enter Tryz.func121, Tryz.ntmps121
  go_wp2
  go_loopw [6] (fun _ wr => InvR E l vals N R wr) (fun _ wr => N - doneOf E.b wr)
  case atStart => exact H0.out
  case round =>
    clear H0
    obtain ⟨m, k, d, hm, ok, hk, hd, hgo⟩ := hrel
    obtain ⟨vs, vt, hv⟩ := hm
    have HV := hid hv
    have HG := hid hgo
    have c29 := hv.cN
    have c0 := hv.cP
    have c31 := hv.cD
    rw [hvp] at c0
    have HD := hid (doneOf_is c31)
    clear hv hgo
    by_cases hkl : k < l.length
    · have hd1 : decide ((k : Int) < (l.length : Int)) = true := by simp; omega
      go_wp2_with fail
      go_quiet (fail)
      have HV1 := hid (HV.out.on (below_drew wr nq))
      clear c0 c29 c31 HV
      generalize wr.drewN nq = W at HV1 ⊢
      have c31 := HV1.out.cD
      have f31 := HV1.out.free 31
      by_cases hdn : d < N
      · have hd2 : decide ((N : Int) ≤ (d : Int)) = false := by simp; omega
        have HV2 := hid (show VM E vs vt m (k : Int) (d + 1) (W.setCell ⟨E.b, 31, none⟩ (.int .i64 ((d : Int) + 1))) from HV1.out.done (d + 1))
        go_wp2_with fail
        clear c31 f31 HV1
        generalize W.setCell ⟨E.b, 31, none⟩ (.int .i64 ((d : Int) + 1)) = W2 at HV2 ⊢
        have c29 := HV2.out.cN
        have c0 := HV2.out.cP
        rw [hvp] at c0
        obtain ⟨pb, po, rfl, hpb, hpc⟩ := g4 (by intro e; rw [e] at hkl; simp at hkl)
        obtain ⟨p0, p1, p2⟩ := (hpc k hkl)
        have q0 := (HV2.out.bel.cell (p := ⟨pb, po + k * 3, none⟩) hpb).trans p0
        have q1 := (HV2.out.bel.cell (p := ⟨pb, po + k * 3 + 1, none⟩) hpb).trans p1
        have q2 := (HV2.out.bel.cell (p := ⟨pb, po + k * 3 + 2, none⟩) hpb).trans p2
        clear p0 p1 p2 hpc g4 g3
        have hgood := hfine k hkl
        generalize hx : l.getD k zInst = x at q0 q1 q2 hgood
        have HA := hid (HV2.out.on (alloc1 W2 (Obj.cells #[.int .i64 0, .int .i64 0, .string ⟨#[]⟩] 118)))
        have a29 : (W2.alloc (Obj.cells #[.int .i64 0, .int .i64 0, .string ⟨#[]⟩] 118)).cell? ⟨E.b, 29, none⟩ = some (.int .i64 (k : Int)) := HA.out.cN
        have a0 : (W2.alloc (Obj.cells #[.int .i64 0, .int .i64 0, .string ⟨#[]⟩] 118)).cell? ⟨E.b, 0, none⟩ = some (.slice (some ⟨pb, po, none⟩) l.length ca) := HA.out.cP.trans (by rw [hvp])
        have hpb2 : pb < W2.heap.size := Nat.lt_of_lt_of_le hpb HV2.out.bel.size
        have r0 := ((alloc1 W2 (Obj.cells #[.int .i64 0, .int .i64 0, .string ⟨#[]⟩] 118)).cell (p := ⟨pb, po + k * 3, none⟩) hpb2).trans q0
        have r1 := ((alloc1 W2 (Obj.cells #[.int .i64 0, .int .i64 0, .string ⟨#[]⟩] 118)).cell (p := ⟨pb, po + k * 3 + 1, none⟩) hpb2).trans q1
        have r2 := ((alloc1 W2 (Obj.cells #[.int .i64 0, .int .i64 0, .string ⟨#[]⟩] 118)).cell (p := ⟨pb, po + k * 3 + 2, none⟩) hpb2).trans q2
        clear HA
        go_region
        have HV3 := hid ((HV2.out.on (alloc1 W2 (Obj.cells #[.int .i64 x.1, .int .i64 x.2.1, .string x.2.2] 118))).on (drew1 _))
        have hq := HV2.out.lt
        have i0 : (W2.alloc (Obj.cells #[.int .i64 x.1, .int .i64 x.2.1, .string x.2.2] 118)).drew.cell? ⟨W2.heap.size, 0, none⟩ = some (.int .i64 x.1) := cell_of_cells (new_block W2 _)
        have i1 : (W2.alloc (Obj.cells #[.int .i64 x.1, .int .i64 x.2.1, .string x.2.2] 118)).drew.cell? ⟨W2.heap.size, 1, none⟩ = some (.int .i64 x.2.1) := cell_of_cells (new_block W2 _)
        have i2 : (W2.alloc (Obj.cells #[.int .i64 x.1, .int .i64 x.2.1, .string x.2.2] 118)).drew.cell? ⟨W2.heap.size, 2, none⟩ = some (.string x.2.2) := cell_of_cells (new_block W2 _)
        clear c29 c0 q0 q1 q2 a29 a0 r0 r1 r2 hpb2 HV2
        generalize (W2.alloc (Obj.cells #[.int .i64 x.1, .int .i64 x.2.1, .string x.2.2] 118)).drew = W3 at HV3 i0 i1 i2 ⊢
        generalize W2.heap.size = q at hq i0 i1 i2 ⊢
        have c29 := HV3.out.cN
        have f29 := HV3.out.free 29
        have HV4 := hid (show VM E vs vt m ((k : Int) + 1) (d + 1) (W3.setCell ⟨E.b, 29, none⟩ (.int .i64 ((k : Int) + 1))) from HV3.out.next ((k : Int) + 1))
        have j0 : (W3.setCell ⟨E.b, 29, none⟩ (.int .i64 ((k : Int) + 1))).cell? ⟨q, 0, none⟩ = some (.int .i64 x.1) := (World.cell?_of_block (w := W3) (Below.heap_setCell _ _ _ _ (by simp only; omega))).trans i0
        have j1 : (W3.setCell ⟨E.b, 29, none⟩ (.int .i64 ((k : Int) + 1))).cell? ⟨q, 1, none⟩ = some (.int .i64 x.2.1) := (World.cell?_of_block (w := W3) (Below.heap_setCell _ _ _ _ (by simp only; omega))).trans i1
        have j2 : (W3.setCell ⟨E.b, 29, none⟩ (.int .i64 ((k : Int) + 1))).cell? ⟨q, 2, none⟩ = some (.string x.2.2) := (World.cell?_of_block (w := W3) (Below.heap_setCell _ _ _ _ (by simp only; omega))).trans i2
        clear i0 i1 i2
        go_wp2_with fail
        clear c29 f29 j0 j1 j2 HV3
        generalize W3.setCell ⟨E.b, 29, none⟩ (.int .i64 ((k : Int) + 1)) = W4 at HV4 ⊢
        have HM := hid (show VMac E m ((k : Int) + 1) (d + 1) W4 from ⟨_, _, HV4.out⟩)
        clear HV4
        obtain ⟨n', hn'⟩ : ∃ n', N - d = n' + 1 := ⟨N - d - 1, by omega⟩
        have hn2 : N - (d + 1) = n' := by omega
        have hxl : x ∈ l := by rw [← hx, List.getD_eq_getElem?_getD, List.getElem?_eq_getElem hkl]; exact List.getElem_mem hkl
        by_cases hx0 : x.1 = 0
        · rw [hx0]
          have hend : addD (d + 1) (go l E.key vals (N - (d + 1)) l.length m) = R := by
            rw [← HG.out, hn', go_halt hkl (by rw [hx]; exact hx0), go_end (Nat.le_refl _)]
            simp [addD]
            omega
          refine (do_halt (i := (k : Int) + 1) HM.out ok x.2.1 x.2.2 hvp).mono ?_
          rintro e w5 ⟨rfl, hm5⟩
          have H5 := hid (show InvR E l vals N R w5 from ⟨m, l.length, d + 1, hm5, ok, Nat.le_refl _, by omega, hend⟩)
          obtain ⟨vs5, vt5, hv5⟩ := hm5
          have HD5 := hid (doneOf_is hv5.cD)
          clear hv5
          go_wp2
          go_roundw
          case rel => exact H5.out
          case measure => rw [HD5.out, HD.out]; omega
        · have hkeep := keeps_step (key := E.key) (hI x hxl) ok
          have hwhy := why_step E.key vals x m
          have hgt := fun t m' => @goto_step E.key vals x m m' t
          refine (do_any HM.out ok T hvv hfew x (l.length : Int) hgood hx0).mono ?_
          rintro e w5 hd5
          cases hs : step E.key vals x m with
          | stop r =>
            rw [hs] at hd5
            obtain ⟨rfl, m5, i5, hm5⟩ := hd5
            have hr := hwhy r hs
            have hend : R = ([], r, d + 1) := by
              rw [← HG.out, hn', go_stop hkl (by rw [hx]; exact hx0) (by rw [hx]; exact hs)]
              simp [addD]
              omega
            have HR := hid (show Ran E R (.returned (.int .i64 r)) w5 from ⟨by rw [hend], m5, i5, by rw [hend]; exact hm5, by rw [hend]; intro e; simp at e; omega⟩)
            have hrz : (r != 0) = true := by simp; omega
            have hrz2 : ¬ r = 0 := by omega
            clear hm5 hwhy hgt hkeep hend hr
            go_wp2
            go_ret
            exact HR.out
          | next m' =>
            rw [hs] at hd5 hkeep
            obtain ⟨rfl, hm5⟩ := hd5
            have hend : addD (d + 1) (go l E.key vals (N - (d + 1)) (k + 1) m') = R := by
              rw [← HG.out, hn', go_next hkl (by rw [hx]; exact hx0) (by rw [hx]; exact hs), addD_add, hn2, Nat.add_comm 1 d]
            have H5 := hid (show InvR E l vals N R w5 from ⟨m', k + 1, d + 1, hm5, hkeep, by omega, by omega, hend⟩)
            obtain ⟨vs5, vt5, hv5⟩ := hm5
            have HD5 := hid (doneOf_is hv5.cD)
            clear hv5 hwhy hgt
            go_wp2
            go_roundw
            case rel => exact H5.out
            case measure => rw [HD5.out, HD.out]; omega
          | goto t m' =>
            rw [hs] at hd5 hkeep
            obtain ⟨rfl, hm5⟩ := hd5
            obtain ⟨rfl, hj⟩ := hgt t m' hs
            have hb := good_goto hgood hj
            have hend : addD (d + 1) (go l E.key vals (N - (d + 1)) x.2.1.toNat m') = R := by
              rw [← HG.out, hn', go_goto hkl (by rw [hx]; exact hx0) (by rw [hx]; exact hs), addD_add, hn2, Nat.add_comm 1 d]
            have H5 := hid (show InvR E l vals N R w5 from ⟨m', x.2.1.toNat, d + 1, by rw [show ((x.2.1.toNat : Nat) : Int) = x.2.1 by omega]; exact hm5, hkeep, by omega, by omega, hend⟩)
            obtain ⟨vs5, vt5, hv5⟩ := hm5
            have HD5 := hid (doneOf_is hv5.cD)
            clear hv5 hwhy hgt
            go_wp2
            go_roundw
            case rel => exact H5.out
            case measure => rw [HD5.out, HD.out]; omega
      · have hd2 : decide ((N : Int) ≤ (d : Int)) = true := by simp; omega
        have hend : R = ([], 3, d) := by
          rw [← HG.out, show N - d = 0 by omega, go_out hkl]
          simp [addD]
        have HR := hid (show Ran E R (.returned (.int .i64 3)) W from ⟨by rw [hend], m, (k : Int), by rw [hend]; exact ⟨_, _, HV1.out⟩, by rw [hend]; intro e; simp at e⟩)
        go_wp2
        go_ret
        exact HR.out
    · have hd1 : decide ((k : Int) < (l.length : Int)) = false := by simp; omega
      have hend : R = (m.told, 0, d) := by
        rw [← HG.out, go_end (by omega)]
        simp [addD]
      go_wp2_with fail
      go_quiet (fail)
      have HR := hid (show Ran E R (.returned (.int .i64 0)) (wr.drewN nq) from ⟨by rw [hend], m, (k : Int), by rw [hend]; exact ⟨_, _, HV.out.on (below_drew wr nq)⟩, by rw [hend]; intro _; rfl⟩)
      go_wp2
      go_ret
      exact HR.out
end Go.Proofs.YtfimoobgbodbmaaGreatDoor
/-! great and first of chapter 6's statements. -/
namespace Go.Proofs.YtfimoobgbodbmaaGreatDoor
open Go.RowKit
set_option linter.unusedVariables false
set_option maxRecDepth 100000

/-- Is there more than is gone through? If not, there are no more than these. -/
def GreatVm (l : List Inst) (key : ByteArray) (vals : List ByteArray) (e : Ending) : Prop := ∃ g, e = .returned (.bool g) ∧ (g = false → l.length ≤ 60 ∧ key.size ≤ 100 ∧ vals.length ≤ 60)
end Go.Proofs.YtfimoobgbodbmaaGreatDoor
/-! What the statements of chapter 6 ask of vm.Run and vm.Steps, as one premise; and that their own first look passes. -/
namespace Go.Proofs.YtfimoobgbodbmaaGreatDoor
open Go.RowKit Go.Lib
set_option linter.unusedVariables false
set_option maxRecDepth 100000

/-- What is handed to a run: numbers of 64 bits, no more than any machine holds. -/
structure Fits (l : List Inst) (key : ByteArray) (vals : List ByteArray) : Prop where
  nums : ∀ x ∈ l, I64 x.2.1
  len : l.length ≤ 100
  key : key.size ≤ maxLen
  few : vals.length ≤ 1000
  vals : ∀ v ∈ vals, v.size ≤ maxLen
theorem own_prs {w : World} {base n : Nat} {x : Value} {ps : List Pr} (h : w.ownsRow base 105 2 x n (fl encP ps)) : Prs w x ps := Reads.own encP_len (by decide) h

abbrev kB : ByteArray := ⟨#[107]⟩
abbrev aB : ByteArray := ⟨#[97]⟩
abbrev bB : ByteArray := ⟨#[98]⟩
theorem small_len {s : ByteArray} (h : s.size ≤ 100) : s.size ≤ maxLen := by unfold maxLen; omega
theorem fits_first : Fits firstP kB [aB, bB] := ⟨by intro x hx; simp only [firstP, List.mem_cons, List.mem_nil_iff, or_false] at hx; rcases hx with rfl | rfl | rfl | rfl <;> exact i64_small (by simp) (by simp), by simp [firstP], small_len (by decide), by simp, by intro v hv; simp at hv; rcases hv with rfl | rfl <;> exact small_len (by decide)⟩
theorem fits_loop : Fits [(19, 0, e0)] kB [] := ⟨by intro x hx; simp at hx; subst hx; exact i64_small (by simp) (by simp), by simp, small_len (by decide), by simp, by simp⟩

end Go.Proofs.YtfimoobgbodbmaaGreatDoor
/-! vm.Run and vm.Steps are the machine's. -/
namespace Go.Proofs.YtfimoobgbodbmaaGreatDoor
open Go.RowKit Go.Lib
set_option linter.unusedVariables false
set_option maxRecDepth 100000

theorem start_cells (E : Fx) : VCells E (.slice none 0 0) (.slice none 0 0) st0 0 0 #[E.vp, .pointer (some ⟨E.kb, 0, none⟩), E.vv, .int .i64 0, .slice none 0 0, .bool false, .int .i64 0, .string ⟨#[]⟩, .bool false, .int .i64 0, .string ⟨#[]⟩, .bool false, .int .i64 0, .string ⟨#[]⟩, .bool false, .int .i64 0, .string ⟨#[]⟩, .bool false, .int .i64 0, .string ⟨#[]⟩, .bool false, .int .i64 0, .string ⟨#[]⟩, .bool false, .int .i64 0, .string ⟨#[]⟩, .bool false, .int .i64 0, .string ⟨#[]⟩, .int .i64 0, .slice none 0 0, .int .i64 0] := by
  refine ⟨rfl, rfl, rfl, rfl, rfl, rfl, ?_, rfl, rfl, rfl⟩
  intro k hk j u hu
  have hz : st0.regs.getD k (.num 0) = .num 0 := by
    have hc : k = 0 ∨ k = 1 ∨ k = 2 ∨ k = 3 ∨ k = 4 ∨ k = 5 ∨ k = 6 ∨ k = 7 := by omega
    rcases hc with rfl | rfl | rfl | rfl | rfl | rfl | rfl | rfl <;> rfl
  rw [hz] at hu
  have hj : j = 0 ∨ j = 1 ∨ j = 2 := by
    have := (List.getElem?_eq_some_iff.1 hu).1
    simp [encV] at this
    omega
  have hc : k = 0 ∨ k = 1 ∨ k = 2 ∨ k = 3 ∨ k = 4 ∨ k = 5 ∨ k = 6 ∨ k = 7 := by omega
  rcases hj with rfl | rfl | rfl <;> rcases hc with rfl | rfl | rfl | rfl | rfl | rfl | rfl | rfl <;> exact hu
theorem new_at {w : World} {k : Nat} (hk : w.heap.size = k) (o : Obj) : (w.alloc o).heap[k]? = some o := by
  subst hk
  exact new_block w o
/-- A new machine. -/
def Fresh (w0 : World) (key : ByteArray) (vp vv : Value) (e : Ending) (w' : World) : Prop :=
  ∃ E : Fx, E.w0 = w0 ∧ E.key = key ∧ E.vp = vp ∧ E.vv = vv ∧ e = .returned (.pointer (some ⟨E.b, 0, none⟩)) ∧ VMac E st0 0 0 w'
set_option maxHeartbeats 2000000 in
theorem newMachine_any (w0 w : World) (hb : Below w0.heap.size w0 w) (a1 : Option Addr) (n1 c1 : Nat) (key : ByteArray) (a2 : Option Addr) (n2 c2 : Nat) :
    Calls Tryz.prog 120 #[.slice a1 n1 c1, .string key, .slice a2 n2 c2] w (Fresh w0 key (.slice a1 n1 c1) (.slice a2 n2 c2)) := by
  have HB := hid hb
  clear hb
  have hmf : ∀ (fn : Fn) (first cap : Array Value) (w : World), (Instr.makeFunc fn first cap).run Tryz.prog w = .ok (.func fn first cap) w := fun _ _ _ _ => rfl
  go_enter Tryz.func120, Tryz.ntmps120
  go_wp2_with fail
  refine (lnew_fn _ _ _ _).mono ?_
  rintro e w1 ⟨rfl, rfl⟩
  go_wp2
  go_ret
  have hsz := HB.out.size
  refine ⟨⟨w0, w.heap.size + 2, w.heap.size + 1, w.heap.size, key, .slice a1 n1 c1, .slice a2 n2 c2⟩, rfl, rfl, rfl, rfl, rfl, .slice none 0 0, .slice none 0 0, ?_⟩
  refine ⟨below_then (below_then (below_then HB.out (alloc1 w _) hsz) (alloc1 _ _) (by simp; omega)) (alloc1 _ _) (by simp; omega), by simp only; omega, by simp only; omega, ⟨_, ?_, start_cells _⟩, .inl ⟨?_, ?_⟩, World.ownsRow_nil _ _ _ _, World.ownsRow_nil _ _ _ _⟩
  · exact new_at (by simp) _
  · exact ((alloc1 _ _).block _ (by simp)).trans (new_at (by simp) _)
  · exact ((alloc1 _ _).block _ (by simp; omega)).trans (((alloc1 _ _).block _ (by simp)).trans (new_at rfl _))
theorem vmMay_any (v : Value) (l : List Inst) (f : Int) (w : World) (hv : Co w v l) :
    Calls Tryz.prog 119 #[v, .int .i64 f] w fun e w' => e = .returned (.bool (decide (bad l < 0 ∧ 0 ≤ f))) ∧ Below w.heap.size w w' := by
  have H := hid (may_any v l w hv)
  clear hv
  by_cases h0 : 0 ≤ f
  · have e0 : decide (bad l < 0 ∧ 0 ≤ f) = decide (bad l < 0) := by simp [h0]
    rw [e0]
    have hd : decide ((0 : Int) ≤ f) = true := by simp; omega
    generalize decide (bad l < 0) = g at H ⊢
    go_enter Tryz.func119, Tryz.ntmps119
    go_wp2_with fail
    refine H.out.mono ?_
    rintro e w1 ⟨rfl, hb⟩
    have HB := hid hb
    clear hb
    go_wp2
    go_ret
    exact ⟨rfl, HB.out⟩
  · have e0 : decide (bad l < 0 ∧ 0 ≤ f) = false := by simp [h0]
    rw [e0]
    have hd : decide ((0 : Int) ≤ f) = false := by simp; omega
    clear H
    go_enter Tryz.func119, Tryz.ntmps119
    go_wp2
    go_ret
    exact ⟨rfl, Below.refl _ _⟩
set_option maxHeartbeats 2000000 in
theorem vmRun_any (w : World) (v u : Value) (l : List Inst) (key : ByteArray) (vals : List ByteArray) (f : Int) (T : Tabs w) (hv : Co w v l) (hu : Txs w u vals) (hF : Fits l key vals) (hf : I64 f) :
    Calls Tryz.prog 99 #[v, .string key, u, .int .i64 f] w fun e w' => ∃ x, e = .returned (.tuple #[x, .int .i64 (run l key vals f).2.1]) ∧ w'.ownsRow w.heap.size 105 2 x (run l key vals f).1.length (fl encP (run l key vals f).1) ∧ Below w.heap.size w w' := by
  have H := hid (vmMay_any v l f w hv)
  have HF := hid hF
  have HT := hid T
  have HV := hid hv
  have HU := hid hu
  obtain ⟨ao, ca, rfl, -, -, -, -⟩ := hv
  obtain ⟨bo, cb, rfl, -, -, -, -⟩ := hu
  clear hF T
  by_cases hm : bad l < 0 ∧ 0 ≤ f
  · have hr : run l key vals f = go l key vals (min f 2000).toNat 0 st0 := by unfold run; rw [if_pos hm]
    have HFA := hid (fair_run (key := key) (vals := vals) HF.out.nums f)
    have hd : decide (bad l < 0 ∧ 0 ≤ f) = true := by simpa using hm
    rw [hd] at H
    rw [hr] at HFA ⊢
    generalize hR : go l key vals (min f 2000).toNat 0 st0 = R at HFA ⊢
    have HR := hid hR
    clear hR hr hd
    have HM := hid hm
    clear hm
    go_enter Tryz.func99, Tryz.ntmps99
    go_wp2_with fail
    refine H.out.mono ?_
    rintro e w1 ⟨rfl, hb1⟩
    have HB1 := hid hb1
    clear hb1 H
    go_wp2_with fail
    refine (newMachine_any w w1 HB1.out _ _ _ _ _ _ _).mono ?_
    rintro e w2 ⟨E, rfl, rfl, hp, hu2, rfl, hm2⟩
    have HM2 := hid hm2
    have HP := hid hp
    have HU2 := hid hu2
    clear hm2 hp hu2
    go_wp2_with fail
    refine (runLoop (vals := vals) (l := l) HM2.out HT.out (by rw [HU2.out]; exact HU.out) HF.out.few (by rw [HP.out]; exact HV.out) HM.out.1 HF.out.nums f HM.out.2 hf).mono ?_
    rintro e w3 hr3
    rw [HR.out] at hr3
    obtain ⟨rfl, m3, i3, ⟨vs3, vt3, hv3⟩, ht3⟩ := hr3
    have HV3 := hid hv3
    have HT3 := hid ht3
    have c30 := hv3.cO
    obtain ⟨o0, o2, rfl⟩ := own_slice hv3.tl
    clear hv3 ht3
    by_cases hz : R.2.1 = 0
    · have hz2 : (R.2.1 != 0) = false := by simpa using hz
      have hto := HT3.out hz
      have HTL := hid HV3.out.tl
      rw [hto] at HTL
      have hz3 := hid hz
      rw [hto] at c30
      go_wp2
      go_ret2
      refine ⟨.slice o0 R.1.length o2, ?_, HTL.out, HV3.out.bel⟩
      rw [hz3.out]
      rfl
    · have hz2 : (R.2.1 != 0) = true := by simpa using hz
      have hnil := HFA.out.2.1 hz
      go_wp2
      go_ret2
      exact ⟨_, rfl, by rw [hnil]; exact World.ownsRow_nil _ _ _ _, HV3.out.bel⟩
  · have hr : run l key vals f = ([], 2, 0) := by unfold run; rw [if_neg hm]
    have hd : decide (bad l < 0 ∧ 0 ≤ f) = false := by simpa using hm
    rw [hd] at H
    rw [hr]
    clear hd hm hr
    go_enter Tryz.func99, Tryz.ntmps99
    go_wp2_with fail
    refine H.out.mono ?_
    rintro e w1 ⟨rfl, hb1⟩
    have HB1 := hid hb1
    clear hb1 H
    go_wp2
    go_ret2
    exact ⟨_, rfl, World.ownsRow_nil _ _ _ _, HB1.out⟩
end Go.Proofs.YtfimoobgbodbmaaGreatDoor
