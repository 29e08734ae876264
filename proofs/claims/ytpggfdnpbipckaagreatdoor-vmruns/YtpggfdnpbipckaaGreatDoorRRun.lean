/- run, Run and Steps of chapter 6's own answer. -/
import Derived.Test.YtpggfdnpbipckaaGreatDoorGStep
import Derived.Test.YtpggfdnpbipckaaGreatDoorVmAll
import Derived.Test.YtpggfdnpbipckaaGreatDoorNewStruct
import Derived.Deep.Cut
namespace Go.Proofs.YtpggfdnpbipckaaGreatDoor
open Go.RowKit Go.Lib
set_option linter.unusedVariables false
set_option maxRecDepth 100000

theorem ref_cells (key : ByteArray) (vv : Value) : Cells key vv (.slice none 0 0) (.slice none 0 0) st0 #[.slice none 0 0, .bool false, .int .i64 0, .string ⟨#[]⟩, .bool false, .int .i64 0, .string ⟨#[]⟩, .bool false, .int .i64 0, .string ⟨#[]⟩, .bool false, .int .i64 0, .string ⟨#[]⟩, .bool false, .int .i64 0, .string ⟨#[]⟩, .bool false, .int .i64 0, .string ⟨#[]⟩, .bool false, .int .i64 0, .string ⟨#[]⟩, .bool false, .int .i64 0, .string ⟨#[]⟩, .string key, vv, .int .i64 0, .slice none 0 0] := by
  refine ⟨rfl, rfl, ?_, rfl, rfl, rfl, rfl⟩
  intro k hk j u hu
  have hz : st0.regs.getD k (.num 0) = .num 0 := by
    have hc : k = 0 ∨ k = 1 ∨ k = 2 ∨ k = 3 ∨ k = 4 ∨ k = 5 ∨ k = 6 ∨ k = 7 := by omega
    rcases hc with rfl | rfl | rfl | rfl | rfl | rfl | rfl | rfl <;> rfl
  rw [hz] at hu
  have hj : j = 0 ∨ j = 1 ∨ j = 2 := by
    have := (List.getElem?_eq_some_iff.1 hu).1
    simp [encV] at this
    omega
  have hc : k = 0 ∨ k = 1 ∨ k = 2 ∨ k = 3 ∨ k = 4 ∨ k = 5 ∨ k = 6 ∨ k = 7 := by omega
  rcases hj with rfl | rfl | rfl <;> rcases hc with rfl | rfl | rfl | rfl | rfl | rfl | rfl | rfl <;> exact hu

/-- What run answers. -/
def RefRan (w : World) (R : Res) (e : Ending) (w' : World) : Prop := ∃ x, e = .returned (.tuple #[x, .int .i64 R.2.1, .int .i64 (R.2.2 : Int)]) ∧ w'.ownsRow w.heap.size 41 2 x R.1.length (fl encP R.1) ∧ Below w.heap.size w w'
def InvF (w0 : World) (b : Nat) (vv : Value) (l : List Inst) (key : ByteArray) (vals : List ByteArray) (N : Nat) (R : Res) (k d : Nat) (wr : World) : Prop :=
  ∃ m vs vt, Mac w0 b key vv vs vt m wr ∧ Ok vals m ∧ addD d (go l key vals (N - d) k m) = R

set_option maxHeartbeats 8000000 in
set_option maxRecDepth 100000 in
theorem refRun_any (w : World) (v u : Value) (l : List Inst) (key : ByteArray) (vals : List ByteArray) (f : Int) (hv : Co w v l) (hu : Txs w u vals) (hF : Fits l key vals) (hf : I64 f) :
    Calls Tryz.prog 29 #[v, .string key, u, .int .i64 f] w (RefRan w (run l key vals f)) := by
  have HBAD := hid (refBad_any v l w hv)
  have HF := hid hF
  have HU := hid hu
  have HV := hid hv
  obtain ⟨ao, ca, rfl, g1, g2, g3, g4⟩ := hv
  obtain ⟨bo, cb, rfl, -, -, -, -⟩ := hu
  clear hF
  by_cases hm : bad l < 0 ∧ 0 ≤ f
  · have hr : run l key vals f = go l key vals (min f 2000).toNat 0 st0 := by unfold run; rw [if_pos hm]
    rw [hr]
    obtain ⟨hm1, hm2⟩ := hm
    have hd1 : decide ((0 : Int) ≤ bad l) = false := by simp; omega
    have hd2 : decide (f < 0) = false := by simp; omega
    obtain ⟨hlen, hfine⟩ := (may_iff l).1 hm1
    have HFI := hid hfine
    obtain ⟨N, hN⟩ : ∃ N : Nat, min f 2000 = (N : Int) := ⟨(min f 2000).toNat, by omega⟩
    rw [show (min f 2000).toNat = N by omega]
    generalize hR : go l key vals N 0 st0 = R
    have HR := hid hR
    have hN2 : N ≤ 2000 := by omega
    clear hR hr hfine hm1
    go_enter Tryz.func29, Tryz.ntmps29
    go_wp2_with fail
    refine HBAD.out.mono ?_
    rintro e w1 ⟨rfl, hb1⟩
    have HB1 := hid hb1
    clear hb1 HBAD
    have hst := run_store_new (P := Tryz.prog) w1 69 #[.slice none 0 0, .bool false, .int .i64 0, .string ⟨#[]⟩, .bool false, .int .i64 0, .string ⟨#[]⟩, .bool false, .int .i64 0, .string ⟨#[]⟩, .bool false, .int .i64 0, .string ⟨#[]⟩, .bool false, .int .i64 0, .string ⟨#[]⟩, .bool false, .int .i64 0, .string ⟨#[]⟩, .bool false, .int .i64 0, .string ⟨#[]⟩, .bool false, .int .i64 0, .string ⟨#[]⟩, .string ⟨#[]⟩, .slice none 0 0, .int .i64 0, .slice none 0 0] #[.slice none 0 0, .bool false, .int .i64 0, .string ⟨#[]⟩, .bool false, .int .i64 0, .string ⟨#[]⟩, .bool false, .int .i64 0, .string ⟨#[]⟩, .bool false, .int .i64 0, .string ⟨#[]⟩, .bool false, .int .i64 0, .string ⟨#[]⟩, .bool false, .int .i64 0, .string ⟨#[]⟩, .bool false, .int .i64 0, .string ⟨#[]⟩, .bool false, .int .i64 0, .string ⟨#[]⟩, .string key, .slice bo vals.length cb, .int .i64 0, .slice none 0 0] rfl (by kernel_rfl) (by kernel_rfl)
    go_upto_region 3 with fail
    refine wp_region_list ?_
    refine wpList_ran rfl 23 rfl (.string key) w1 (by rfl) ?_
    refine wpList_ran rfl 24 rfl (.slice bo vals.length cb) w1 (by rfl) ?_
    refine wpList_ran rfl 25 rfl (.agg #[.slice none 0 0, .bool false, .int .i64 0, .string ⟨#[]⟩, .bool false, .int .i64 0, .string ⟨#[]⟩, .bool false, .int .i64 0, .string ⟨#[]⟩, .bool false, .int .i64 0, .string ⟨#[]⟩, .bool false, .int .i64 0, .string ⟨#[]⟩, .bool false, .int .i64 0, .string ⟨#[]⟩, .bool false, .int .i64 0, .string ⟨#[]⟩, .bool false, .int .i64 0, .string ⟨#[]⟩, .string key, .slice bo vals.length cb, .int .i64 0, .slice none 0 0]) w1 (by kernel_rfl) ?_
    refine wpList_ran rfl 11 rfl (.pointer (some ⟨w1.heap.size, 0, none⟩)) (w1.alloc (.cells #[.slice none 0 0, .bool false, .int .i64 0, .string ⟨#[]⟩, .bool false, .int .i64 0, .string ⟨#[]⟩, .bool false, .int .i64 0, .string ⟨#[]⟩, .bool false, .int .i64 0, .string ⟨#[]⟩, .bool false, .int .i64 0, .string ⟨#[]⟩, .bool false, .int .i64 0, .string ⟨#[]⟩, .bool false, .int .i64 0, .string ⟨#[]⟩, .bool false, .int .i64 0, .string ⟨#[]⟩, .string ⟨#[]⟩, .slice none 0 0, .int .i64 0, .slice none 0 0] 69)) (by kernel_rfl) ?_
    simp only [Act.put, List.setIfInBounds_toArray, List.set_cons_zero, List.set_cons_succ]
    refine wpList_stored rfl _ _ _ rfl rfl _ hst ?_
    clear hst
    have HM := hid (show Mac w w1.heap.size key (.slice bo vals.length cb) (.slice none 0 0) (.slice none 0 0) st0 (w1.alloc (.cells #[.slice none 0 0, .bool false, .int .i64 0, .string ⟨#[]⟩, .bool false, .int .i64 0, .string ⟨#[]⟩, .bool false, .int .i64 0, .string ⟨#[]⟩, .bool false, .int .i64 0, .string ⟨#[]⟩, .bool false, .int .i64 0, .string ⟨#[]⟩, .bool false, .int .i64 0, .string ⟨#[]⟩, .bool false, .int .i64 0, .string ⟨#[]⟩, .bool false, .int .i64 0, .string ⟨#[]⟩, .string key, .slice bo vals.length cb, .int .i64 0, .slice none 0 0] 69)) from ⟨below_then HB1.out (alloc1 w1 _) HB1.out.size, HB1.out.size, ⟨_, new_block _ _, ref_cells _ _⟩, World.ownsRow_nil _ _ _ _, World.ownsRow_nil _ _ _ _⟩)
    generalize w1.alloc (.cells #[.slice none 0 0, .bool false, .int .i64 0, .string ⟨#[]⟩, .bool false, .int .i64 0, .string ⟨#[]⟩, .bool false, .int .i64 0, .string ⟨#[]⟩, .bool false, .int .i64 0, .string ⟨#[]⟩, .bool false, .int .i64 0, .string ⟨#[]⟩, .bool false, .int .i64 0, .string ⟨#[]⟩, .bool false, .int .i64 0, .string ⟨#[]⟩, .bool false, .int .i64 0, .string ⟨#[]⟩, .string key, .slice bo vals.length cb, .int .i64 0, .slice none 0 0] 69) = W at HM ⊢
    generalize w1.heap.size = b at HM ⊢
    have H0 := hid (show InvF w b (.slice bo vals.length cb) l key vals N R 0 0 W from ⟨st0, _, _, HM.out, ok_st0 vals, by rw [addD_zero]; exact HR.out⟩)
    clear HM HR HB1
    go_wp2
    go_loopw [8, 9, 10, 12, 13] (fun _ _ _ a c wr => ∃ k d : Nat, k ≤ l.length ∧ d ≤ N ∧ a = .int .i64 k ∧ c = .int .i64 d ∧ InvF w b (.slice bo vals.length cb) l key vals N R k d wr) (fun _ _ _ _ c _ => N - (Go.RowKit.intOf c).toNat)
    case atStart => exact ⟨0, 0, by omega, by omega, rfl, rfl, H0.out⟩
    case round =>
      clear H0
      obtain ⟨k, d, hkn, hdn, rfl, rfl, m, vs, vt, hm, ok, hgo⟩ := hrel
      have HM := hid hm
      have HG := hid hgo
      have OK := hid ok
      clear hm hgo ok
      by_cases hkl : k < l.length
      · have hd3 : decide ((k : Int) < (l.length : Int)) = true := by simp; omega
        by_cases hdl : d < N
        · have hd4 : decide ((N : Int) ≤ (d : Int)) = false := by simp; omega
          obtain ⟨pb, po, rfl, hpb, hpc⟩ := g4 (by intro e; rw [e] at hkl; simp at hkl)
          obtain ⟨p0, p1, p2⟩ := (hpc k hkl)
          have q0 := (HM.out.bel.cell (p := ⟨pb, po + k * 3, none⟩) hpb).trans p0
          have q1 := (HM.out.bel.cell (p := ⟨pb, po + k * 3 + 1, none⟩) hpb).trans p1
          have q2 := (HM.out.bel.cell (p := ⟨pb, po + k * 3 + 2, none⟩) hpb).trans p2
          have hgood := HFI.out k hkl
          clear p0 p1 p2 hpc g4 g3
          generalize hx : l.getD k zInst = x at q0 q1 q2 hgood
          have HX := hid hx
          have HGD := hid hgood
          have HI := hid (HF.out.nums x (by rw [← hx, List.getD_eq_getElem?_getD, List.getElem?_eq_getElem hkl]; exact List.getElem_mem hkl))
          clear hx hgood
          obtain ⟨n', hn'⟩ : ∃ n', N - d = n' + 1 := ⟨N - d - 1, by omega⟩
          have HN' := hid (And.intro hn' (show N - (d + 1) = n' by omega))
          clear hn'
          by_cases hx0 : x.1 = 0
          · have HE := hid (show R = (m.told, 0, d + 1) from by
              rw [← HG.out, HN'.out.1, go_halt hkl (by rw [HX.out]; exact hx0)]
              simp [addD]
              omega)
            obtain ⟨t0, tc, rfl⟩ := own_slice HM.out.tl
            have c28 := HM.out.cP
            go_wp2
            go_ret3
            exact ⟨.slice t0 m.told.length tc, by rw [HE.out]; rfl, by rw [HE.out]; exact HM.out.tl, HM.out.bel⟩
          · have hx1 : (x.1 == 0) = false := by simpa using hx0
            have HS := hid (rstep_any (n := (l.length : Int)) HM.out OK.out HU.out (by have := HF.out.few; omega) x HGD.out hx0)
            have HKEEP := hid (keeps_step (key := key) HI.out OK.out)
            go_wp2_with fail
            refine HS.out.mono ?_
            rintro e w5 hd5
            cases hs : step key vals x m with
            | stop r =>
              rw [hs] at hd5
              obtain ⟨rfl, hr, hb5⟩ := hd5
              have HE := hid (show R = ([], r, d + 1) from by
                rw [← HG.out, HN'.out.1, go_stop hkl (by rw [HX.out]; exact hx0) (by rw [HX.out]; exact hs)]
                simp [addD]
                omega)
              have HB5 := hid hb5
              have hrz : (r != 0) = true := by simpa using hr
              clear hb5 hs
              go_wp2
              go_ret3
              exact ⟨_, by rw [HE.out]; rfl, by rw [HE.out]; exact World.ownsRow_nil _ _ _ _, HB5.out⟩
            | next m' =>
              rw [hs] at hd5 HKEEP
              obtain ⟨rfl, vs5, vt5, hm5⟩ := hd5
              have H5 := hid (show InvF w b (.slice bo vals.length cb) l key vals N R (k + 1) (d + 1) w5 from ⟨m', vs5, vt5, hm5, HKEEP.out, by
                rw [← HG.out, HN'.out.1, go_next hkl (by rw [HX.out]; exact hx0) (by rw [HX.out]; exact hs), addD_add, HN'.out.2, Nat.add_comm 1 d]⟩)
              clear hm5 hs
              go_wp2
              go_roundw
              case rel => exact ⟨k + 1, d + 1, by omega, by omega, by go_num, by go_num, H5.out⟩
              case measure => simp [Go.RowKit.intOf]; omega
            | goto t m' =>
              rw [hs] at hd5 HKEEP
              obtain ⟨rfl, vs5, vt5, hm5⟩ := hd5
              obtain ⟨rfl, hj⟩ := goto_step hs
              have hb := good_goto HGD.out hj
              obtain ⟨t, ht⟩ : ∃ t : Nat, x.2.1 = t := ⟨x.2.1.toNat, by omega⟩
              have H5 := hid (show InvF w b (.slice bo vals.length cb) l key vals N R t (d + 1) w5 from ⟨m', vs5, vt5, hm5, HKEEP.out, by
                rw [← HG.out, HN'.out.1, go_goto hkl (by rw [HX.out]; exact hx0) (by rw [HX.out]; exact hs), addD_add, HN'.out.2, Nat.add_comm 1 d, ht, Int.toNat_natCast]⟩)
              have htl : t ≤ l.length := by omega
              rw [ht]
              clear hm5 hs hj hb ht
              go_wp2
              go_roundw
              case rel => exact ⟨t, d + 1, by omega, by omega, rfl, by go_num, H5.out⟩
              case measure => simp [Go.RowKit.intOf]; omega
        · have hd4 : decide ((N : Int) ≤ (d : Int)) = true := by simp; omega
          have HE := hid (show R = ([], 3, d) from by
            rw [← HG.out, show N - d = 0 by omega, go_out hkl]
            simp [addD])
          go_wp2
          go_ret3
          exact ⟨_, by rw [HE.out]; rfl, by rw [HE.out]; exact World.ownsRow_nil _ _ _ _, HM.out.bel⟩
      · have hd3 : decide ((k : Int) < (l.length : Int)) = false := by simp; omega
        have HE := hid (show R = (m.told, 0, d) from by
          rw [← HG.out, go_end (by omega)]
          simp [addD])
        obtain ⟨t0, tc, rfl⟩ := own_slice HM.out.tl
        have c28 := HM.out.cP
        go_wp2
        go_ret3
        exact ⟨.slice t0 m.told.length tc, by rw [HE.out]; rfl, by rw [HE.out]; exact HM.out.tl, HM.out.bel⟩
  · have hr : run l key vals f = ([], 2, 0) := by unfold run; rw [if_neg hm]
    rw [hr]
    clear hr g4 g3
    by_cases hb : bad l < 0
    · have hd1 : decide ((0 : Int) ≤ bad l) = false := by simp; omega
      have hd2 : decide (f < 0) = true := by simp; omega
      go_enter Tryz.func29, Tryz.ntmps29
      go_wp2_with fail
      refine HBAD.out.mono ?_
      rintro e w1 ⟨rfl, hb1⟩
      have HB1 := hid hb1
      clear hb1 HBAD
      go_wp2
      go_ret3
      exact ⟨_, rfl, World.ownsRow_nil _ _ _ _, HB1.out⟩
    · have hd1 : decide ((0 : Int) ≤ bad l) = true := by simp; omega
      go_enter Tryz.func29, Tryz.ntmps29
      go_wp2_with fail
      refine HBAD.out.mono ?_
      rintro e w1 ⟨rfl, hb1⟩
      have HB1 := hid hb1
      clear hb1 HBAD
      go_wp2
      go_ret3
      exact ⟨_, rfl, World.ownsRow_nil _ _ _ _, HB1.out⟩
theorem refRunTells (w : World) (v u : Value) (l : List Inst) (key : ByteArray) (vals : List ByteArray) (f : Int) (hv : Co w v l) (hu : Txs w u vals) (hF : Fits l key vals) (hf : I64 f) :
    Calls Tryz.prog 14 #[v, .string key, u, .int .i64 f] w fun e w' => ∃ x, e = .returned (.tuple #[x, .int .i64 (run l key vals f).2.1]) ∧ w'.ownsRow w.heap.size 41 2 x (run l key vals f).1.length (fl encP (run l key vals f).1) ∧ Below w.heap.size w w' := by
  have H := hid (refRun_any w v u l key vals f hv hu hF hf)
  clear hv hu hF
  generalize run l key vals f = R at H ⊢
  go_enter Tryz.func14, Tryz.ntmps14
  go_wp2_with fail
  refine H.out.mono ?_
  rintro e w1 ⟨x, rfl, ho, hb⟩
  have HO := hid ho
  have HB := hid hb
  clear ho hb
  go_wp2
  go_ret2
  exact ⟨_, rfl, HO.out, HB.out⟩
theorem refRunCounts (w : World) (v u : Value) (l : List Inst) (key : ByteArray) (vals : List ByteArray) (f : Int) (hv : Co w v l) (hu : Txs w u vals) (hF : Fits l key vals) (hf : I64 f) :
    Calls Tryz.prog 17 #[v, .string key, u, .int .i64 f] w fun e w' => e = .returned (.int .i64 ((run l key vals f).2.2 : Int)) ∧ Below w.heap.size w w' := by
  have H := hid (refRun_any w v u l key vals f hv hu hF hf)
  clear hv hu hF
  generalize run l key vals f = R at H ⊢
  go_enter Tryz.func17, Tryz.ntmps17
  go_wp2_with fail
  refine H.out.mono ?_
  rintro e w1 ⟨x, rfl, ho, hb⟩
  have HB := hid hb
  clear ho hb
  go_wp2
  go_ret
  exact ⟨rfl, HB.out⟩
end Go.Proofs.YtpggfdnpbipckaaGreatDoor
