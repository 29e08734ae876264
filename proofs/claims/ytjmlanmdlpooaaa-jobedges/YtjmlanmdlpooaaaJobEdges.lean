/- JobEdges: with one bound passed a job that may be may not be any more; at the bound it may. -/
import Derived.Test.YtjmlanmdlpooaaaJEdge
namespace Go.Proofs.Ytjmlanmdlpooaaa
open Go.RowKit
set_option linter.unusedVariables false

set_option maxRecDepth 100000 in
set_option maxHeartbeats 24000000 in
theorem jobEdges_main (c : CfgV) (so mo co ro ko : Option Addr) (sc mc cc rc kc : Nat) (which : Int) (w : World) (h : JobIs w so mo co ro ko sc mc cc rc kc c.job) :
    Calls Try.prog 5 #[.agg #[.slice so c.job.splits.length sc, .int .i64 c.job.parts, .slice mo c.job.mp.length mc, .slice co c.job.cb.length cc, .slice ro c.job.rd.length rc, .int .i64 c.job.chunk, .int .i64 c.job.window, .int .i64 c.job.fuel, .slice ko c.job.marks.length kc, .int .i64 c.workers, .int .i64 c.tries, .int .i64 c.timeout], .int .i64 which] w fun e w' => e = .returned (.bool true) ∧ Below w.heap.size w w' := by
  have HF := hid (Hj.new w c h)
  have HF0 := hid (Hj.new w c h)
  have HB0 := hid (Below.refl (w.alloc (.cells #[.slice so c.job.splits.length sc, .int .i64 c.job.parts, .slice mo c.job.mp.length mc, .slice co c.job.cb.length cc, .slice ro c.job.rd.length rc, .int .i64 c.job.chunk, .int .i64 c.job.window, .int .i64 c.job.fuel, .slice ko c.job.marks.length kc, .int .i64 c.workers, .int .i64 c.tries, .int .i64 c.timeout] 28)).heap.size (w.alloc (.cells #[.slice so c.job.splits.length sc, .int .i64 c.job.parts, .slice mo c.job.mp.length mc, .slice co c.job.cb.length cc, .slice ro c.job.rd.length rc, .int .i64 c.job.chunk, .int .i64 c.job.window, .int .i64 c.job.fuel, .slice ko c.job.marks.length kc, .int .i64 c.workers, .int .i64 c.tries, .int .i64 c.timeout] 28)))
  clear h
  go_enter Try.func5, Try.ntmps5
  go_wp2_with fail
  refine (greatJob_any c.job so mo co ro ko sc mc cc rc kc _ HF.out.job).mono ?_
  rintro e w1 ⟨⟨g, rfl⟩, hb1⟩
  replace HF := hid (HF.out.on hb1)
  replace HB0 := hid (below_then HB0.out hb1 HB0.out.size)
  clear hb1
  cases g
  case' true =>
    go_wp2_with fail
    refine (awake_calls _).mono ?_
    rintro e w2 ⟨rfl, hb2⟩
    replace HF := hid (HF.out.on hb2)
    clear hb2
    go_wp2
    go_ret
    exact ⟨rfl, HF.out.below⟩
  obtain ⟨c0, c1, c2, c3, c4, c5, c6, c7, c8, c9, c10, c11⟩ := HF.out.eqs
  go_wp2_with fail
  refine (mayConfig_any c so mo co ro ko sc mc cc rc kc _ HF.out.job).mono ?_
  rintro e w2 ⟨rfl, hb2⟩
  replace HF := hid (HF.out.on hb2)
  replace HB0 := hid (below_then HB0.out hb2 HB0.out.size)
  clear hb2 c0 c1 c2 c3 c4 c5 c6 c7 c8 c9 c10 c11
  obtain ⟨gm, hgm⟩ : ∃ g, mayC c = g := ⟨_, rfl⟩
  have HM := hid hgm
  rw [hgm]
  clear hgm
  cases gm
  case' false =>
    go_wp2_with fail
    refine (awake_calls _).mono ?_
    rintro e w3 ⟨rfl, hb3⟩
    replace HF := hid (HF.out.on hb3)
    clear hb3
    go_wp2
    go_ret
    exact ⟨rfl, HF.out.below⟩
  generalize w.alloc (.cells #[.slice so c.job.splits.length sc, .int .i64 c.job.parts, .slice mo c.job.mp.length mc, .slice co c.job.cb.length cc, .slice ro c.job.rd.length rc, .int .i64 c.job.chunk, .int .i64 c.job.window, .int .i64 c.job.fuel, .slice ko c.job.marks.length kc, .int .i64 c.workers, .int .i64 c.tries, .int .i64 c.timeout] 28) = w0 at HF0 HB0
  have hA3 : w.heap.size < w2.heap.size := HF.out.la
  generalize w.heap.size = A at HF HF0 hA3 ⊢
  have hA1 : w2.heap.size ≠ A := by omega
  have hA2 : w2.heap.size + 1 ≠ A := by omega
  obtain ⟨c0, c1, c2, c3, c4, c5, c6, c7, c8, c9, c10, c11⟩ := HF.out.eqs
  obtain ⟨hTa, hTb⟩ := Two.new HB0.out #[.slice so c.job.splits.length sc, .int .i64 c.job.parts, .slice mo c.job.mp.length mc, .slice co c.job.cb.length cc, .slice ro c.job.rd.length rc, .int .i64 c.job.chunk, .int .i64 c.job.window, .int .i64 c.job.fuel, .slice ko c.job.marks.length kc, .int .i64 c.workers, .int .i64 c.tries, .int .i64 c.timeout]
  have HTa := hid hTa
  have HTb := hid hTb
  clear hA3 hTa hTb
  go_wp2_with fail
  go_region_held3 (fun w' => w'.cell? ⟨A, 0, none⟩ = some (.slice so c.job.splits.length sc) ∧ w'.cell? ⟨A, 1, none⟩ = some (.int .i64 c.job.parts) ∧ w'.cell? ⟨A, 2, none⟩ = some (.slice mo c.job.mp.length mc) ∧ w'.cell? ⟨A, 3, none⟩ = some (.slice co c.job.cb.length cc) ∧ w'.cell? ⟨A, 4, none⟩ = some (.slice ro c.job.rd.length rc) ∧ w'.cell? ⟨A, 5, none⟩ = some (.int .i64 c.job.chunk) ∧ w'.cell? ⟨A, 6, none⟩ = some (.int .i64 c.job.window) ∧ w'.cell? ⟨A, 7, none⟩ = some (.int .i64 c.job.fuel) ∧ w'.cell? ⟨A, 8, none⟩ = some (.slice ko c.job.marks.length kc) ∧ w'.cell? ⟨A, 9, none⟩ = some (.int .i64 c.workers) ∧ w'.cell? ⟨A, 10, none⟩ = some (.int .i64 c.tries) ∧ w'.cell? ⟨A, 11, none⟩ = some (.int .i64 c.timeout)) (go_keep) (fail)
  have HT := HTa
  clear HTa HTb hA1 hA2 c0 c1 c2 c3 c4 c5 c6 c7 c8 c9 c10 c11 HB0 HF
  generalize ((w2.alloc (.cells #[.slice so c.job.splits.length sc, .int .i64 c.job.parts, .slice mo c.job.mp.length mc, .slice co c.job.cb.length cc, .slice ro c.job.rd.length rc, .int .i64 c.job.chunk, .int .i64 c.job.window, .int .i64 c.job.fuel, .slice ko c.job.marks.length kc, .int .i64 c.workers, .int .i64 c.tries, .int .i64 c.timeout] 28)).alloc (.cells #[.slice so c.job.splits.length sc, .int .i64 c.job.parts, .slice mo c.job.mp.length mc, .slice co c.job.cb.length cc, .slice ro c.job.rd.length rc, .int .i64 c.job.chunk, .int .i64 c.job.window, .int .i64 c.job.fuel, .slice ko c.job.marks.length kc, .int .i64 c.workers, .int .i64 c.tries, .int .i64 c.timeout] 28)).drew = w3 at HT ⊢
  generalize w2.heap.size + 1 = E at HT ⊢
  generalize w2.heap.size = D at HT ⊢
  rotate_left
  have HT := HTb
  clear HTa HTb hA1 hA2 c0 c1 c2 c3 c4 c5 c6 c7 c8 c9 c10 c11 HB0 HF
  generalize ((w2.alloc (.cells #[.slice so c.job.splits.length sc, .int .i64 c.job.parts, .slice mo c.job.mp.length mc, .slice co c.job.cb.length cc, .slice ro c.job.rd.length rc, .int .i64 c.job.chunk, .int .i64 c.job.window, .int .i64 c.job.fuel, .slice ko c.job.marks.length kc, .int .i64 c.workers, .int .i64 c.tries, .int .i64 c.timeout] 28)).alloc (.cells #[.slice so c.job.splits.length sc, .int .i64 c.job.parts, .slice mo c.job.mp.length mc, .slice co c.job.cb.length cc, .slice ro c.job.rd.length rc, .int .i64 c.job.chunk, .int .i64 c.job.window, .int .i64 c.job.fuel, .slice ko c.job.marks.length kc, .int .i64 c.workers, .int .i64 c.tries, .int .i64 c.timeout] 28)).drew = w3 at HT ⊢
  generalize w2.heap.size + 1 = D at HT ⊢
  generalize w2.heap.size = E at HT ⊢
  rotate_left
  all_goals
    go_wp2_with fail
    refine (low_calls which 8 (by omega) (by omega) _).mono ?_
    rintro e w3 ⟨rfl, rfl⟩
    obtain ⟨K, hK, hK8⟩ := low_nat which 8 (by omega)
    rw [show low which 8 = (K : Int) from hK]
    clear hK
    rcases (show K = 0 ∨ K = 1 ∨ K = 2 ∨ K = 3 ∨ K = 4 ∨ K = 5 ∨ K = 6 ∨ K = 7 by omega) with rfl | rfl | rfl | rfl | rfl | rfl | rfl | rfl
    · have HP := hid ((HT.out.putD 1 (.int .i64 4)).putE 1 (.int .i64 5))
      have hDE : D ≠ E := HT.out.ne
      have hED : E ≠ D := fun h => hDE h.symm
      have d0 := HT.out.atD 0 _ rfl
      have e0 := HT.out.atE 0 _ rfl
      have d1 := HT.out.atD 1 _ rfl
      have e1 := HT.out.atE 1 _ rfl
      have d2 := HT.out.atD 2 _ rfl
      have e2 := HT.out.atE 2 _ rfl
      have d3 := HT.out.atD 3 _ rfl
      have e3 := HT.out.atE 3 _ rfl
      have d4 := HT.out.atD 4 _ rfl
      have e4 := HT.out.atE 4 _ rfl
      have d5 := HT.out.atD 5 _ rfl
      have e5 := HT.out.atE 5 _ rfl
      have d6 := HT.out.atD 6 _ rfl
      have e6 := HT.out.atE 6 _ rfl
      have d7 := HT.out.atD 7 _ rfl
      have e7 := HT.out.atE 7 _ rfl
      have d8 := HT.out.atD 8 _ rfl
      have e8 := HT.out.atE 8 _ rfl
      have d9 := HT.out.atD 9 _ rfl
      have e9 := HT.out.atE 9 _ rfl
      have d10 := HT.out.atD 10 _ rfl
      have e10 := HT.out.atE 10 _ rfl
      have d11 := HT.out.atD 11 _ rfl
      have e11 := HT.out.atE 11 _ rfl
      have fd := free_of_cells (j := 1) HT.out.bd
      have fe := free_of_cells (j := 1) HT.out.be
      go_wp2_with fail
      refine (mayConfig_any { c with job := { c.job with parts := 4 } } so mo co ro ko sc mc cc rc kc _ ((HF0.out.job.below HP.out.bel).other rfl rfl rfl rfl rfl)).mono ?_
      rintro e w5 ⟨rfl, hb5⟩
      replace HP := hid (HP.out.on hb5)
      clear hb5 hDE hED fd fe d0 e0 d1 e1 d2 e2 d3 e3 d4 e4 d5 e5 d6 e6 d7 e7 d8 e8 d9 e9 d10 e10 d11 e11
      rw [edgeD0 HM.out]
      have e0 := HP.out.atE 0 _ rfl
      have e1 := HP.out.atE 1 _ rfl
      have e2 := HP.out.atE 2 _ rfl
      have e3 := HP.out.atE 3 _ rfl
      have e4 := HP.out.atE 4 _ rfl
      have e5 := HP.out.atE 5 _ rfl
      have e6 := HP.out.atE 6 _ rfl
      have e7 := HP.out.atE 7 _ rfl
      have e8 := HP.out.atE 8 _ rfl
      have e9 := HP.out.atE 9 _ rfl
      have e10 := HP.out.atE 10 _ rfl
      have e11 := HP.out.atE 11 _ rfl
      go_wp2_with fail
      refine (mayConfig_any { c with job := { c.job with parts := 5 } } so mo co ro ko sc mc cc rc kc _ ((HF0.out.job.below HP.out.bel).other rfl rfl rfl rfl rfl)).mono ?_
      rintro e w6 ⟨rfl, hb6⟩
      replace HP := hid (HP.out.on hb6)
      clear hb6 e0 e1 e2 e3 e4 e5 e6 e7 e8 e9 e10 e11
      rw [edgeE0 c]
      go_wp2_with fail
      refine (awake_calls _).mono ?_
      rintro e w7 ⟨rfl, hb7⟩
      replace HP := hid (HP.out.on hb7)
      clear hb7
      have HR := hid (HF0.out.on HP.out.bel)
      go_wp2
      go_ret
      exact ⟨rfl, HR.out.below⟩
    · have HP := hid ((HT.out.putD 5 (.int .i64 7)).putE 5 (.int .i64 8))
      have hDE : D ≠ E := HT.out.ne
      have hED : E ≠ D := fun h => hDE h.symm
      have d0 := HT.out.atD 0 _ rfl
      have e0 := HT.out.atE 0 _ rfl
      have d1 := HT.out.atD 1 _ rfl
      have e1 := HT.out.atE 1 _ rfl
      have d2 := HT.out.atD 2 _ rfl
      have e2 := HT.out.atE 2 _ rfl
      have d3 := HT.out.atD 3 _ rfl
      have e3 := HT.out.atE 3 _ rfl
      have d4 := HT.out.atD 4 _ rfl
      have e4 := HT.out.atE 4 _ rfl
      have d5 := HT.out.atD 5 _ rfl
      have e5 := HT.out.atE 5 _ rfl
      have d6 := HT.out.atD 6 _ rfl
      have e6 := HT.out.atE 6 _ rfl
      have d7 := HT.out.atD 7 _ rfl
      have e7 := HT.out.atE 7 _ rfl
      have d8 := HT.out.atD 8 _ rfl
      have e8 := HT.out.atE 8 _ rfl
      have d9 := HT.out.atD 9 _ rfl
      have e9 := HT.out.atE 9 _ rfl
      have d10 := HT.out.atD 10 _ rfl
      have e10 := HT.out.atE 10 _ rfl
      have d11 := HT.out.atD 11 _ rfl
      have e11 := HT.out.atE 11 _ rfl
      have fd := free_of_cells (j := 5) HT.out.bd
      have fe := free_of_cells (j := 5) HT.out.be
      go_wp2_with fail
      refine (mayConfig_any { c with job := { c.job with chunk := 7 } } so mo co ro ko sc mc cc rc kc _ ((HF0.out.job.below HP.out.bel).other rfl rfl rfl rfl rfl)).mono ?_
      rintro e w5 ⟨rfl, hb5⟩
      replace HP := hid (HP.out.on hb5)
      clear hb5 hDE hED fd fe d0 e0 d1 e1 d2 e2 d3 e3 d4 e4 d5 e5 d6 e6 d7 e7 d8 e8 d9 e9 d10 e10 d11 e11
      rw [edgeD1 HM.out]
      have e0 := HP.out.atE 0 _ rfl
      have e1 := HP.out.atE 1 _ rfl
      have e2 := HP.out.atE 2 _ rfl
      have e3 := HP.out.atE 3 _ rfl
      have e4 := HP.out.atE 4 _ rfl
      have e5 := HP.out.atE 5 _ rfl
      have e6 := HP.out.atE 6 _ rfl
      have e7 := HP.out.atE 7 _ rfl
      have e8 := HP.out.atE 8 _ rfl
      have e9 := HP.out.atE 9 _ rfl
      have e10 := HP.out.atE 10 _ rfl
      have e11 := HP.out.atE 11 _ rfl
      go_wp2_with fail
      refine (mayConfig_any { c with job := { c.job with chunk := 8 } } so mo co ro ko sc mc cc rc kc _ ((HF0.out.job.below HP.out.bel).other rfl rfl rfl rfl rfl)).mono ?_
      rintro e w6 ⟨rfl, hb6⟩
      replace HP := hid (HP.out.on hb6)
      clear hb6 e0 e1 e2 e3 e4 e5 e6 e7 e8 e9 e10 e11
      rw [edgeE1 c]
      go_wp2_with fail
      refine (awake_calls _).mono ?_
      rintro e w7 ⟨rfl, hb7⟩
      replace HP := hid (HP.out.on hb7)
      clear hb7
      have HR := hid (HF0.out.on HP.out.bel)
      go_wp2
      go_ret
      exact ⟨rfl, HR.out.below⟩
    · have HP := hid ((HT.out.putD 6 (.int .i64 4)).putE 6 (.int .i64 0))
      have hDE : D ≠ E := HT.out.ne
      have hED : E ≠ D := fun h => hDE h.symm
      have d0 := HT.out.atD 0 _ rfl
      have e0 := HT.out.atE 0 _ rfl
      have d1 := HT.out.atD 1 _ rfl
      have e1 := HT.out.atE 1 _ rfl
      have d2 := HT.out.atD 2 _ rfl
      have e2 := HT.out.atE 2 _ rfl
      have d3 := HT.out.atD 3 _ rfl
      have e3 := HT.out.atE 3 _ rfl
      have d4 := HT.out.atD 4 _ rfl
      have e4 := HT.out.atE 4 _ rfl
      have d5 := HT.out.atD 5 _ rfl
      have e5 := HT.out.atE 5 _ rfl
      have d6 := HT.out.atD 6 _ rfl
      have e6 := HT.out.atE 6 _ rfl
      have d7 := HT.out.atD 7 _ rfl
      have e7 := HT.out.atE 7 _ rfl
      have d8 := HT.out.atD 8 _ rfl
      have e8 := HT.out.atE 8 _ rfl
      have d9 := HT.out.atD 9 _ rfl
      have e9 := HT.out.atE 9 _ rfl
      have d10 := HT.out.atD 10 _ rfl
      have e10 := HT.out.atE 10 _ rfl
      have d11 := HT.out.atD 11 _ rfl
      have e11 := HT.out.atE 11 _ rfl
      have fd := free_of_cells (j := 6) HT.out.bd
      have fe := free_of_cells (j := 6) HT.out.be
      go_wp2_with fail
      refine (mayConfig_any { c with job := { c.job with window := 4 } } so mo co ro ko sc mc cc rc kc _ ((HF0.out.job.below HP.out.bel).other rfl rfl rfl rfl rfl)).mono ?_
      rintro e w5 ⟨rfl, hb5⟩
      replace HP := hid (HP.out.on hb5)
      clear hb5 hDE hED fd fe d0 e0 d1 e1 d2 e2 d3 e3 d4 e4 d5 e5 d6 e6 d7 e7 d8 e8 d9 e9 d10 e10 d11 e11
      rw [edgeD2 HM.out]
      have e0 := HP.out.atE 0 _ rfl
      have e1 := HP.out.atE 1 _ rfl
      have e2 := HP.out.atE 2 _ rfl
      have e3 := HP.out.atE 3 _ rfl
      have e4 := HP.out.atE 4 _ rfl
      have e5 := HP.out.atE 5 _ rfl
      have e6 := HP.out.atE 6 _ rfl
      have e7 := HP.out.atE 7 _ rfl
      have e8 := HP.out.atE 8 _ rfl
      have e9 := HP.out.atE 9 _ rfl
      have e10 := HP.out.atE 10 _ rfl
      have e11 := HP.out.atE 11 _ rfl
      go_wp2_with fail
      refine (mayConfig_any { c with job := { c.job with window := 0 } } so mo co ro ko sc mc cc rc kc _ ((HF0.out.job.below HP.out.bel).other rfl rfl rfl rfl rfl)).mono ?_
      rintro e w6 ⟨rfl, hb6⟩
      replace HP := hid (HP.out.on hb6)
      clear hb6 e0 e1 e2 e3 e4 e5 e6 e7 e8 e9 e10 e11
      rw [edgeE2 c]
      go_wp2_with fail
      refine (awake_calls _).mono ?_
      rintro e w7 ⟨rfl, hb7⟩
      replace HP := hid (HP.out.on hb7)
      clear hb7
      have HR := hid (HF0.out.on HP.out.bel)
      go_wp2
      go_ret
      exact ⟨rfl, HR.out.below⟩
    · have HP := hid ((HT.out.putD 7 (.int .i64 2000)).putE 7 (.int .i64 2001))
      have hDE : D ≠ E := HT.out.ne
      have hED : E ≠ D := fun h => hDE h.symm
      have d0 := HT.out.atD 0 _ rfl
      have e0 := HT.out.atE 0 _ rfl
      have d1 := HT.out.atD 1 _ rfl
      have e1 := HT.out.atE 1 _ rfl
      have d2 := HT.out.atD 2 _ rfl
      have e2 := HT.out.atE 2 _ rfl
      have d3 := HT.out.atD 3 _ rfl
      have e3 := HT.out.atE 3 _ rfl
      have d4 := HT.out.atD 4 _ rfl
      have e4 := HT.out.atE 4 _ rfl
      have d5 := HT.out.atD 5 _ rfl
      have e5 := HT.out.atE 5 _ rfl
      have d6 := HT.out.atD 6 _ rfl
      have e6 := HT.out.atE 6 _ rfl
      have d7 := HT.out.atD 7 _ rfl
      have e7 := HT.out.atE 7 _ rfl
      have d8 := HT.out.atD 8 _ rfl
      have e8 := HT.out.atE 8 _ rfl
      have d9 := HT.out.atD 9 _ rfl
      have e9 := HT.out.atE 9 _ rfl
      have d10 := HT.out.atD 10 _ rfl
      have e10 := HT.out.atE 10 _ rfl
      have d11 := HT.out.atD 11 _ rfl
      have e11 := HT.out.atE 11 _ rfl
      have fd := free_of_cells (j := 7) HT.out.bd
      have fe := free_of_cells (j := 7) HT.out.be
      go_wp2_with fail
      refine (mayConfig_any { c with job := { c.job with fuel := 2000 } } so mo co ro ko sc mc cc rc kc _ ((HF0.out.job.below HP.out.bel).other rfl rfl rfl rfl rfl)).mono ?_
      rintro e w5 ⟨rfl, hb5⟩
      replace HP := hid (HP.out.on hb5)
      clear hb5 hDE hED fd fe d0 e0 d1 e1 d2 e2 d3 e3 d4 e4 d5 e5 d6 e6 d7 e7 d8 e8 d9 e9 d10 e10 d11 e11
      rw [edgeD3 HM.out]
      have e0 := HP.out.atE 0 _ rfl
      have e1 := HP.out.atE 1 _ rfl
      have e2 := HP.out.atE 2 _ rfl
      have e3 := HP.out.atE 3 _ rfl
      have e4 := HP.out.atE 4 _ rfl
      have e5 := HP.out.atE 5 _ rfl
      have e6 := HP.out.atE 6 _ rfl
      have e7 := HP.out.atE 7 _ rfl
      have e8 := HP.out.atE 8 _ rfl
      have e9 := HP.out.atE 9 _ rfl
      have e10 := HP.out.atE 10 _ rfl
      have e11 := HP.out.atE 11 _ rfl
      go_wp2_with fail
      refine (mayConfig_any { c with job := { c.job with fuel := 2001 } } so mo co ro ko sc mc cc rc kc _ ((HF0.out.job.below HP.out.bel).other rfl rfl rfl rfl rfl)).mono ?_
      rintro e w6 ⟨rfl, hb6⟩
      replace HP := hid (HP.out.on hb6)
      clear hb6 e0 e1 e2 e3 e4 e5 e6 e7 e8 e9 e10 e11
      rw [edgeE3 c]
      go_wp2_with fail
      refine (awake_calls _).mono ?_
      rintro e w7 ⟨rfl, hb7⟩
      replace HP := hid (HP.out.on hb7)
      clear hb7
      have HR := hid (HF0.out.on HP.out.bel)
      go_wp2
      go_ret
      exact ⟨rfl, HR.out.below⟩
    · have c0 := (HF0.out.on HT.out.bel).eqs.1
      have hAl : A < w3.heap.size := (HF0.out.on HT.out.bel).la
      have hDl := lt_of_block HT.out.bd
      have hEl := lt_of_block HT.out.be
      have hDE : D ≠ E := HT.out.ne
      have hED : E ≠ D := fun h => hDE h.symm
      have hDA : D ≠ A := by have h1 := HT.out.hD; have h2 := HF0.out.la; omega
      have hEA : E ≠ A := by have h1 := HT.out.hE; have h2 := HF0.out.la; omega
      have hAD : A ≠ D := fun h => hDA h.symm
      have hAE : A ≠ E := fun h => hEA h.symm
      have d1 : ∀ o1 : Obj, (w3.alloc o1).cell? ⟨D, 8, none⟩ = some (.slice ko c.job.marks.length kc) := fun o1 => by rw [cell_of_cells (HT.out.on (alloc_one w3 o1)).bd]; rfl
      have d2 : ∀ o1 o2 : Obj, ((w3.alloc o1).alloc o2).cell? ⟨D, 8, none⟩ = some (.slice ko c.job.marks.length kc) := fun o1 o2 => by rw [cell_of_cells ((HT.out.on (alloc_one w3 o1)).on (alloc_one _ o2)).bd]; rfl
      have d3 : ∀ (o1 o2 : Obj) (v : Value), (((w3.alloc o1).setCell ⟨E, 8, none⟩ v).alloc o2).cell? ⟨D, 8, none⟩ = some (.slice ko c.job.marks.length kc) := fun o1 o2 v => by rw [cell_of_cells (((HT.out.on (alloc_one w3 o1)).putE 8 v).on (alloc_one _ o2)).bd]; rfl
      have fd1 : ∀ o1 : Obj, (w3.alloc o1).frozen? ⟨D, 8, none⟩ = false := fun o1 => free_of_cells (HT.out.on (alloc_one w3 o1)).bd
      have fd2 : ∀ o1 o2 : Obj, ((w3.alloc o1).alloc o2).frozen? ⟨D, 8, none⟩ = false := fun o1 o2 => free_of_cells ((HT.out.on (alloc_one w3 o1)).on (alloc_one _ o2)).bd
      have fd3 : ∀ (o1 o2 : Obj) (v : Value), (((w3.alloc o1).setCell ⟨E, 8, none⟩ v).alloc o2).frozen? ⟨D, 8, none⟩ = false := fun o1 o2 v => free_of_cells (((HT.out.on (alloc_one w3 o1)).putE 8 v).on (alloc_one _ o2)).bd
      have e1 : ∀ o1 : Obj, (w3.alloc o1).cell? ⟨E, 8, none⟩ = some (.slice ko c.job.marks.length kc) := fun o1 => by rw [cell_of_cells (HT.out.on (alloc_one w3 o1)).be]; rfl
      have e2 : ∀ o1 o2 : Obj, ((w3.alloc o1).alloc o2).cell? ⟨E, 8, none⟩ = some (.slice ko c.job.marks.length kc) := fun o1 o2 => by rw [cell_of_cells ((HT.out.on (alloc_one w3 o1)).on (alloc_one _ o2)).be]; rfl
      have e3 : ∀ (o1 o2 : Obj) (v : Value), (((w3.alloc o1).setCell ⟨D, 8, none⟩ v).alloc o2).cell? ⟨E, 8, none⟩ = some (.slice ko c.job.marks.length kc) := fun o1 o2 v => by rw [cell_of_cells (((HT.out.on (alloc_one w3 o1)).putD 8 v).on (alloc_one _ o2)).be]; rfl
      have fe1 : ∀ o1 : Obj, (w3.alloc o1).frozen? ⟨E, 8, none⟩ = false := fun o1 => free_of_cells (HT.out.on (alloc_one w3 o1)).be
      have fe2 : ∀ o1 o2 : Obj, ((w3.alloc o1).alloc o2).frozen? ⟨E, 8, none⟩ = false := fun o1 o2 => free_of_cells ((HT.out.on (alloc_one w3 o1)).on (alloc_one _ o2)).be
      have fe3 : ∀ (o1 o2 : Obj) (v : Value), (((w3.alloc o1).setCell ⟨D, 8, none⟩ v).alloc o2).frozen? ⟨E, 8, none⟩ = false := fun o1 o2 v => free_of_cells (((HT.out.on (alloc_one w3 o1)).putD 8 v).on (alloc_one _ o2)).be
      have c1 : ∀ o : Obj, (w3.alloc o).cell? ⟨A, 0, none⟩ = some (.slice so c.job.splits.length sc) := fun o => by rw [World.cell?_alloc_lt _ _ _ hAl, c0]
      have c2 : ∀ o1 o2 : Obj, ((w3.alloc o1).alloc o2).cell? ⟨A, 0, none⟩ = some (.slice so c.job.splits.length sc) := fun o1 o2 => by rw [World.cell?_alloc_lt _ _ _ (by simp; omega), c1]
      have c3 : ∀ (o1 o2 : Obj) (v : Value), (((w3.alloc o1).setCell ⟨D, 8, none⟩ v).alloc o2).cell? ⟨A, 0, none⟩ = some (.slice so c.job.splits.length sc) := fun o1 o2 v => (HF0.out.on (((HT.out.on (alloc_one w3 o1)).putD 8 v).on (alloc_one _ o2)).bel).eqs.1
      have c4 : ∀ (o1 o2 : Obj) (v : Value), (((w3.alloc o1).setCell ⟨E, 8, none⟩ v).alloc o2).cell? ⟨A, 0, none⟩ = some (.slice so c.job.splits.length sc) := fun o1 o2 v => (HF0.out.on (((HT.out.on (alloc_one w3 o1)).putE 8 v).on (alloc_one _ o2)).bel).eqs.1
      have hsl : c.job.splits.length ≤ 6 := mayC_splits HM.out
      have hw1 : wrap64 ((c.job.splits.length : Int) + 1) = (c.job.splits.length : Int) + 1 := IntWalk.wrap64_in _ ⟨by omega, by omega⟩
      have hw2 : IntKind.i64.wrap ((c.job.splits.length : Int) + 1) = (c.job.splits.length : Int) + 1 := by rw [IntKind.wrap_i64]; omega
      clear hAl hDl hEl
      go_wp2_with fail
      go_region_held3 (fun w' => w'.cell? ⟨A, 0, none⟩ = some (.slice so c.job.splits.length sc)) (go_keep) (fail)
      all_goals
        clear c0 c1 c2 c3 c4 hDE hED hDA hEA hAD hAE hw1 hw2 d1 d2 d3 e1 e2 e3 fd1 fd2 fd3 fe1 fe2 fe3
        first
          | (have HP := hid (mk_aDbE HT.out (c.job.splits.length : Int) ((c.job.splits.length : Int) + 1)); obtain ⟨w4, hw4⟩ : ∃ w4, ((((w3.alloc (.cells #[.int .i64 (c.job.splits.length : Int)] 3)).setCell ⟨D, 8, none⟩ (.slice (some ⟨w3.heap.size, 0, none⟩) 1 1)).alloc (.cells #[.int .i64 ((c.job.splits.length : Int) + 1)] 3)).setCell ⟨E, 8, none⟩ (.slice (some ⟨w3.heap.size + 1, 0, none⟩) 1 1)).drew = w4 := ⟨_, rfl⟩; rw [hw4] at HP ⊢; clear hw4; generalize w3.heap.size + 1 = M2 at HP ⊢; generalize w3.heap.size = M1 at HP ⊢)
          | (have HP := hid (mk_abDE HT.out (c.job.splits.length : Int) ((c.job.splits.length : Int) + 1)); obtain ⟨w4, hw4⟩ : ∃ w4, ((((w3.alloc (.cells #[.int .i64 (c.job.splits.length : Int)] 3)).alloc (.cells #[.int .i64 ((c.job.splits.length : Int) + 1)] 3)).setCell ⟨D, 8, none⟩ (.slice (some ⟨w3.heap.size, 0, none⟩) 1 1)).setCell ⟨E, 8, none⟩ (.slice (some ⟨w3.heap.size + 1, 0, none⟩) 1 1)).drew = w4 := ⟨_, rfl⟩; rw [hw4] at HP ⊢; clear hw4; generalize w3.heap.size + 1 = M2 at HP ⊢; generalize w3.heap.size = M1 at HP ⊢)
          | (have HP := hid (mk_abED HT.out (c.job.splits.length : Int) ((c.job.splits.length : Int) + 1)); obtain ⟨w4, hw4⟩ : ∃ w4, ((((w3.alloc (.cells #[.int .i64 (c.job.splits.length : Int)] 3)).alloc (.cells #[.int .i64 ((c.job.splits.length : Int) + 1)] 3)).setCell ⟨E, 8, none⟩ (.slice (some ⟨w3.heap.size + 1, 0, none⟩) 1 1)).setCell ⟨D, 8, none⟩ (.slice (some ⟨w3.heap.size, 0, none⟩) 1 1)).drew = w4 := ⟨_, rfl⟩; rw [hw4] at HP ⊢; clear hw4; generalize w3.heap.size + 1 = M2 at HP ⊢; generalize w3.heap.size = M1 at HP ⊢)
          | (have HP := hid (mk_baDE HT.out (c.job.splits.length : Int) ((c.job.splits.length : Int) + 1)); obtain ⟨w4, hw4⟩ : ∃ w4, ((((w3.alloc (.cells #[.int .i64 ((c.job.splits.length : Int) + 1)] 3)).alloc (.cells #[.int .i64 (c.job.splits.length : Int)] 3)).setCell ⟨D, 8, none⟩ (.slice (some ⟨w3.heap.size + 1, 0, none⟩) 1 1)).setCell ⟨E, 8, none⟩ (.slice (some ⟨w3.heap.size, 0, none⟩) 1 1)).drew = w4 := ⟨_, rfl⟩; rw [hw4] at HP ⊢; clear hw4; generalize w3.heap.size + 1 = M1 at HP ⊢; generalize w3.heap.size = M2 at HP ⊢)
          | (have HP := hid (mk_baED HT.out (c.job.splits.length : Int) ((c.job.splits.length : Int) + 1)); obtain ⟨w4, hw4⟩ : ∃ w4, ((((w3.alloc (.cells #[.int .i64 ((c.job.splits.length : Int) + 1)] 3)).alloc (.cells #[.int .i64 (c.job.splits.length : Int)] 3)).setCell ⟨E, 8, none⟩ (.slice (some ⟨w3.heap.size, 0, none⟩) 1 1)).setCell ⟨D, 8, none⟩ (.slice (some ⟨w3.heap.size + 1, 0, none⟩) 1 1)).drew = w4 := ⟨_, rfl⟩; rw [hw4] at HP ⊢; clear hw4; generalize w3.heap.size + 1 = M1 at HP ⊢; generalize w3.heap.size = M2 at HP ⊢)
          | (have HP := hid (mk_bEaD HT.out (c.job.splits.length : Int) ((c.job.splits.length : Int) + 1)); obtain ⟨w4, hw4⟩ : ∃ w4, ((((w3.alloc (.cells #[.int .i64 ((c.job.splits.length : Int) + 1)] 3)).setCell ⟨E, 8, none⟩ (.slice (some ⟨w3.heap.size, 0, none⟩) 1 1)).alloc (.cells #[.int .i64 (c.job.splits.length : Int)] 3)).setCell ⟨D, 8, none⟩ (.slice (some ⟨w3.heap.size + 1, 0, none⟩) 1 1)).drew = w4 := ⟨_, rfl⟩; rw [hw4] at HP ⊢; clear hw4; generalize w3.heap.size + 1 = M1 at HP ⊢; generalize w3.heap.size = M2 at HP ⊢)
        have HP2 := hid HP.out.1
        have HI1 := hid HP.out.2.1
        have HI2 := hid HP.out.2.2
        clear HP
        have d0 := HP2.out.atD 0 _ rfl
        have d1 := HP2.out.atD 1 _ rfl
        have d2 := HP2.out.atD 2 _ rfl
        have d3 := HP2.out.atD 3 _ rfl
        have d4 := HP2.out.atD 4 _ rfl
        have d5 := HP2.out.atD 5 _ rfl
        have d6 := HP2.out.atD 6 _ rfl
        have d7 := HP2.out.atD 7 _ rfl
        have d8 := HP2.out.atD 8 _ rfl
        have d9 := HP2.out.atD 9 _ rfl
        have d10 := HP2.out.atD 10 _ rfl
        have d11 := HP2.out.atD 11 _ rfl
        go_wp2_with fail
        refine (mayConfig_any { c with job := { c.job with marks := [(c.job.splits.length : Int)] } } so mo co ro (some ⟨M1, 0, none⟩) sc mc cc rc 1 _ (by have t := HF0.out.job.below HP2.out.bel; exact ⟨t.sp, t.mp, t.cb, t.rd, HI1.out⟩)).mono ?_
        rintro e w5 ⟨rfl, hb5⟩
        replace HP2 := hid (HP2.out.on hb5)
        replace HI2 := hid (HI2.out.below hb5)
        clear hb5 HI1 d0 d1 d2 d3 d4 d5 d6 d7 d8 d9 d10 d11
        rw [edgeD4 HM.out]
        have e0 := HP2.out.atE 0 _ rfl
        have e1 := HP2.out.atE 1 _ rfl
        have e2 := HP2.out.atE 2 _ rfl
        have e3 := HP2.out.atE 3 _ rfl
        have e4 := HP2.out.atE 4 _ rfl
        have e5 := HP2.out.atE 5 _ rfl
        have e6 := HP2.out.atE 6 _ rfl
        have e7 := HP2.out.atE 7 _ rfl
        have e8 := HP2.out.atE 8 _ rfl
        have e9 := HP2.out.atE 9 _ rfl
        have e10 := HP2.out.atE 10 _ rfl
        have e11 := HP2.out.atE 11 _ rfl
        go_wp2_with fail
        refine (mayConfig_any { c with job := { c.job with marks := [(c.job.splits.length : Int) + 1] } } so mo co ro (some ⟨M2, 0, none⟩) sc mc cc rc 1 _ (by have t := HF0.out.job.below HP2.out.bel; exact ⟨t.sp, t.mp, t.cb, t.rd, HI2.out⟩)).mono ?_
        rintro e w6 ⟨rfl, hb6⟩
        replace HP2 := hid (HP2.out.on hb6)
        clear hb6 HI2 e0 e1 e2 e3 e4 e5 e6 e7 e8 e9 e10 e11
        rw [edgeE4 c]
        go_wp2_with fail
        refine (awake_calls _).mono ?_
        rintro e w7 ⟨rfl, hb7⟩
        replace HP2 := hid (HP2.out.on hb7)
        clear hb7
        have HR := hid (HF0.out.on HP2.out.bel)
        go_wp2
        go_ret
        exact ⟨rfl, HR.out.below⟩
    · have HP := hid ((HT.out.putD 9 (.int .i64 4)).putE 9 (.int .i64 5))
      have hDE : D ≠ E := HT.out.ne
      have hED : E ≠ D := fun h => hDE h.symm
      have d0 := HT.out.atD 0 _ rfl
      have e0 := HT.out.atE 0 _ rfl
      have d1 := HT.out.atD 1 _ rfl
      have e1 := HT.out.atE 1 _ rfl
      have d2 := HT.out.atD 2 _ rfl
      have e2 := HT.out.atE 2 _ rfl
      have d3 := HT.out.atD 3 _ rfl
      have e3 := HT.out.atE 3 _ rfl
      have d4 := HT.out.atD 4 _ rfl
      have e4 := HT.out.atE 4 _ rfl
      have d5 := HT.out.atD 5 _ rfl
      have e5 := HT.out.atE 5 _ rfl
      have d6 := HT.out.atD 6 _ rfl
      have e6 := HT.out.atE 6 _ rfl
      have d7 := HT.out.atD 7 _ rfl
      have e7 := HT.out.atE 7 _ rfl
      have d8 := HT.out.atD 8 _ rfl
      have e8 := HT.out.atE 8 _ rfl
      have d9 := HT.out.atD 9 _ rfl
      have e9 := HT.out.atE 9 _ rfl
      have d10 := HT.out.atD 10 _ rfl
      have e10 := HT.out.atE 10 _ rfl
      have d11 := HT.out.atD 11 _ rfl
      have e11 := HT.out.atE 11 _ rfl
      have fd := free_of_cells (j := 9) HT.out.bd
      have fe := free_of_cells (j := 9) HT.out.be
      go_wp2_with fail
      refine (mayConfig_any { c with workers := 4 } so mo co ro ko sc mc cc rc kc _ ((HF0.out.job.below HP.out.bel).other rfl rfl rfl rfl rfl)).mono ?_
      rintro e w5 ⟨rfl, hb5⟩
      replace HP := hid (HP.out.on hb5)
      clear hb5 hDE hED fd fe d0 e0 d1 e1 d2 e2 d3 e3 d4 e4 d5 e5 d6 e6 d7 e7 d8 e8 d9 e9 d10 e10 d11 e11
      rw [edgeD5 HM.out]
      have e0 := HP.out.atE 0 _ rfl
      have e1 := HP.out.atE 1 _ rfl
      have e2 := HP.out.atE 2 _ rfl
      have e3 := HP.out.atE 3 _ rfl
      have e4 := HP.out.atE 4 _ rfl
      have e5 := HP.out.atE 5 _ rfl
      have e6 := HP.out.atE 6 _ rfl
      have e7 := HP.out.atE 7 _ rfl
      have e8 := HP.out.atE 8 _ rfl
      have e9 := HP.out.atE 9 _ rfl
      have e10 := HP.out.atE 10 _ rfl
      have e11 := HP.out.atE 11 _ rfl
      go_wp2_with fail
      refine (mayConfig_any { c with workers := 5 } so mo co ro ko sc mc cc rc kc _ ((HF0.out.job.below HP.out.bel).other rfl rfl rfl rfl rfl)).mono ?_
      rintro e w6 ⟨rfl, hb6⟩
      replace HP := hid (HP.out.on hb6)
      clear hb6 e0 e1 e2 e3 e4 e5 e6 e7 e8 e9 e10 e11
      rw [edgeE5 c]
      go_wp2_with fail
      refine (awake_calls _).mono ?_
      rintro e w7 ⟨rfl, hb7⟩
      replace HP := hid (HP.out.on hb7)
      clear hb7
      have HR := hid (HF0.out.on HP.out.bel)
      go_wp2
      go_ret
      exact ⟨rfl, HR.out.below⟩
    · have HP := hid ((HT.out.putD 10 (.int .i64 3)).putE 10 (.int .i64 0))
      have hDE : D ≠ E := HT.out.ne
      have hED : E ≠ D := fun h => hDE h.symm
      have d0 := HT.out.atD 0 _ rfl
      have e0 := HT.out.atE 0 _ rfl
      have d1 := HT.out.atD 1 _ rfl
      have e1 := HT.out.atE 1 _ rfl
      have d2 := HT.out.atD 2 _ rfl
      have e2 := HT.out.atE 2 _ rfl
      have d3 := HT.out.atD 3 _ rfl
      have e3 := HT.out.atE 3 _ rfl
      have d4 := HT.out.atD 4 _ rfl
      have e4 := HT.out.atE 4 _ rfl
      have d5 := HT.out.atD 5 _ rfl
      have e5 := HT.out.atE 5 _ rfl
      have d6 := HT.out.atD 6 _ rfl
      have e6 := HT.out.atE 6 _ rfl
      have d7 := HT.out.atD 7 _ rfl
      have e7 := HT.out.atE 7 _ rfl
      have d8 := HT.out.atD 8 _ rfl
      have e8 := HT.out.atE 8 _ rfl
      have d9 := HT.out.atD 9 _ rfl
      have e9 := HT.out.atE 9 _ rfl
      have d10 := HT.out.atD 10 _ rfl
      have e10 := HT.out.atE 10 _ rfl
      have d11 := HT.out.atD 11 _ rfl
      have e11 := HT.out.atE 11 _ rfl
      have fd := free_of_cells (j := 10) HT.out.bd
      have fe := free_of_cells (j := 10) HT.out.be
      go_wp2_with fail
      refine (mayConfig_any { c with tries := 3 } so mo co ro ko sc mc cc rc kc _ ((HF0.out.job.below HP.out.bel).other rfl rfl rfl rfl rfl)).mono ?_
      rintro e w5 ⟨rfl, hb5⟩
      replace HP := hid (HP.out.on hb5)
      clear hb5 hDE hED fd fe d0 e0 d1 e1 d2 e2 d3 e3 d4 e4 d5 e5 d6 e6 d7 e7 d8 e8 d9 e9 d10 e10 d11 e11
      rw [edgeD6 HM.out]
      have e0 := HP.out.atE 0 _ rfl
      have e1 := HP.out.atE 1 _ rfl
      have e2 := HP.out.atE 2 _ rfl
      have e3 := HP.out.atE 3 _ rfl
      have e4 := HP.out.atE 4 _ rfl
      have e5 := HP.out.atE 5 _ rfl
      have e6 := HP.out.atE 6 _ rfl
      have e7 := HP.out.atE 7 _ rfl
      have e8 := HP.out.atE 8 _ rfl
      have e9 := HP.out.atE 9 _ rfl
      have e10 := HP.out.atE 10 _ rfl
      have e11 := HP.out.atE 11 _ rfl
      go_wp2_with fail
      refine (mayConfig_any { c with tries := 0 } so mo co ro ko sc mc cc rc kc _ ((HF0.out.job.below HP.out.bel).other rfl rfl rfl rfl rfl)).mono ?_
      rintro e w6 ⟨rfl, hb6⟩
      replace HP := hid (HP.out.on hb6)
      clear hb6 e0 e1 e2 e3 e4 e5 e6 e7 e8 e9 e10 e11
      rw [edgeE6 c]
      go_wp2_with fail
      refine (awake_calls _).mono ?_
      rintro e w7 ⟨rfl, hb7⟩
      replace HP := hid (HP.out.on hb7)
      clear hb7
      have HR := hid (HF0.out.on HP.out.bel)
      go_wp2
      go_ret
      exact ⟨rfl, HR.out.below⟩
    · have HP := hid ((HT.out.putD 11 (.int .i64 50)).putE 11 (.int .i64 51))
      have hDE : D ≠ E := HT.out.ne
      have hED : E ≠ D := fun h => hDE h.symm
      have d0 := HT.out.atD 0 _ rfl
      have e0 := HT.out.atE 0 _ rfl
      have d1 := HT.out.atD 1 _ rfl
      have e1 := HT.out.atE 1 _ rfl
      have d2 := HT.out.atD 2 _ rfl
      have e2 := HT.out.atE 2 _ rfl
      have d3 := HT.out.atD 3 _ rfl
      have e3 := HT.out.atE 3 _ rfl
      have d4 := HT.out.atD 4 _ rfl
      have e4 := HT.out.atE 4 _ rfl
      have d5 := HT.out.atD 5 _ rfl
      have e5 := HT.out.atE 5 _ rfl
      have d6 := HT.out.atD 6 _ rfl
      have e6 := HT.out.atE 6 _ rfl
      have d7 := HT.out.atD 7 _ rfl
      have e7 := HT.out.atE 7 _ rfl
      have d8 := HT.out.atD 8 _ rfl
      have e8 := HT.out.atE 8 _ rfl
      have d9 := HT.out.atD 9 _ rfl
      have e9 := HT.out.atE 9 _ rfl
      have d10 := HT.out.atD 10 _ rfl
      have e10 := HT.out.atE 10 _ rfl
      have d11 := HT.out.atD 11 _ rfl
      have e11 := HT.out.atE 11 _ rfl
      have fd := free_of_cells (j := 11) HT.out.bd
      have fe := free_of_cells (j := 11) HT.out.be
      go_wp2_with fail
      refine (mayConfig_any { c with timeout := 50 } so mo co ro ko sc mc cc rc kc _ ((HF0.out.job.below HP.out.bel).other rfl rfl rfl rfl rfl)).mono ?_
      rintro e w5 ⟨rfl, hb5⟩
      replace HP := hid (HP.out.on hb5)
      clear hb5 hDE hED fd fe d0 e0 d1 e1 d2 e2 d3 e3 d4 e4 d5 e5 d6 e6 d7 e7 d8 e8 d9 e9 d10 e10 d11 e11
      rw [edgeD7 HM.out]
      have e0 := HP.out.atE 0 _ rfl
      have e1 := HP.out.atE 1 _ rfl
      have e2 := HP.out.atE 2 _ rfl
      have e3 := HP.out.atE 3 _ rfl
      have e4 := HP.out.atE 4 _ rfl
      have e5 := HP.out.atE 5 _ rfl
      have e6 := HP.out.atE 6 _ rfl
      have e7 := HP.out.atE 7 _ rfl
      have e8 := HP.out.atE 8 _ rfl
      have e9 := HP.out.atE 9 _ rfl
      have e10 := HP.out.atE 10 _ rfl
      have e11 := HP.out.atE 11 _ rfl
      go_wp2_with fail
      refine (mayConfig_any { c with timeout := 51 } so mo co ro ko sc mc cc rc kc _ ((HF0.out.job.below HP.out.bel).other rfl rfl rfl rfl rfl)).mono ?_
      rintro e w6 ⟨rfl, hb6⟩
      replace HP := hid (HP.out.on hb6)
      clear hb6 e0 e1 e2 e3 e4 e5 e6 e7 e8 e9 e10 e11
      rw [edgeE7 c]
      go_wp2_with fail
      refine (awake_calls _).mono ?_
      rintro e w7 ⟨rfl, hb7⟩
      replace HP := hid (HP.out.on hb7)
      clear hb7
      have HR := hid (HF0.out.on HP.out.bel)
      go_wp2
      go_ret
      exact ⟨rfl, HR.out.below⟩
theorem jobEdges_walk (w : World) (cs : Array Value) (a) (hs : cs.size = 12) (h : rCfg w cs.toList a) (which : Int) (wp : (Lit.int .i64 which).wf = true) :
    Calls Try.prog 5 #[.agg cs, .int .i64 which] w fun e w' => e = .returned (.bool true) ∧ Below w.heap.size w w' := by
  obtain ⟨c, so, mo, co, ro, ko, sc, mc, cc, rc, kc, rfl, hj⟩ := cfg_arg hs h
  exact jobEdges_main c so mo co ro ko sc mc cc rc kc which w hj
end Go.Proofs.Ytjmlanmdlpooaaa
