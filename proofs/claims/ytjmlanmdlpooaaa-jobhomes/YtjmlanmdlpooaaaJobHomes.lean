/- JobHomes: who keeps a part, and whose turn it is, are the reference's, and each worker has its turn. -/
import Derived.Test.YtjmlanmdlpooaaaJHad
namespace Go.Proofs.Ytjmlanmdlpooaaa
open Go.RowKit
set_option linter.unusedVariables false

set_option maxRecDepth 100000 in
set_option maxHeartbeats 24000000 in
theorem jobHomes_main (c : CfgV) (so mo co ro ko : Option Addr) (sc mc cc rc kc : Nat) (part n0 : Int) (w : World) (h : JobIs w so mo co ro ko sc mc cc rc kc c.job) :
    Calls Try.prog 4 #[.agg #[.slice so c.job.splits.length sc, .int .i64 c.job.parts, .slice mo c.job.mp.length mc, .slice co c.job.cb.length cc, .slice ro c.job.rd.length rc, .int .i64 c.job.chunk, .int .i64 c.job.window, .int .i64 c.job.fuel, .slice ko c.job.marks.length kc, .int .i64 c.workers, .int .i64 c.tries, .int .i64 c.timeout], .int .i64 part, .int .i64 n0] w fun e w' => e = .returned (.bool true) ∧ Below w.heap.size w w' := by
  have HF := hid (Hj.new w c h)
  have HF0 := hid (Hj.new w c h)
  have HB0 := hid (Below.refl (w.alloc (.cells #[.slice so c.job.splits.length sc, .int .i64 c.job.parts, .slice mo c.job.mp.length mc, .slice co c.job.cb.length cc, .slice ro c.job.rd.length rc, .int .i64 c.job.chunk, .int .i64 c.job.window, .int .i64 c.job.fuel, .slice ko c.job.marks.length kc, .int .i64 c.workers, .int .i64 c.tries, .int .i64 c.timeout] 28)).heap.size (w.alloc (.cells #[.slice so c.job.splits.length sc, .int .i64 c.job.parts, .slice mo c.job.mp.length mc, .slice co c.job.cb.length cc, .slice ro c.job.rd.length rc, .int .i64 c.job.chunk, .int .i64 c.job.window, .int .i64 c.job.fuel, .slice ko c.job.marks.length kc, .int .i64 c.workers, .int .i64 c.tries, .int .i64 c.timeout] 28)))
  clear h
  go_enter Try.func4, Try.ntmps4
  go_wp2_with fail
  refine (greatJob_any c.job so mo co ro ko sc mc cc rc kc _ HF.out.job).mono ?_
  rintro e w1 ⟨⟨g, rfl⟩, hb1⟩
  replace HF := hid (HF.out.on hb1)
  replace HB0 := hid (below_then HB0.out hb1 HB0.out.size)
  clear hb1
  cases g
  case' true =>
    go_wp2_with fail
    refine (awake_calls _).mono ?_
    rintro e w2 ⟨rfl, hb2⟩
    replace HF := hid (HF.out.on hb2)
    clear hb2
    go_wp2
    go_ret
    exact ⟨rfl, HF.out.below⟩
  obtain ⟨c0, c1, c2, c3, c4, c5, c6, c7, c8, c9, c10, c11⟩ := HF.out.eqs
  go_wp2_with fail
  refine (mayConfig_any c so mo co ro ko sc mc cc rc kc _ HF.out.job).mono ?_
  rintro e w2 ⟨rfl, hb2⟩
  replace HF := hid (HF.out.on hb2)
  replace HB0 := hid (below_then HB0.out hb2 HB0.out.size)
  clear hb2 c0 c1 c2 c3 c4 c5 c6 c7 c8 c9 c10 c11
  obtain ⟨gm, hgm⟩ : ∃ g, mayC c = g := ⟨_, rfl⟩
  have HM := hid hgm
  rw [hgm]
  clear hgm
  cases gm
  case' false =>
    go_wp2_with fail
    refine (awake_calls _).mono ?_
    rintro e w3 ⟨rfl, hb3⟩
    replace HF := hid (HF.out.on hb3)
    clear hb3
    go_wp2
    go_ret
    exact ⟨rfl, HF.out.below⟩
  obtain ⟨b1, b2, b3, b4⟩ := mayC_bounds HM.out
  go_wp2_with fail
  refine (low_calls n0 1099511627776 (by omega) (by omega) _).mono ?_
  rintro e w2 ⟨rfl, rfl⟩
  obtain ⟨N, hN, hN2⟩ := low_nat n0 1099511627776 (by omega)
  rw [show low n0 1099511627776 = (N : Int) from hN]
  clear hN
  obtain ⟨W, hW⟩ : ∃ W : Nat, c.workers = W := ⟨c.workers.toNat, by omega⟩
  have HW := hid hW
  clear hW
  have HH := hid (Hd.new HB0.out)
  generalize w.alloc (.cells #[.slice so c.job.splits.length sc, .int .i64 c.job.parts, .slice mo c.job.mp.length mc, .slice co c.job.cb.length cc, .slice ro c.job.rd.length rc, .int .i64 c.job.chunk, .int .i64 c.job.window, .int .i64 c.job.fuel, .slice ko c.job.marks.length kc, .int .i64 c.workers, .int .i64 c.tries, .int .i64 c.timeout] 28) = w0 at HF0 HB0 HH
  generalize w.heap.size = A at HF HF0 ⊢
  go_wp2
  generalize hw3 : w2.alloc (.cells #[.bool false, .bool false, .bool false, .bool false, .bool false] 33) = w3 at HH ⊢
  generalize w2.heap.size = H at HH ⊢
  clear hw3 HF HB0
  go_loopw [8] (fun i wr => ∃ k : Nat, (k : Int) ≤ c.workers ∧ i = .int .i64 k ∧ Hd w0 H (hadF N W k) wr) (fun i _ => 4 - (intOf i).toNat)
  case atStart => exact ⟨0, by omega, rfl, by rw [hadF_zero]; exact HH.out⟩
  case round =>
    obtain ⟨k, hk, rfl, hd⟩ := hrel
    have HD := hid hd
    have HR := hid (HF0.out.on hd.bel)
    clear hd
    obtain ⟨c0, c1, c2, c3, c4, c5, c6, c7, c8, c9, c10, c11⟩ := HR.out.eqs
    by_cases hlt : (k : Int) < c.workers
    · have hdk : decide ((k : Int) < c.workers) = true := by simpa using hlt
      go_wp2_with fail
      refine (turn_any c so mo co ro ko sc mc cc rc kc _ wr HR.out.job HM.out).mono ?_
      rintro e w4 ⟨rfl, hb4⟩
      replace HD := hid (HD.out.on hb4)
      replace HR := hid (HR.out.on hb4)
      clear hb4 c0 c1 c2 c3 c4 c5 c6 c7 c8 c9 c10 c11
      have hW1 : 1 ≤ W := by have := HW.out; omega
      have hW4 : W ≤ 4 := by have := HW.out; omega
      have hkW : k < W := by have := HW.out; omega
      rw [show (1 + low ((N : Int) + (k : Int)) c.workers) = ((1 + (N + k) % W : Nat) : Int) by rw [HW.out]; exact turn_nat hN2 (by omega) hW1]
      obtain ⟨kk, hkk⟩ : ∃ kk, 1 + (N + k) % W = kk := ⟨_, rfl⟩
      have HP := hid (HD.out.put (k := 1 + (N + k) % W))
      rw [hadF_succ, hkk] at HP
      have hk1 : 1 ≤ kk := by omega
      have hkw : kk ≤ W := by have := Nat.mod_lt (N + k) (show W > 0 by omega); omega
      have ch := HD.out.cell (j := kk) (by omega)
      rw [← hkk, hadF_no hW1 hW4 hkW, hkk] at ch
      have cf := free_of_cells (j := kk) HD.out.blk
      rw [hkk]
      have c9 := HR.out.eqs.2.2.2.2.2.2.2.2.2.1
      have hd1 : decide ((kk : Int) < 1) = false := by simp; omega
      have hd2 : decide (c.workers < (kk : Int)) = false := by have := HW.out; simp; omega
      have hk5 : (kk : Int) < 5 := by omega
      have hk0 : (0 : Int) ≤ (kk : Int) := by omega
      have hk55 : kk < 5 := by omega
      have hkz : ¬ kk = 0 := by omega
      clear hkk
      go_wp2
      go_roundw
      case rel => exact ⟨k + 1, by omega, by go_num, HP.out⟩
      case measure => simp [intOf]; omega
    · have hdk : decide ((k : Int) < c.workers) = false := by simpa using hlt
      clear HD c0 c1 c2 c3 c4 c5 c6 c7 c8 c10 c11 hlt hk
      go_wp2
      clear c9 hdk
      go_loopw [10] (fun i wr => ∃ x : Nat, (x : Int) ≤ c.job.parts ∧ i = .int .i64 x ∧ Hj w A so mo co ro ko sc mc cc rc kc c wr) (fun i _ => 4 - (intOf i).toNat)
      case atStart => exact ⟨0, by omega, rfl, HR.out⟩
      case round =>
        obtain ⟨x, hx, rfl, hr⟩ := hrel
        clear HR
        have HR := hid hr
        clear hr
        have c1 := HR.out.eqs.2.1
        by_cases hlt : (x : Int) < c.job.parts
        · have hdx : decide ((x : Int) < c.job.parts) = true := by simpa using hlt
          obtain ⟨t1, t2, t3⟩ := home_turn b1 b2 hlt b4
          obtain ⟨z, hz⟩ : ∃ z, 1 + low (x : Int) c.workers = z := ⟨_, rfl⟩
          rw [hz] at t1 t2 t3
          have HT := hid t1
          have HZ := hid hz
          have hd1 : decide (z < 1) = false := by simp; omega
          have hd2 : decide (c.workers < z) = false := by simp; omega
          clear t1 hz
          go_wp2_with fail
          clear c1
          have Fd := HR.out.on (w2 := wr.drew) (by go_grown)
          go_region_held3 (fun w' => w'.cell? ⟨A, 0, none⟩ = some (.slice so c.job.splits.length sc) ∧ w'.cell? ⟨A, 1, none⟩ = some (.int .i64 c.job.parts) ∧ w'.cell? ⟨A, 2, none⟩ = some (.slice mo c.job.mp.length mc) ∧ w'.cell? ⟨A, 3, none⟩ = some (.slice co c.job.cb.length cc) ∧ w'.cell? ⟨A, 4, none⟩ = some (.slice ro c.job.rd.length rc) ∧ w'.cell? ⟨A, 5, none⟩ = some (.int .i64 c.job.chunk) ∧ w'.cell? ⟨A, 6, none⟩ = some (.int .i64 c.job.window) ∧ w'.cell? ⟨A, 7, none⟩ = some (.int .i64 c.job.fuel) ∧ w'.cell? ⟨A, 8, none⟩ = some (.slice ko c.job.marks.length kc) ∧ w'.cell? ⟨A, 9, none⟩ = some (.int .i64 c.workers) ∧ w'.cell? ⟨A, 10, none⟩ = some (.int .i64 c.tries) ∧ w'.cell? ⟨A, 11, none⟩ = some (.int .i64 c.timeout)) (exact Hj.eqs (by assumption))
            (first | (go_at_call 14; refine (home_any c so mo co ro ko sc mc cc rc kc _ _ (Hj.job (by assumption)) HM.out).mono ?_; rintro e w5 ⟨rfl, hb5⟩; have F5 := Hj.on (by assumption) hb5; rw [show homeI c.job.parts c.workers x = z from HT])
                   | (go_at_call 13; refine (turn_any c so mo co ro ko sc mc cc rc kc _ _ (Hj.job (by assumption)) HM.out).mono ?_; rintro e w6 ⟨rfl, hb6⟩; have F6 := Hj.on (by assumption) hb6; rw [show 1 + low (x : Int) c.workers = z from HZ]))
          all_goals
            go_wp2
            go_roundw
            case rel => exact ⟨x + 1, by omega, by go_num, by assumption⟩
            case measure => simp [intOf]; omega
        · have hdx : decide ((x : Int) < c.job.parts) = false := by simpa using hlt
          clear hlt hx
          go_wp2_with fail
          clear c1
          have Fd := HR.out.on (w2 := wr.drew) (by go_grown)
          obtain ⟨z, HZ⟩ : ∃ z, Hid (homeI c.job.parts c.workers part = z) := ⟨_, hid rfl⟩
          go_region_held3 (fun w' => w'.cell? ⟨A, 0, none⟩ = some (.slice so c.job.splits.length sc) ∧ w'.cell? ⟨A, 1, none⟩ = some (.int .i64 c.job.parts) ∧ w'.cell? ⟨A, 2, none⟩ = some (.slice mo c.job.mp.length mc) ∧ w'.cell? ⟨A, 3, none⟩ = some (.slice co c.job.cb.length cc) ∧ w'.cell? ⟨A, 4, none⟩ = some (.slice ro c.job.rd.length rc) ∧ w'.cell? ⟨A, 5, none⟩ = some (.int .i64 c.job.chunk) ∧ w'.cell? ⟨A, 6, none⟩ = some (.int .i64 c.job.window) ∧ w'.cell? ⟨A, 7, none⟩ = some (.int .i64 c.job.fuel) ∧ w'.cell? ⟨A, 8, none⟩ = some (.slice ko c.job.marks.length kc) ∧ w'.cell? ⟨A, 9, none⟩ = some (.int .i64 c.workers) ∧ w'.cell? ⟨A, 10, none⟩ = some (.int .i64 c.tries) ∧ w'.cell? ⟨A, 11, none⟩ = some (.int .i64 c.timeout)) (exact Hj.eqs (by assumption))
            (first | (go_at_call 14; refine (home_any c so mo co ro ko sc mc cc rc kc _ _ (Hj.job (by assumption)) HM.out).mono ?_; rintro e w5 ⟨rfl, hb5⟩; have F5 := Hj.on (by assumption) hb5; rw [show homeI c.job.parts c.workers part = z from HZ])
                   | (go_at_call 15; refine (refHome_any c so mo co ro ko sc mc cc rc kc _ _ HM.out).mono ?_; rintro e w6 ⟨rfl, hb6⟩; have F6 := Hj.on (by assumption) hb6; rw [show homeI c.job.parts c.workers part = z from HZ])
                   | (go_at_call 13; refine (turn_any c so mo co ro ko sc mc cc rc kc _ _ (Hj.job (by assumption)) HM.out).mono ?_; rintro e w7 ⟨rfl, hb7⟩; have F7 := Hj.on (by assumption) hb7)
                   | (go_at_call 16; refine (refTurn_any c so mo co ro ko sc mc cc rc kc _ _ HM.out).mono ?_; rintro e w8 ⟨rfl, hb8⟩; have F8 := Hj.on (by assumption) hb8)
                   | (go_at_call 7; refine (awake_calls _).mono ?_; rintro e w9 ⟨rfl, hb9⟩; have F9 := Hj.on (by assumption) hb9))
          all_goals
            go_wp2
            go_ret
            exact ⟨rfl, F9.below⟩
theorem jobHomes_walk (w : World) (cs : Array Value) (a) (hs : cs.size = 12) (h : rCfg w cs.toList a) (part : Int) (wp : (Lit.int .i64 part).wf = true) (n0 : Int) (wn : (Lit.int .i64 n0).wf = true) :
    Calls Try.prog 4 #[.agg cs, .int .i64 part, .int .i64 n0] w fun e w' => e = .returned (.bool true) ∧ Below w.heap.size w w' := by
  obtain ⟨c, so, mo, co, ro, ko, sc, mc, cc, rc, kc, rfl, hj⟩ := cfg_arg hs h
  exact jobHomes_main c so mo co ro ko sc mc cc rc kc part n0 w hj
end Go.Proofs.Ytjmlanmdlpooaaa
