/- May of a job and of a configuration: the program's answers. -/
import Derived.Test.YtjmlanmdlpooaaaJMay
namespace Go.Proofs.Ytjmlanmdlpooaaa
open Go.RowKit
set_option linter.unusedVariables false

/-- Slices that read as a job. -/
structure JobIs (w : World) (so mo co ro ko : Option Addr) (sc mc cc rc kc : Nat) (j : JobV) : Prop where
  sp : Lis w (.slice so j.splits.length sc) j.splits
  mp : Co w (.slice mo j.mp.length mc) j.mp
  cb : Co w (.slice co j.cb.length cc) j.cb
  rd : Co w (.slice ro j.rd.length rc) j.rd
  mks : Is w (.slice ko j.marks.length kc) j.marks
theorem JobIs.below {w w' : World} {so mo co ro ko : Option Addr} {sc mc cc rc kc : Nat} {j : JobV} (h : JobIs w so mo co ro ko sc mc cc rc kc j) (hb : Below w.heap.size w w') : JobIs w' so mo co ro ko sc mc cc rc kc j :=
  ⟨h.sp.below hb, h.mp.below hb, h.cb.below hb, h.rd.below hb, h.mks.below hb⟩
/-- Cells that lie one behind the other. -/
def At (w : World) (b : Nat) (cs : List Value) : Prop := ∀ i v, cs[i]? = some v → w.cell? ⟨b, i, none⟩ = some v
theorem At.below {w w' : World} {b : Nat} {cs : List Value} (h : At w b cs) (hb : Below w.heap.size w w') (hlt : b < w.heap.size) : At w' b cs := fun i v hi => (hb.cell (p := ⟨b, i, none⟩) hlt).trans (h i v hi)
theorem At.new (w : World) (cs : Array Value) (t : TypeId) : At (w.alloc (.cells cs t)) w.heap.size cs.toList := by
  intro i v h
  simpa [go_sem] using h
theorem mayJ_prog (j : JobV) : mayJ j = (((((((((inI j.splits.length 1 6 && j.splits.all splitJ) && inI j.parts 1 4) && (decide (j.mp ≠ []) && decide (bad j.mp < 0))) && (decide (j.rd ≠ []) && decide (bad j.rd < 0))) && decide (bad j.cb < 0)) && inI j.chunk 1 7) && inI j.window 1 4) && inI j.fuel 1 2000) && marksOk j.splits.length j.marks) := by
  unfold mayJ marksOk
  ac_rfl

set_option maxHeartbeats 4000000 in
theorem jobMay_any (j : JobV) (so mo co ro ko : Option Addr) (sc mc cc rc kc : Nat) (w : World) (h : JobIs w so mo co ro ko sc mc cc rc kc j) :
    Calls Try.prog 8 #[.agg #[.slice so j.splits.length sc, .int .i64 j.parts, .slice mo j.mp.length mc, .slice co j.cb.length cc, .slice ro j.rd.length rc, .int .i64 j.chunk, .int .i64 j.window, .int .i64 j.fuel, .slice ko j.marks.length kc]] w fun e w' => e = .returned (.bool (mayJ j)) ∧ Below w.heap.size w w' := by
  have HJ := hid (h.below (alloc_one w (.cells #[.slice so j.splits.length sc, .int .i64 j.parts, .slice mo j.mp.length mc, .slice co j.cb.length cc, .slice ro j.rd.length rc, .int .i64 j.chunk, .int .i64 j.window, .int .i64 j.fuel, .slice ko j.marks.length kc] 26)))
  have HA := hid (At.new w #[.slice so j.splits.length sc, .int .i64 j.parts, .slice mo j.mp.length mc, .slice co j.cb.length cc, .slice ro j.rd.length rc, .int .i64 j.chunk, .int .i64 j.window, .int .i64 j.fuel, .slice ko j.marks.length kc] 26)
  have HB := hid (alloc_one w (.cells #[.slice so j.splits.length sc, .int .i64 j.parts, .slice mo j.mp.length mc, .slice co j.cb.length cc, .slice ro j.rd.length rc, .int .i64 j.chunk, .int .i64 j.window, .int .i64 j.fuel, .slice ko j.marks.length kc] 26))
  have hsl : j.splits.length ≤ 9223372036854775807 := by
    obtain ⟨ao, ca, e, a1, a2, -⟩ := h.sp.slice
    unfold maxLen at a2
    omega
  clear h
  go_enter Try.func8, Try.ntmps8
  go_wp2_with fail
  refine (maySplits_any _ j.splits _ HJ.out.sp).mono ?_
  rintro e w0 ⟨rfl, hb0⟩
  replace HA := hid (HA.out.below hb0 (by simp))
  replace HJ := hid (HJ.out.below hb0)
  have HZ := hid (show w.heap.size < w0.heap.size by have := hb0.size; simp at this; omega)
  replace HB := hid (below_then HB.out hb0 HB.out.size)
  clear hb0
  try clear c0 c1 c2 c3 c4 c5 c6 c7 c8
  have c0 := HA.out 0 _ rfl
  have c1 := HA.out 1 _ rfl
  have c2 := HA.out 2 _ rfl
  have c3 := HA.out 3 _ rfl
  have c4 := HA.out 4 _ rfl
  have c5 := HA.out 5 _ rfl
  have c6 := HA.out 6 _ rfl
  have c7 := HA.out 7 _ rfl
  have c8 := HA.out 8 _ rfl
  obtain ⟨g0, hg0⟩ : ∃ g, (inI j.splits.length 1 6 && j.splits.all splitJ) = g := ⟨_, rfl⟩
  have H0 := hid hg0
  rw [hg0]
  clear hg0
  cases g0
  · have HR := hid (show mayJ j = false by rw [mayJ_prog, H0.out]; simp)
    go_wp2
    go_ret
    exact ⟨by rw [HR.out]; rfl, HB.out⟩
  · skip
    go_wp2_with fail
    refine (within_calls _ _ _ _).mono ?_
    rintro e wx ⟨rfl, rfl⟩
    obtain ⟨g1, hg1⟩ : ∃ g, (inI j.parts 1 4) = g := ⟨_, rfl⟩
    have H1 := hid hg1
    rw [hg1]
    clear hg1
    cases g1
    · have HR := hid (show mayJ j = false by rw [mayJ_prog, H1.out]; simp)
      go_wp2
      go_ret
      exact ⟨by rw [HR.out]; rfl, HB.out⟩
    · skip
      go_wp2_with fail
      refine (mayDo_any _ j.mp _ HJ.out.mp).mono ?_
      rintro e w2 ⟨rfl, hb2⟩
      replace HA := hid (HA.out.below hb2 HZ.out)
      replace HJ := hid (HJ.out.below hb2)
      replace HZ := hid (Nat.lt_of_lt_of_le HZ.out hb2.size)
      replace HB := hid (below_then HB.out hb2 HB.out.size)
      clear hb2
      clear c0 c1 c2 c3 c4 c5 c6 c7 c8
      have c0 := HA.out 0 _ rfl
      have c1 := HA.out 1 _ rfl
      have c2 := HA.out 2 _ rfl
      have c3 := HA.out 3 _ rfl
      have c4 := HA.out 4 _ rfl
      have c5 := HA.out 5 _ rfl
      have c6 := HA.out 6 _ rfl
      have c7 := HA.out 7 _ rfl
      have c8 := HA.out 8 _ rfl
      obtain ⟨g2, hg2⟩ : ∃ g, (decide (j.mp ≠ []) && decide (bad j.mp < 0)) = g := ⟨_, rfl⟩
      have H2 := hid hg2
      rw [hg2]
      clear hg2
      cases g2
      · have HR := hid (show mayJ j = false by rw [mayJ_prog, H2.out]; simp)
        go_wp2
        go_ret
        exact ⟨by rw [HR.out]; rfl, HB.out⟩
      · skip
        go_wp2_with fail
        refine (mayDo_any _ j.rd _ HJ.out.rd).mono ?_
        rintro e w3 ⟨rfl, hb3⟩
        replace HA := hid (HA.out.below hb3 HZ.out)
        replace HJ := hid (HJ.out.below hb3)
        replace HZ := hid (Nat.lt_of_lt_of_le HZ.out hb3.size)
        replace HB := hid (below_then HB.out hb3 HB.out.size)
        clear hb3
        clear c0 c1 c2 c3 c4 c5 c6 c7 c8
        have c0 := HA.out 0 _ rfl
        have c1 := HA.out 1 _ rfl
        have c2 := HA.out 2 _ rfl
        have c3 := HA.out 3 _ rfl
        have c4 := HA.out 4 _ rfl
        have c5 := HA.out 5 _ rfl
        have c6 := HA.out 6 _ rfl
        have c7 := HA.out 7 _ rfl
        have c8 := HA.out 8 _ rfl
        obtain ⟨g3, hg3⟩ : ∃ g, (decide (j.rd ≠ []) && decide (bad j.rd < 0)) = g := ⟨_, rfl⟩
        have H3 := hid hg3
        rw [hg3]
        clear hg3
        cases g3
        · have HR := hid (show mayJ j = false by rw [mayJ_prog, H3.out]; simp)
          go_wp2
          go_ret
          exact ⟨by rw [HR.out]; rfl, HB.out⟩
        · skip
          go_wp2_with fail
          refine (may_any _ j.cb _ HJ.out.cb).mono ?_
          rintro e w4 ⟨rfl, hb4⟩
          replace HA := hid (HA.out.below hb4 HZ.out)
          replace HJ := hid (HJ.out.below hb4)
          replace HZ := hid (Nat.lt_of_lt_of_le HZ.out hb4.size)
          replace HB := hid (below_then HB.out hb4 HB.out.size)
          clear hb4
          clear c0 c1 c2 c3 c4 c5 c6 c7 c8
          have c0 := HA.out 0 _ rfl
          have c1 := HA.out 1 _ rfl
          have c2 := HA.out 2 _ rfl
          have c3 := HA.out 3 _ rfl
          have c4 := HA.out 4 _ rfl
          have c5 := HA.out 5 _ rfl
          have c6 := HA.out 6 _ rfl
          have c7 := HA.out 7 _ rfl
          have c8 := HA.out 8 _ rfl
          obtain ⟨g4, hg4⟩ : ∃ g, (decide (bad j.cb < 0)) = g := ⟨_, rfl⟩
          have H4 := hid hg4
          rw [hg4]
          clear hg4
          cases g4
          · have HR := hid (show mayJ j = false by rw [mayJ_prog, H4.out]; simp)
            go_wp2
            go_ret
            exact ⟨by rw [HR.out]; rfl, HB.out⟩
          · skip
            go_wp2_with fail
            refine (within_calls _ _ _ _).mono ?_
            rintro e wx ⟨rfl, rfl⟩
            obtain ⟨g5, hg5⟩ : ∃ g, (inI j.chunk 1 7) = g := ⟨_, rfl⟩
            have H5 := hid hg5
            rw [hg5]
            clear hg5
            cases g5
            · have HR := hid (show mayJ j = false by rw [mayJ_prog, H5.out]; simp)
              go_wp2
              go_ret
              exact ⟨by rw [HR.out]; rfl, HB.out⟩
            · skip
              go_wp2_with fail
              refine (within_calls _ _ _ _).mono ?_
              rintro e wx ⟨rfl, rfl⟩
              obtain ⟨g6, hg6⟩ : ∃ g, (inI j.window 1 4) = g := ⟨_, rfl⟩
              have H6 := hid hg6
              rw [hg6]
              clear hg6
              cases g6
              · have HR := hid (show mayJ j = false by rw [mayJ_prog, H6.out]; simp)
                go_wp2
                go_ret
                exact ⟨by rw [HR.out]; rfl, HB.out⟩
              · skip
                go_wp2_with fail
                refine (within_calls _ _ _ _).mono ?_
                rintro e wx ⟨rfl, rfl⟩
                obtain ⟨g7, hg7⟩ : ∃ g, (inI j.fuel 1 2000) = g := ⟨_, rfl⟩
                have H7 := hid hg7
                rw [hg7]
                clear hg7
                cases g7
                · have HR := hid (show mayJ j = false by rw [mayJ_prog, H7.out]; simp)
                  go_wp2
                  go_ret
                  exact ⟨by rw [HR.out]; rfl, HB.out⟩
                · skip
                  go_wp2_with fail
                  refine (mayMarks_any _ j.marks _ _ HJ.out.mks (by have := H0.out; simp only [Bool.and_eq_true] at this; have := (inI_iff.1 this.1).2; omega)).mono ?_
                  rintro e wx ⟨rfl, rfl⟩
                  obtain ⟨g8, hg8⟩ : ∃ g, (marksOk j.splits.length j.marks) = g := ⟨_, rfl⟩
                  have H8 := hid hg8
                  rw [hg8]
                  clear hg8
                  cases g8
                  · have HR := hid (show mayJ j = false by rw [mayJ_prog, H8.out]; simp)
                    go_wp2
                    go_ret
                    exact ⟨by rw [HR.out]; rfl, HB.out⟩
                  · skip
                    have HR := hid (show mayJ j = true by rw [mayJ_prog, H0.out, H1.out, H2.out, H3.out, H4.out, H5.out, H6.out, H7.out, H8.out]; rfl)
                    go_wp2
                    go_ret
                    exact ⟨by rw [HR.out]; rfl, HB.out⟩
theorem mayC_prog (c : CfgV) : mayC c = (((inI c.workers 1 4 && inI c.tries 1 3) && inI c.timeout 1 50) && mayJ c.job) := by
  unfold mayC
  ac_rfl
set_option maxHeartbeats 4000000 in
theorem mayConfig_any (c : CfgV) (so mo co ro ko : Option Addr) (sc mc cc rc kc : Nat) (w : World) (h : JobIs w so mo co ro ko sc mc cc rc kc c.job) :
    Calls Try.prog 10 #[.agg #[.slice so c.job.splits.length sc, .int .i64 c.job.parts, .slice mo c.job.mp.length mc, .slice co c.job.cb.length cc, .slice ro c.job.rd.length rc, .int .i64 c.job.chunk, .int .i64 c.job.window, .int .i64 c.job.fuel, .slice ko c.job.marks.length kc, .int .i64 c.workers, .int .i64 c.tries, .int .i64 c.timeout]] w fun e w' => e = .returned (.bool (mayC c)) ∧ Below w.heap.size w w' := by
  have HJ := hid (h.below (alloc_one w (.cells #[.slice so c.job.splits.length sc, .int .i64 c.job.parts, .slice mo c.job.mp.length mc, .slice co c.job.cb.length cc, .slice ro c.job.rd.length rc, .int .i64 c.job.chunk, .int .i64 c.job.window, .int .i64 c.job.fuel, .slice ko c.job.marks.length kc, .int .i64 c.workers, .int .i64 c.tries, .int .i64 c.timeout] 28)))
  have HB := hid (alloc_one w (.cells #[.slice so c.job.splits.length sc, .int .i64 c.job.parts, .slice mo c.job.mp.length mc, .slice co c.job.cb.length cc, .slice ro c.job.rd.length rc, .int .i64 c.job.chunk, .int .i64 c.job.window, .int .i64 c.job.fuel, .slice ko c.job.marks.length kc, .int .i64 c.workers, .int .i64 c.tries, .int .i64 c.timeout] 28))
  clear h
  go_enter Try.func10, Try.ntmps10
  go_wp2_with fail
  refine (within_calls _ _ _ _).mono ?_
  rintro e wx ⟨rfl, rfl⟩
  obtain ⟨g0, hg0⟩ : ∃ g, (inI c.workers 1 4) = g := ⟨_, rfl⟩
  have H0 := hid hg0
  rw [hg0]
  clear hg0
  cases g0
  · have HR := hid (show mayC c = false by rw [mayC_prog, H0.out]; simp)
    go_wp2
    go_ret
    exact ⟨by rw [HR.out]; rfl, HB.out⟩
  · skip
    go_wp2_with fail
    refine (within_calls _ _ _ _).mono ?_
    rintro e wx ⟨rfl, rfl⟩
    obtain ⟨g1, hg1⟩ : ∃ g, (inI c.tries 1 3) = g := ⟨_, rfl⟩
    have H1 := hid hg1
    rw [hg1]
    clear hg1
    cases g1
    · have HR := hid (show mayC c = false by rw [mayC_prog, H1.out]; simp)
      go_wp2
      go_ret
      exact ⟨by rw [HR.out]; rfl, HB.out⟩
    · skip
      go_wp2_with fail
      refine (within_calls _ _ _ _).mono ?_
      rintro e wx ⟨rfl, rfl⟩
      obtain ⟨g2, hg2⟩ : ∃ g, (inI c.timeout 1 50) = g := ⟨_, rfl⟩
      have H2 := hid hg2
      rw [hg2]
      clear hg2
      cases g2
      · have HR := hid (show mayC c = false by rw [mayC_prog, H2.out]; simp)
        go_wp2
        go_ret
        exact ⟨by rw [HR.out]; rfl, HB.out⟩
      · skip
        go_wp2_with fail
        refine (jobMay_any c.job so mo co ro ko sc mc cc rc kc _ HJ.out).mono ?_
        rintro e w1 ⟨rfl, hb1⟩
        replace HB := hid (below_then HB.out hb1 HB.out.size)
        clear hb1
        obtain ⟨g3, hg3⟩ : ∃ g, (mayJ c.job) = g := ⟨_, rfl⟩
        have H3 := hid hg3
        rw [hg3]
        clear hg3
        cases g3
        · have HR := hid (show mayC c = false by rw [mayC_prog, H3.out]; simp)
          go_wp2
          go_ret
          exact ⟨by rw [HR.out]; rfl, HB.out⟩
        · skip
          have HR := hid (show mayC c = true by rw [mayC_prog, H0.out, H1.out, H2.out, H3.out]; rfl)
          go_wp2
          go_ret
          exact ⟨by rw [HR.out]; rfl, HB.out⟩
end Go.Proofs.Ytjmlanmdlpooaaa
