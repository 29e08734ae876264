/- May of a job and of a configuration: the reference's answers. -/
import Derived.Test.YtjmlanmdlpooaaaJJob
namespace Go.Proofs.Ytjmlanmdlpooaaa
open Go.RowKit
set_option linter.unusedVariables false

theorem refIn_is (n lo hi : Int) (g : Bool) (hg : inI n lo hi = g) (w : World) : Calls Try.prog 25 #[.int .i64 n, .int .i64 lo, .int .i64 hi] w fun e w' => e = .returned (.bool g) ∧ w' = w := by
  subst hg
  by_cases h : lo ≤ n
  · have hd : decide (lo ≤ n) = true := by simpa using h
    have HR := hid (show inI n lo hi = decide (n ≤ hi) by simp [inI, hd])
    go_enter Try.func25, Try.ntmps25
    go_wp2
    go_ret
    exact ⟨by rw [HR.out]; rfl, rfl⟩
  · have hd : decide (lo ≤ n) = false := by simpa using h
    have HR := hid (show inI n lo hi = false by simp [inI, hd])
    go_enter Try.func25, Try.ntmps25
    go_wp2
    go_ret
    exact ⟨by rw [HR.out]; rfl, rfl⟩
theorem refIn_quiet (n lo hi : Int) (g : Bool) (hg : inI n lo hi = g) (w : World) (t : Nat) : ∀ q, Calls Try.prog 25 #[.int .i64 n, .int .i64 lo, .int .i64 hi] (w.drewN (t + q)) fun e w' => e = .returned (.bool g) ∧ ∃ m, w' = w.drewN (t + m) :=
  fun q => (refIn_is n lo hi g hg (w.drewN (t + q))).mono fun e w' ⟨h1, h2⟩ => ⟨h1, q, h2⟩
/-- One limb that is false. -/
theorem mayJ_not {j : JobV} (h : inI j.splits.length 1 6 = false ∨ inI j.parts 1 4 = false ∨ j.mp.length = 0 ∨ j.rd.length = 0 ∨ 0 ≤ bad j.mp ∨ 0 ≤ bad j.cb ∨ 0 ≤ bad j.rd ∨ j.splits.all splitJ = false ∨ inI j.chunk 1 7 = false ∨ inI j.window 1 4 = false ∨ inI j.fuel 1 2000 = false ∨ 4 < j.marks.length ∨ marksJ j.splits.length j.marks = false) : mayJ j = false := by
  cases e : mayJ j with
  | false => rfl
  | true =>
    unfold mayJ at e
    simp only [Bool.and_eq_true, decide_eq_true_eq] at e
    obtain ⟨⟨⟨⟨⟨⟨⟨⟨⟨⟨⟨⟨e1, e2⟩, e3⟩, e4⟩, e5⟩, e6⟩, e7⟩, e8⟩, e9⟩, e10⟩, e11⟩, e12⟩, e13⟩ := e
    rcases h with h | h | h | h | h | h | h | h | h | h | h | h | h
    · rw [h] at e1; cases e1
    · rw [h] at e2; cases e2
    · exact absurd (List.eq_nil_of_length_eq_zero h) e3
    · exact absurd (List.eq_nil_of_length_eq_zero h) e4
    · omega
    · omega
    · omega
    · rw [h] at e8; cases e8
    · rw [h] at e9; cases e9
    · rw [h] at e10; cases e10
    · rw [h] at e11; cases e11
    · omega
    · rw [h] at e13; cases e13
theorem mayJ_yes {j : JobV} (h1 : inI j.splits.length 1 6 = true) (h2 : inI j.parts 1 4 = true) (h3 : ¬ j.mp.length = 0) (h4 : ¬ j.rd.length = 0) (h5 : bad j.mp < 0) (h6 : bad j.cb < 0) (h7 : bad j.rd < 0) (h8 : j.splits.all splitJ = true) (h9 : inI j.chunk 1 7 = true) (h10 : inI j.window 1 4 = true) (h11 : inI j.fuel 1 2000 = true) (h12 : ¬ 4 < j.marks.length) (h13 : marksJ j.splits.length j.marks = true) : mayJ j = true := by
  unfold mayJ
  simp only [Bool.and_eq_true, decide_eq_true_eq]
  exact ⟨⟨⟨⟨⟨⟨⟨⟨⟨⟨⟨⟨h1, h2⟩, fun e => h3 (by rw [e]; rfl)⟩, fun e => h4 (by rw [e]; rfl)⟩, by omega⟩, by omega⟩, by omega⟩, h8⟩, h9⟩, h10⟩, h11⟩, by omega⟩, h13⟩

set_option maxHeartbeats 8000000 in
set_option maxRecDepth 100000 in
theorem refMayJ_any (j : JobV) (so mo co ro ko : Option Addr) (sc mc cc rc kc : Nat) (w : World) (h : JobIs w so mo co ro ko sc mc cc rc kc j) :
    Calls Try.prog 9 #[.agg #[.slice so j.splits.length sc, .int .i64 j.parts, .slice mo j.mp.length mc, .slice co j.cb.length cc, .slice ro j.rd.length rc, .int .i64 j.chunk, .int .i64 j.window, .int .i64 j.fuel, .slice ko j.marks.length kc]] w fun e w' => e = .returned (.bool (mayJ j)) ∧ Below w.heap.size w w' := by
  have hsl : j.splits.length ≤ 9223372036854775807 := by
    obtain ⟨ao, ca, e, a1, a2, -⟩ := h.sp.slice
    unfold maxLen at a2
    omega
  have hkl : j.marks.length ≤ 9223372036854775807 := by
    obtain ⟨ao, ca, e, a1, a2, -⟩ := h.mks
    simp only [Value.slice.injEq] at e
    obtain ⟨-, -, rfl⟩ := e
    unfold maxLen at a2
    omega
  obtain ⟨nm, hnm⟩ : ∃ n, j.mp.length = n := ⟨_, rfl⟩
  obtain ⟨nr, hnr⟩ : ∃ n, j.rd.length = n := ⟨_, rfl⟩
  have HNM := hid hnm
  have HNR := hid hnr
  rw [hnm, hnr]
  have HJ := hid (h.below (alloc_one w (.cells #[.slice so j.splits.length sc, .int .i64 j.parts, .slice mo nm mc, .slice co j.cb.length cc, .slice ro nr rc, .int .i64 j.chunk, .int .i64 j.window, .int .i64 j.fuel, .slice ko j.marks.length kc] 26)))
  have HA := hid (At.new w #[.slice so j.splits.length sc, .int .i64 j.parts, .slice mo nm mc, .slice co j.cb.length cc, .slice ro nr rc, .int .i64 j.chunk, .int .i64 j.window, .int .i64 j.fuel, .slice ko j.marks.length kc] 26)
  have HB := hid (alloc_one w (.cells #[.slice so j.splits.length sc, .int .i64 j.parts, .slice mo nm mc, .slice co j.cb.length cc, .slice ro nr rc, .int .i64 j.chunk, .int .i64 j.window, .int .i64 j.fuel, .slice ko j.marks.length kc] 26))
  clear h hnm hnr
  go_enter Try.func9, Try.ntmps9
  go_wp2_with fail
  refine (refIn_is _ _ _ _ rfl _).mono ?_
  rintro e wx ⟨rfl, rfl⟩
  obtain ⟨g0, hg0⟩ : ∃ g, (inI j.splits.length 1 6) = g := ⟨_, rfl⟩
  have H0 := hid hg0
  rw [hg0]
  clear hg0
  cases g0
  · have HR := hid (mayJ_not (j := j) (.inl H0.out))
    go_wp2
    go_ret
    exact ⟨by rw [HR.out]; rfl, HB.out⟩
  · skip
    go_wp2_with fail
    refine (refIn_is _ _ _ _ rfl _).mono ?_
    rintro e wx ⟨rfl, rfl⟩
    obtain ⟨g1, hg1⟩ : ∃ g, (inI j.parts 1 4) = g := ⟨_, rfl⟩
    have H1 := hid hg1
    rw [hg1]
    clear hg1
    cases g1
    · have HR := hid (mayJ_not (j := j) (.inr (.inl H1.out)))
      go_wp2
      go_ret
      exact ⟨by rw [HR.out]; rfl, HB.out⟩
    · skip
      by_cases hz2 : nm = 0
      · subst hz2
        have HR := hid (mayJ_not (j := j) (.inr (.inr (.inl HNM.out))))
        go_wp2
        go_ret
        exact ⟨by rw [HR.out]; rfl, HB.out⟩
      · have hp2 : 0 < nm := by omega
        have H2 := hid (show ¬ j.mp.length = 0 by rw [HNM.out]; exact hz2)
        have hy2 : ((nm : Int) == 0) = false := by simp; omega
        have hx2 : decide ((nm : Int) = 0) = false := by simp; omega
        by_cases hz3 : nr = 0
        · subst hz3
          have HR := hid (mayJ_not (j := j) (.inr (.inr (.inr (.inl HNR.out)))))
          go_wp2
          go_ret
          exact ⟨by rw [HR.out]; rfl, HB.out⟩
        · have hp3 : 0 < nr := by omega
          have H3 := hid (show ¬ j.rd.length = 0 by rw [HNR.out]; exact hz3)
          have hy3 : ((nr : Int) == 0) = false := by simp; omega
          have hx3 : decide ((nr : Int) = 0) = false := by simp; omega
          go_wp2_with fail
          refine (refBad_any _ j.mp _ (by have := HJ.out.mp; rw [HNM.out] at this; exact this)).mono ?_
          rintro e w4 ⟨rfl, hb4⟩
          replace HA := hid (HA.out.below hb4 (by simp))
          replace HJ := hid (HJ.out.below hb4)
          have HZ := hid (show w.heap.size < w4.heap.size by have := hb4.size; simp at this; omega)
          replace HB := hid (below_then HB.out hb4 HB.out.size)
          clear hb4
          have c0 := HA.out 0 _ rfl
          have c1 := HA.out 1 _ rfl
          have c2 := HA.out 2 _ rfl
          have c3 := HA.out 3 _ rfl
          have c4 := HA.out 4 _ rfl
          have c5 := HA.out 5 _ rfl
          have c6 := HA.out 6 _ rfl
          have c7 := HA.out 7 _ rfl
          have c8 := HA.out 8 _ rfl
          obtain ⟨g4, hg4⟩ : ∃ g, bad j.mp = g := ⟨_, rfl⟩
          have HX4 := hid hg4
          rw [hg4]
          clear hg4
          by_cases hz4 : 0 ≤ g4
          · have hd4 : decide (0 ≤ g4) = true := by simpa using hz4
            have HR := hid (mayJ_not (j := j) (.inr (.inr (.inr (.inr (.inl (by rw [HX4.out]; exact hz4)))))))
            go_wp2
            go_ret
            exact ⟨by rw [HR.out]; rfl, HB.out⟩
          · have hd4 : decide (0 ≤ g4) = false := by simpa using hz4
            have H4 := hid (show bad j.mp < 0 by rw [HX4.out]; omega)
            clear hz4
            go_wp2_with fail
            refine (refBad_any _ j.cb _ HJ.out.cb).mono ?_
            rintro e w5 ⟨rfl, hb5⟩
            replace HA := hid (HA.out.below hb5 HZ.out)
            replace HJ := hid (HJ.out.below hb5)
            replace HZ := hid (Nat.lt_of_lt_of_le HZ.out hb5.size)
            replace HB := hid (below_then HB.out hb5 HB.out.size)
            clear hb5
            clear c0 c1 c2 c3 c4 c5 c6 c7 c8
            have c0 := HA.out 0 _ rfl
            have c1 := HA.out 1 _ rfl
            have c2 := HA.out 2 _ rfl
            have c3 := HA.out 3 _ rfl
            have c4 := HA.out 4 _ rfl
            have c5 := HA.out 5 _ rfl
            have c6 := HA.out 6 _ rfl
            have c7 := HA.out 7 _ rfl
            have c8 := HA.out 8 _ rfl
            obtain ⟨g5, hg5⟩ : ∃ g, bad j.cb = g := ⟨_, rfl⟩
            have HX5 := hid hg5
            rw [hg5]
            clear hg5
            by_cases hz5 : 0 ≤ g5
            · have hd5 : decide (0 ≤ g5) = true := by simpa using hz5
              have HR := hid (mayJ_not (j := j) (.inr (.inr (.inr (.inr (.inr (.inl (by rw [HX5.out]; exact hz5))))))))
              go_wp2
              go_ret
              exact ⟨by rw [HR.out]; rfl, HB.out⟩
            · have hd5 : decide (0 ≤ g5) = false := by simpa using hz5
              have H5 := hid (show bad j.cb < 0 by rw [HX5.out]; omega)
              clear hz5
              go_wp2_with fail
              refine (refBad_any _ j.rd _ (by have := HJ.out.rd; rw [HNR.out] at this; exact this)).mono ?_
              rintro e w6 ⟨rfl, hb6⟩
              replace HA := hid (HA.out.below hb6 HZ.out)
              replace HJ := hid (HJ.out.below hb6)
              replace HZ := hid (Nat.lt_of_lt_of_le HZ.out hb6.size)
              replace HB := hid (below_then HB.out hb6 HB.out.size)
              clear hb6
              clear c0 c1 c2 c3 c4 c5 c6 c7 c8
              have c0 := HA.out 0 _ rfl
              have c1 := HA.out 1 _ rfl
              have c2 := HA.out 2 _ rfl
              have c3 := HA.out 3 _ rfl
              have c4 := HA.out 4 _ rfl
              have c5 := HA.out 5 _ rfl
              have c6 := HA.out 6 _ rfl
              have c7 := HA.out 7 _ rfl
              have c8 := HA.out 8 _ rfl
              obtain ⟨g6, hg6⟩ : ∃ g, bad j.rd = g := ⟨_, rfl⟩
              have HX6 := hid hg6
              rw [hg6]
              clear hg6
              by_cases hz6 : 0 ≤ g6
              · have hd6 : decide (0 ≤ g6) = true := by simpa using hz6
                have HR := hid (mayJ_not (j := j) (.inr (.inr (.inr (.inr (.inr (.inr (.inl (by rw [HX6.out]; exact hz6)))))))))
                go_wp2
                go_ret
                exact ⟨by rw [HR.out]; rfl, HB.out⟩
              · have hd6 : decide (0 ≤ g6) = false := by simpa using hz6
                have H6 := hid (show bad j.rd < 0 by rw [HX6.out]; omega)
                clear hz6
                go_wp2
                go_loop [3] (fun i => ∃ k : Nat, k ≤ j.splits.length ∧ (j.splits.take k).all splitJ = true ∧ i = .int .i64 k) (fun i => j.splits.length - (intOf i).toNat)
                case atStart => exact ⟨0, by omega, rfl, rfl⟩
                case round =>
                  obtain ⟨k, hk, hm, rfl⟩ := hrel
                  have HM := hid hm
                  clear hm
                  by_cases hlt : k < j.splits.length
                  · obtain ⟨b, off, l, xo, xc, hl, rfl, hb, x1, hp⟩ := HJ.out.sp.cell hlt
                    have HL := hid hl
                    have HP := hid hp
                    clear hl hp
                    have hdk : decide ((k : Int) < (j.splits.length : Int)) = true := by simp; omega
                    by_cases h8 : 8 < l.length
                    · have hd8 : decide ((8 : Int) < (l.length : Int)) = true := by simp; omega
                      have HR := hid (mayJ_not (j := j) (.inr (.inr (.inr (.inr (.inr (.inr (.inr (.inl (splits_not HL.out (by rw [splitJ_eq, decide_eq_false (by omega)]; rfl)))))))))))
                      go_wp2
                      go_ret
                      exact ⟨by rw [HR.out]; rfl, HB.out⟩
                    · have hd8 : decide ((8 : Int) < (l.length : Int)) = false := by simp; omega
                      go_wp2_with fail
                      refine (refMay_any _ l _ HP.out).mono ?_
                      rintro e w6 ⟨rfl, rfl⟩
                      obtain ⟨gp, hgp⟩ : ∃ g, mayP l = g := ⟨_, rfl⟩
                      have HGP := hid hgp
                      rw [hgp]
                      clear hgp
                      cases gp
                      · have HR := hid (mayJ_not (j := j) (.inr (.inr (.inr (.inr (.inr (.inr (.inr (.inl (splits_not HL.out (by rw [splitJ_eq, HGP.out]; simp)))))))))))
                        go_wp2
                        go_ret
                        exact ⟨by rw [HR.out]; rfl, HB.out⟩
                      · have HS := hid (splits_step HM.out HL.out (by rw [splitJ_eq, HGP.out, decide_eq_true (by omega)]; rfl))
                        go_wp2
                        go_round
                        case rel => exact ⟨k + 1, by omega, HS.out, by go_num⟩
                        case measure => simp [intOf]; omega
                  · obtain rfl : k = j.splits.length := by omega
                    have hdk : decide ((j.splits.length : Int) < (j.splits.length : Int)) = false := by simp
                    have H7 := hid (show j.splits.all splitJ = true by have := HM.out; rw [List.take_length] at this; exact this)
                    clear HM
                    go_wp2_with fail
                    refine (refIn_is _ _ _ _ rfl _).mono ?_
                    rintro e w6 ⟨rfl, rfl⟩
                    obtain ⟨g8, hg8⟩ : ∃ g, (inI j.chunk 1 7) = g := ⟨_, rfl⟩
                    have H8 := hid hg8
                    rw [hg8]
                    clear hg8
                    cases g8
                    · have HR := hid (mayJ_not (j := j) (.inr (.inr (.inr (.inr (.inr (.inr (.inr (.inr (.inl H8.out))))))))))
                      go_wp2
                      go_ret
                      exact ⟨by rw [HR.out]; rfl, HB.out⟩
                    · skip
                      go_wp2_with fail
                      refine (refIn_is _ _ _ _ rfl _).mono ?_
                      rintro e w6 ⟨rfl, rfl⟩
                      obtain ⟨g9, hg9⟩ : ∃ g, (inI j.window 1 4) = g := ⟨_, rfl⟩
                      have H9 := hid hg9
                      rw [hg9]
                      clear hg9
                      cases g9
                      · have HR := hid (mayJ_not (j := j) (.inr (.inr (.inr (.inr (.inr (.inr (.inr (.inr (.inr (.inl H9.out)))))))))))
                        go_wp2
                        go_ret
                        exact ⟨by rw [HR.out]; rfl, HB.out⟩
                      · skip
                        go_wp2_with fail
                        refine (refIn_is _ _ _ _ rfl _).mono ?_
                        rintro e w6 ⟨rfl, rfl⟩
                        obtain ⟨g10, hg10⟩ : ∃ g, (inI j.fuel 1 2000) = g := ⟨_, rfl⟩
                        have H10 := hid hg10
                        rw [hg10]
                        clear hg10
                        cases g10
                        · have HR := hid (mayJ_not (j := j) (.inr (.inr (.inr (.inr (.inr (.inr (.inr (.inr (.inr (.inr (.inl H10.out))))))))))))
                          go_wp2
                          go_ret
                          exact ⟨by rw [HR.out]; rfl, HB.out⟩
                        · skip
                          by_cases h4 : 4 < j.marks.length
                          · have hd4 : decide ((4 : Int) < (j.marks.length : Int)) = true := by simp; omega
                            have HR := hid (mayJ_not (j := j) (.inr (.inr (.inr (.inr (.inr (.inr (.inr (.inr (.inr (.inr (.inr (.inl h4)))))))))))))
                            go_wp2
                            go_ret
                            exact ⟨by rw [HR.out]; rfl, HB.out⟩
                          · have hd4 : decide ((4 : Int) < (j.marks.length : Int)) = false := by simp; omega
                            have H11 := hid h4
                            clear h4
                            go_wp2
                            go_loopw [4] (fun i wr => ∃ k : Nat, k ≤ j.marks.length ∧ MarksTo j.splits.length j.marks k ∧ i = .int .i64 k ∧ ∃ t, wr = w6.drewN t) (fun i _ => j.marks.length - (intOf i).toNat)
                            case atStart => exact ⟨0, by omega, MarksTo.zero _ _, rfl, 0, rfl⟩
                            case round =>
                              obtain ⟨k, hk, hm, rfl, t, rfl⟩ := hrel
                              have HM := hid hm
                              clear hm
                              have HBt := hid (below_then HB.out (below_drew _ t) HB.out.size)
                              by_cases hlt : k < j.marks.length
                              · obtain ⟨b, off, x, hx, rfl, hb, x1⟩ := HJ.out.mks.cell hlt
                                have HX := hid hx
                                clear hx
                                have hdk : decide ((k : Int) < (j.marks.length : Int)) = true := by simp; omega
                                have hk2 : (0 : Int) ≤ (k : Int) := by omega
                                have hkn : (k : Int) < (j.marks.length : Int) := by omega
                                obtain ⟨gi, hgi⟩ : ∃ g, inI x 1 j.splits.length = g := ⟨_, rfl⟩
                                have HI := hid hgi
                                clear hgi
                                cases gi
                                · have HR := hid (mayJ_not (j := j) (.inr (.inr (.inr (.inr (.inr (.inr (.inr (.inr (.inr (.inr (.inr (.inr ((marksJ_not HX.out (.inl HI.out))))))))))))))))
                                  go_wp2
                                  go_quiet ((go_at_call 25; exact refIn_quiet _ _ _ _ HI.out w6 t _))
                                  go_wp2
                                  go_ret
                                  exact ⟨by rw [HR.out]; rfl, below_then HBt.out (below_drew _ _) HBt.out.size⟩
                                · by_cases hk0 : k = 0
                                  · have HK0 := hid hk0
                                    have hd0 : decide ((0 : Int) < (k : Int)) = false := by simp; omega
                                    have hd1 : decide (0 < k) = false := by simp; omega
                                    have HS := hid (HM.out.step HX.out HI.out (fun y h0 => by omega))
                                    clear hk0
                                    go_wp2
                                    go_quiet ((go_at_call 25; exact refIn_quiet _ _ _ _ HI.out w6 t _))
                                    go_wp2
                                    go_roundw
                                    case rel => exact ⟨k + 1, by omega, HS.out, by go_num, _, rfl⟩
                                    case measure => simp [intOf]; omega
                                  · have hd0 : decide ((0 : Int) < (k : Int)) = true := by simp; omega
                                    obtain ⟨q, hq⟩ : ∃ q, k = q + 1 := ⟨k - 1, by omega⟩
                                    have hk1 : ((k : Int) - 1) = (q : Int) := by omega
                                    have hqw : IntKind.i64.wrap (q : Int) = (q : Int) := by rw [IntKind.wrap_i64]; omega
                                    obtain ⟨b2, off2, y, hy, e2, -, y1⟩ := HJ.out.mks.cell (show q < j.marks.length by omega)
                                    simp only [Option.some.injEq, Addr.mk.injEq, and_true] at e2
                                    obtain ⟨rfl, rfl⟩ := e2
                                    have HY := hid (show j.marks[k - 1]? = some y by rw [show k - 1 = q by omega]; exact hy)
                                    clear hy
                                    have hq0 : (0 : Int) ≤ (q : Int) := by omega
                                    have hqn : (q : Int) < (j.marks.length : Int) := by omega
                                    have HQ := hid hq
                                    have hkp : 0 < k := by omega
                                    clear hq hk0
                                    by_cases hxy : x ≤ y
                                    · have hdx : decide (x ≤ y) = true := by simpa using hxy
                                      have HR := hid (mayJ_not (j := j) (.inr (.inr (.inr (.inr (.inr (.inr (.inr (.inr (.inr (.inr (.inr (.inr ((marksJ_not HX.out (.inr ⟨y, hkp, HY.out, by omega⟩))))))))))))))))
                                      go_wp2
                                      go_quiet ((go_at_call 25; exact refIn_quiet _ _ _ _ HI.out w6 t _))
                                      go_wp2
                                      go_ret
                                      exact ⟨by rw [HR.out]; rfl, below_then HBt.out (below_drew _ _) HBt.out.size⟩
                                    · have hdx : decide (x ≤ y) = false := by simpa using hxy
                                      have HS := hid (HM.out.step HX.out HI.out (fun z h0 hz => by rw [HY.out] at hz; cases hz; omega))
                                      go_wp2
                                      go_quiet ((go_at_call 25; exact refIn_quiet _ _ _ _ HI.out w6 t _))
                                      go_wp2
                                      go_roundw
                                      case rel => exact ⟨k + 1, by omega, HS.out, by go_num, _, rfl⟩
                                      case measure => simp [intOf]; omega
                              · obtain rfl : k = j.marks.length := by omega
                                have hdk : decide ((j.marks.length : Int) < (j.marks.length : Int)) = false := by simp
                                have HR := hid (mayJ_yes H0.out H1.out H2.out H3.out H4.out H5.out H6.out H7.out H8.out H9.out H10.out H11.out ((marksJ_iff _ _).2 HM.out))
                                go_wp2
                                go_ret
                                exact ⟨by rw [HR.out]; rfl, HBt.out⟩
theorem mayC_ref (c : CfgV) : mayC c = (((mayJ c.job && inI c.workers 1 4) && inI c.tries 1 3) && inI c.timeout 1 50) := rfl
set_option maxHeartbeats 4000000 in
theorem refMayConfig_any (c : CfgV) (so mo co ro ko : Option Addr) (sc mc cc rc kc : Nat) (w : World) (h : JobIs w so mo co ro ko sc mc cc rc kc c.job) :
    Calls Try.prog 11 #[.agg #[.slice so c.job.splits.length sc, .int .i64 c.job.parts, .slice mo c.job.mp.length mc, .slice co c.job.cb.length cc, .slice ro c.job.rd.length rc, .int .i64 c.job.chunk, .int .i64 c.job.window, .int .i64 c.job.fuel, .slice ko c.job.marks.length kc, .int .i64 c.workers, .int .i64 c.tries, .int .i64 c.timeout]] w fun e w' => e = .returned (.bool (mayC c)) ∧ Below w.heap.size w w' := by
  have HJ := hid (h.below (alloc_one w (.cells #[.slice so c.job.splits.length sc, .int .i64 c.job.parts, .slice mo c.job.mp.length mc, .slice co c.job.cb.length cc, .slice ro c.job.rd.length rc, .int .i64 c.job.chunk, .int .i64 c.job.window, .int .i64 c.job.fuel, .slice ko c.job.marks.length kc, .int .i64 c.workers, .int .i64 c.tries, .int .i64 c.timeout] 28)))
  have HA := hid (At.new w #[.slice so c.job.splits.length sc, .int .i64 c.job.parts, .slice mo c.job.mp.length mc, .slice co c.job.cb.length cc, .slice ro c.job.rd.length rc, .int .i64 c.job.chunk, .int .i64 c.job.window, .int .i64 c.job.fuel, .slice ko c.job.marks.length kc, .int .i64 c.workers, .int .i64 c.tries, .int .i64 c.timeout] 28)
  have HB := hid (alloc_one w (.cells #[.slice so c.job.splits.length sc, .int .i64 c.job.parts, .slice mo c.job.mp.length mc, .slice co c.job.cb.length cc, .slice ro c.job.rd.length rc, .int .i64 c.job.chunk, .int .i64 c.job.window, .int .i64 c.job.fuel, .slice ko c.job.marks.length kc, .int .i64 c.workers, .int .i64 c.tries, .int .i64 c.timeout] 28))
  clear h
  go_enter Try.func11, Try.ntmps11
  go_wp2_with fail
  refine (refMayJ_any c.job so mo co ro ko sc mc cc rc kc _ HJ.out).mono ?_
  rintro e w1 ⟨rfl, hb1⟩
  have c9 := (HA.out.below hb1 (by simp)) 9 _ rfl
  have c10 := (HA.out.below hb1 (by simp)) 10 _ rfl
  have c11 := (HA.out.below hb1 (by simp)) 11 _ rfl
  replace HB := hid (below_then HB.out hb1 HB.out.size)
  clear hb1 HA HJ
  obtain ⟨g0, hg0⟩ : ∃ g, (mayJ c.job) = g := ⟨_, rfl⟩
  have H0 := hid hg0
  rw [hg0]
  clear hg0
  cases g0
  · have HR := hid (show mayC c = false by rw [mayC_ref, H0.out]; simp)
    go_wp2
    go_ret
    exact ⟨by rw [HR.out]; rfl, HB.out⟩
  · skip
    go_wp2_with fail
    refine (refIn_is _ _ _ _ rfl _).mono ?_
    rintro e wx ⟨rfl, rfl⟩
    obtain ⟨g1, hg1⟩ : ∃ g, (inI c.workers 1 4) = g := ⟨_, rfl⟩
    have H1 := hid hg1
    rw [hg1]
    clear hg1
    cases g1
    · have HR := hid (show mayC c = false by rw [mayC_ref, H1.out]; simp)
      go_wp2
      go_ret
      exact ⟨by rw [HR.out]; rfl, HB.out⟩
    · skip
      go_wp2_with fail
      refine (refIn_is _ _ _ _ rfl _).mono ?_
      rintro e wx ⟨rfl, rfl⟩
      obtain ⟨g2, hg2⟩ : ∃ g, (inI c.tries 1 3) = g := ⟨_, rfl⟩
      have H2 := hid hg2
      rw [hg2]
      clear hg2
      cases g2
      · have HR := hid (show mayC c = false by rw [mayC_ref, H2.out]; simp)
        go_wp2
        go_ret
        exact ⟨by rw [HR.out]; rfl, HB.out⟩
      · skip
        go_wp2_with fail
        refine (refIn_is _ _ _ _ rfl _).mono ?_
        rintro e wx ⟨rfl, rfl⟩
        obtain ⟨g3, hg3⟩ : ∃ g, (inI c.timeout 1 50) = g := ⟨_, rfl⟩
        have H3 := hid hg3
        rw [hg3]
        clear hg3
        cases g3
        · have HR := hid (show mayC c = false by rw [mayC_ref, H3.out]; simp)
          go_wp2
          go_ret
          exact ⟨by rw [HR.out]; rfl, HB.out⟩
        · skip
          have HR := hid (show mayC c = true by rw [mayC_ref, H0.out, H1.out, H2.out, H3.out]; rfl)
          go_wp2
          go_ret
          exact ⟨by rw [HR.out]; rfl, HB.out⟩
end Go.Proofs.Ytjmlanmdlpooaaa
