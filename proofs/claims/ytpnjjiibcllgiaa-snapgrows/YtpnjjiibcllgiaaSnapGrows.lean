/- SnapGrows: each set has itself, and nothing; along three. -/
import Derived.Test.YtpnjjiibcllgiaaSnAwake
import Derived.Test.YtpnjjiibcllgiaaSnLend
import Derived.Test.YtpnjjiibcllgiaaIntsArg
import Derived.Test.YtpnjjiibcllgiaaAppAt
namespace Go.Proofs.Ytpnjjiibcllgiaa
open Go.RowKit
set_option linter.unusedVariables false
set_option maxHeartbeats 4000000 in
theorem snapGrows_walk (W : World) (va : Value) (a : List Int) (ha : rSlice 1 (rInt .i64) W [va] a) (vb : Value) (b : List Int) (hb : rSlice 1 (rInt .i64) W [vb] b) (vc : Value) (c : List Int) (hc : rSlice 1 (rInt .i64) W [vc] c) :
    Calls Try.prog 5 #[va, vb, vc] W fun e w' => e = .returned (.bool true) ∧ Below W.heap.size W w' := by
  have IA := hid (Is.arg ha).1
  have IB := hid (Is.arg hb).1
  have IC := hid (Is.arg hc).1
  obtain ⟨ao, ac, hv, a1, a2, a3, _⟩ := (Is.arg ha).1
  subst hv
  obtain ⟨bo, bc, hv, b1, b2, b3, _⟩ := (Is.arg hb).1
  subst hv
  obtain ⟨co, cc, hv, _⟩ := (Is.arg hc).1
  subst hv
  clear ha hb hc
  by_cases hla : a.length ≤ 20
  · have d1 : decide ((20 : Int) < (a.length : Int)) = false := by simp; omega
    by_cases hlb : b.length ≤ 20
    · have d2 : decide ((20 : Int) < (b.length : Int)) = false := by simp; omega
      by_cases hlc : c.length ≤ 20
      · have d3 : decide ((20 : Int) < (c.length : Int)) = false := by simp; omega
        obtain ⟨i0, hi, hz0, hz1, hz2⟩ := info_parts Try.info3
        go_enter Try.func5, Try.ntmps5
        go_wp2_with (first
          | (at_builtin; refine wpList_append_at_any _ rfl _ _ 22 rfl W.heap.size 3 i0 (.int .i64 0) 1 8 Try.underlying22 hi hz0 hz1 hz2 rfl (by decide) (.slice none 0 0) 0 [] rfl (World.ownsRow_nil _ _ _ _) ao a.length ac (ict a) rfl (by rw [ict_length]; omega) (fun e => ⟨by rw [(a3 e).1]; rfl, (a3 e).2⟩) (IA.out.news (Below.refl _ _)) (ict_oneCell a) (by unfold maxLen; omega) (by omega) (Nat.le_refl _) ?_; intro v1 w1 ho1 hg1 _)
          | (at_builtin; refine wpList_append_at_any _ rfl _ _ 22 rfl W.heap.size 3 i0 (.int .i64 0) 1 8 Try.underlying22 hi hz0 hz1 hz2 rfl (by decide) v1 (0 + a.length) ([] ++ ict a) rfl ho1 bo b.length bc (ict b) rfl (by rw [ict_length]; omega) (fun e => ⟨by rw [(b3 e).1]; rfl, (b3 e).2⟩) (IB.out.news ((Below.refl _ W).grown hg1 (Nat.le_refl _) (by intro q hq; cases hq))) (ict_oneCell b) (by unfold maxLen; omega) (by omega) (((Below.refl _ W).grown hg1 (Nat.le_refl _) (by intro q hq; cases hq)).size) ?_; intro v2 w2 ho2 hg2 _))
        have hb1 : Below W.heap.size W w1 := (Below.refl _ W).grown hg1 (Nat.le_refl _) (by intro q hq; cases hq)
        have hb2 := hb1.grown hg2 hb1.size (fun q hq => (ho1.lt q hq).1)
        have O := hid (show Is w2 v2 (a ++ b) from Is.owned' (by rw [ict_append]; exact ho2))
        obtain ⟨vo, vc, hv⟩ := owns_slice ho2
        obtain ⟨N, hN⟩ : ∃ N, 0 + a.length + b.length = N := ⟨_, rfl⟩
        rw [hN] at hv
        subst hv
        clear hN
        have A2 := hid (IA.out.below hb2)
        have B2 := hid (IB.out.below hb2)
        have C2 := hid (IC.out.below hb2)
        have W2 := hid hb2
        have hlen : (a ++ b).length ≤ 1000000 := by rw [List.length_append]; omega
        have HL := hid hlen
        clear ho1 hg1 ho2 hg2 hb1 hb2 IA IB IC hlen
        go_wp2_with fail
        refine (grows_any _ _ a a w2 A2.out A2.out (by omega)).mono ?_
        rintro e w3 ⟨rfl, hb⟩
        rw [grows_self]
        have A3 := hid (A2.out.below hb)
        have B3 := hid (B2.out.below hb)
        have C3 := hid (C2.out.below hb)
        have O3 := hid (O.out.below hb)
        have W3 := hid (W2.out.trans (hb.mono W2.out.size))
        clear hb A2 B2 C2 O W2
        go_wp2_with fail
        refine (grows_any _ _ [] a w3 (is_nil _) A3.out (by omega)).mono ?_
        rintro e w4 ⟨rfl, hb⟩
        rw [grows_nil]
        have A4 := hid (A3.out.below hb)
        have B4 := hid (B3.out.below hb)
        have C4 := hid (C3.out.below hb)
        have O4 := hid (O3.out.below hb)
        have W4 := hid (W3.out.trans (hb.mono W3.out.size))
        clear hb A3 B3 C3 O3 W3
        go_wp2_with fail
        refine (grows_any _ _ a (a ++ b) w4 A4.out O4.out HL.out).mono ?_
        rintro e w5 ⟨rfl, hb⟩
        rw [grows_left]
        have A5 := hid (A4.out.below hb)
        have B5 := hid (B4.out.below hb)
        have C5 := hid (C4.out.below hb)
        have O5 := hid (O4.out.below hb)
        have W5 := hid (W4.out.trans (hb.mono W4.out.size))
        clear hb A4 B4 C4 O4 W4
        go_wp2_with fail
        refine (grows_any _ _ b (a ++ b) w5 B5.out O5.out HL.out).mono ?_
        rintro e w6 ⟨rfl, hb⟩
        rw [grows_right]
        have A6 := hid (A5.out.below hb)
        have B6 := hid (B5.out.below hb)
        have C6 := hid (C5.out.below hb)
        have W6 := hid (W5.out.trans (hb.mono W5.out.size))
        clear hb A5 B5 C5 O5 W5 HL
        go_wp2_with fail
        refine (grows_any _ _ a b w6 A6.out B6.out (by omega)).mono ?_
        rintro e w7 ⟨rfl, hb⟩
        have A7 := hid (A6.out.below hb)
        have B7 := hid (B6.out.below hb)
        have C7 := hid (C6.out.below hb)
        have W7 := hid (W6.out.trans (hb.mono W6.out.size))
        clear hb A6 B6 C6 W6
        cases hab : growsL a b with
        | false =>
          clear hab
          go_wp2_with fail
          refine (awake_any _).mono ?_
          rintro e w8 ⟨rfl, hb⟩
          have W8 := hid (W7.out.trans (hb.mono W7.out.size))
          clear hb
          go_wp2
          go_ret
          exact ⟨rfl, W8.out⟩
        | true =>
          have HAB := hid hab
          clear hab
          go_wp2_with fail
          refine (grows_any _ _ b c w7 B7.out C7.out (by omega)).mono ?_
          rintro e w8 ⟨rfl, hb⟩
          have A8 := hid (A7.out.below hb)
          have C8 := hid (C7.out.below hb)
          have W8 := hid (W7.out.trans (hb.mono W7.out.size))
          clear hb A7 B7 C7 W7
          cases hbc : growsL b c with
          | false =>
            clear hbc
            go_wp2_with fail
            refine (awake_any _).mono ?_
            rintro e w9 ⟨rfl, hb⟩
            have W9 := hid (W8.out.trans (hb.mono W8.out.size))
            clear hb
            go_wp2
            go_ret
            exact ⟨rfl, W9.out⟩
          | true =>
            have HAC := hid (grows_trans HAB.out hbc)
            clear hbc
            go_wp2_with fail
            refine (grows_any _ _ a c w8 A8.out C8.out (by omega)).mono ?_
            rintro e w9 ⟨rfl, hb⟩
            rw [HAC.out]
            have W9 := hid (W8.out.trans (hb.mono W8.out.size))
            clear hb
            go_wp2_with fail
            refine (awake_any _).mono ?_
            rintro e w10 ⟨rfl, hb⟩
            have W10 := hid (W9.out.trans (hb.mono W9.out.size))
            clear hb
            go_wp2
            go_ret
            exact ⟨rfl, W10.out⟩
      · have d3 : decide ((20 : Int) < (c.length : Int)) = true := by simp; omega
        clear IA IB IC hla hlb hlc
        go_enter Try.func5, Try.ntmps5
        go_wp2_with fail
        refine (awake_any _).mono ?_
        rintro e w1 ⟨rfl, hb⟩
        go_wp2
        go_ret
        exact ⟨rfl, hb⟩
    · have d2 : decide ((20 : Int) < (b.length : Int)) = true := by simp; omega
      clear IA IB IC hla hlb
      go_enter Try.func5, Try.ntmps5
      go_wp2_with fail
      refine (awake_any _).mono ?_
      rintro e w1 ⟨rfl, hb⟩
      go_wp2
      go_ret
      exact ⟨rfl, hb⟩
  · have d1 : decide ((20 : Int) < (a.length : Int)) = true := by simp; omega
    clear IA IB IC hla
    go_enter Try.func5, Try.ntmps5
    go_wp2_with fail
    refine (awake_any _).mono ?_
    rintro e w1 ⟨rfl, hb⟩
    go_wp2
    go_ret
    exact ⟨rfl, hb⟩
end Go.Proofs.Ytpnjjiibcllgiaa
