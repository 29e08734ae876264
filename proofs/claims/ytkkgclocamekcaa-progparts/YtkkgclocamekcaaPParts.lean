/- ProgParts' walk: two programs without jumps, and an instruction that may not be between them. -/
import Derived.Test.YtkkgclocamekcaaPPartM
namespace Go.Proofs.Ytkkgclocamekcaa
open Go.RowKit Go.Lib
set_option linter.unusedVariables false

set_option maxHeartbeats 4000000 in
theorem progParts_plain (w : World) (u v : Value) (a b : List Inst) (o : Int) (wo : (Lit.int .i64 o).wf = true) (ha : Co w u a) (hb : Co w v b) :
    Calls Try.prog 4 #[u, v, .int .i64 o] w fun e w' => e = .returned (.bool true) ∧ Below w.heap.size w w' := by
  have HA := hid ha
  have HB := hid hb
  obtain ⟨ao, ca, rfl, a1, a2, a3, -⟩ := ha
  obtain ⟨bo, cb, rfl, b1, b2, b3, -⟩ := hb
  unfold maxLen at a2 b2
  obtain ⟨i0, hi, hz0, hz1, hz2⟩ := info_parts Try.infoIns
  go_enter Try.func4, Try.ntmps4
  go_wp2_with fail
  refine (great_any _ a w HA.out).mono ?_
  rintro e w0 ⟨⟨g, rfl, hg⟩, rfl⟩
  cases g
  · clear hg
    go_wp2_with fail
    refine (great_any _ b w0 HB.out).mono ?_
    rintro e w1 ⟨⟨g, rfl, hg⟩, rfl⟩
    cases g
    · clear hg
      by_cases hla : 20 < a.length
      · have hd1 : decide ((20 : Int) < (a.length : Int)) = true := by simp; omega
        go_wp2_with fail
        refine (awake_calls _).mono ?_
        rintro e w9 ⟨rfl, hb9⟩
        go_wp2
        go_ret
        exact ⟨rfl, hb9⟩
      · have hd1 : decide ((20 : Int) < (a.length : Int)) = false := by simp; omega
        by_cases hlb : 20 < b.length
        · have hd2 : decide ((20 : Int) < (b.length : Int)) = true := by simp; omega
          go_wp2_with fail
          refine (awake_calls _).mono ?_
          rintro e w9 ⟨rfl, hb9⟩
          go_wp2
          go_ret
          exact ⟨rfl, hb9⟩
        · have hd2 : decide ((20 : Int) < (b.length : Int)) = false := by simp; omega
          have tok1 : True := trivial
          go_wp2_with (first | (at_builtin; have _t := tok1; refine wpList_append_own_any _ rfl _ _ 22 rfl w1.heap.size 33 i0 _ 3 32 Try.underlying22 hi hz0 hz1 hz2 rfl (by decide) _ 0 [] rfl (World.ownsRow_nil _ _ _ _) ao a.length ca (icl a) rfl (icl_length a) (fun e => ⟨by rw [(a3 e).1]; rfl, (a3 e).2⟩) (HA.out.news (Below.refl _ _)) (icl_oneCell a) (by unfold maxLen; omega) (by omega) (Nat.le_refl _) ?_; intro v2 w2 ho2 hg2; clear tok1) | (at_builtin; have hb2 : Below w1.heap.size w1 w2 := (Below.refl _ _).grown hg2 (Nat.le_refl _) (by intro q hq; cases hq); refine wpList_append_own_any _ rfl _ _ 22 rfl w1.heap.size 33 i0 _ 3 32 Try.underlying22 hi hz0 hz1 hz2 rfl (by decide) _ (0 + a.length) _ rfl ho2 bo b.length cb (icl b) rfl (icl_length b) (fun e => ⟨by rw [(b3 e).1]; rfl, (b3 e).2⟩) (HB.out.news hb2) (icl_oneCell b) (by unfold maxLen; omega) (by omega) hb2.size ?_; intro v3 w3 ho3 hg3))
          have k3 : Below w1.heap.size w1 w3 := hb2.grown hg3 hb2.size (fun q hq => own_base ho2 hq)
          have hco : Co w3 v3 (a ++ b) := Co.own (base := w1.heap.size) (n := 0 + a.length + b.length) (by rw [icl_append]; exact ho3)
          have HC := hid hco
          obtain ⟨co, cc, rfl, c1, c2, -, -⟩ := hco
          unfold maxLen at c2
          clear ho2 hg2 hb2 ho3 hg3 hd1 hd2
          obtain ⟨c, hc⟩ : ∃ c, a ++ b = c := ⟨_, rfl⟩
          have hcl : c.length = a.length + b.length := by rw [← hc, List.length_append]
          have hc40 : c.length ≤ 40 := by omega
          clear hcl
          rw [hc] at HC c1 ⊢
          have HCC := hid hc
          clear hc
          go_loop [8] (fun i => ∃ k : Nat, k ≤ c.length ∧ i = .int .i64 k ∧ Still c k) (fun i => c.length - (intOf i).toNat)
          case atStart => exact ⟨0, by omega, rfl, still_zero _⟩
          case round =>
            obtain ⟨k, hk, rfl, hS⟩ := hrel
            have HS := hid hS
            clear hS
            by_cases hlt : k < c.length
            · have hd5 : decide ((k : Int) < (c.length : Int)) = true := by simp; omega
              obtain ⟨ao', ca', hvv, _, _, _, h4⟩ := HC.out
              obtain ⟨p, off, rfl, hp, hpc⟩ := h4 (by intro e; rw [e] at hlt; simp at hlt)
              cases hvv
              clear h4
              obtain ⟨x0, x1, x2⟩ := hpc k hlt
              obtain ⟨x, hx⟩ : ∃ x, c.getD k zInst = x := ⟨_, rfl⟩
              have HX := hid hx
              rw [hx] at x0
              clear hx hpc x1 x2
              obtain ⟨xo, xa, xs⟩ := x
              simp only at x0
              by_cases ho : xo = 19
              · have e1 : (xo == 19) = true := by simp [ho]
                go_wp2_with fail
                refine (awake_calls _).mono ?_
                rintro e w9 ⟨rfl, hb9⟩
                go_wp2
                go_ret
                exact ⟨rfl, below_next k3 hb9 k3.size⟩
              · have e1 : (xo == 19) = false := by simp [ho]
                by_cases ho2 : xo = 20
                · have e2 : (xo == 20) = true := by simp [ho2]
                  go_wp2_with fail
                  refine (awake_calls _).mono ?_
                  rintro e w9 ⟨rfl, hb9⟩
                  go_wp2
                  go_ret
                  exact ⟨rfl, below_next k3 hb9 k3.size⟩
                · have e2 : (xo == 20) = false := by simp [ho2]
                  have HN := hid (show jumps (c.getD k zInst) = false by rw [HX.out]; unfold jumps; simp [ho, ho2])
                  go_wp2
                  go_round
                  case rel => exact ⟨k + 1, by omega, by go_num, HS.out.step HN.out⟩
                  case measure => simp [intOf]; omega
            · have hd5 : decide ((k : Int) < (c.length : Int)) = false := by simp; omega
              obtain rfl : k = c.length := by omega
              have HS2 := hid (show Still (a ++ b) (a ++ b).length by rw [HCC.out]; exact HS.out)
              have HM := hid (show decide (bad c < 0) = (decide (bad a < 0) && decide (bad b < 0)) by rw [← HCC.out]; exact may_both (by omega) (by omega) HS2.out)
              go_wp2_with fail
              refine (may_any _ c w3 HC.out).mono ?_
              rintro e w4 ⟨rfl, hb4⟩
              rw [HM.out]
              have k4 := hb4
              have k4' := below_next k3 hb4 k3.size
              clear hb4
              go_wp2_with fail
              refine (may_any _ a w4 (HA.out.below k4')).mono ?_
              rintro e w5 ⟨rfl, hb5⟩
              have k5 := below_next k4 hb5 k4.size
              have k5' := below_next k4' hb5 k4'.size
              clear hb5 k4 k4' hd5
              by_cases hma : bad a < 0
              · have hd6 : decide (bad a < 0) = true := by simpa using hma
                rw [hd6]
                go_wp2_with fail
                refine (may_any _ b w5 (HB.out.below k5')).mono ?_
                rintro e w6 ⟨rfl, hb6⟩
                have k6 := below_next k5 hb6 k5.size
                have k6' := below_next k5' hb6 k5'.size
                clear hb6 k5 k5'
                have HMA := hid hma
                obtain ⟨mb, hmb⟩ : ∃ mb, decide (bad b < 0) = mb := ⟨_, rfl⟩
                rw [hmb]
                have hbb : (mb != mb) = false := by simp
                clear hma hmb
                by_cases hop : 0 ≤ o ∧ o ≤ 23
                · have hd7 : decide (0 ≤ o) = true := by simp; omega
                  have hd8 : decide (o ≤ 23) = true := by simp; omega
                  have HO := hid (show o + 24 < 0 ∨ 23 < o + 24 by omega)
                  have tok2 : True := trivial
                  go_wp2_with (first | (at_builtin; have _t := tok2; refine wpList_append_own_any _ rfl _ _ 22 rfl w6.heap.size 33 i0 _ 3 32 Try.underlying22 hi hz0 hz1 hz2 rfl (by decide) _ 0 [] rfl (World.ownsRow_nil _ _ _ _) ao a.length ca (icl a) rfl (icl_length a) (fun e => ⟨by rw [(a3 e).1]; rfl, (a3 e).2⟩) (HA.out.news k6') (icl_oneCell a) (by unfold maxLen; omega) (by omega) (Nat.le_refl _) ?_; intro v7 w7 ho7 hg7; clear tok2; have hb7 : Below w6.heap.size w6 w7 := (Below.refl _ _).grown hg7 (Nat.le_refl _) (by intro q hq; cases hq); have hz7 := hb7.size; have tok3 : True := trivial) | (at_builtin; have _t := tok3; refine wpList_append_own_any _ rfl _ _ 22 rfl w6.heap.size 33 i0 _ 3 32 Try.underlying22 hi hz0 hz1 hz2 rfl (by decide) _ (0 + a.length) _ rfl (ho7.alloc _) (some ⟨w7.heap.size, 0, none⟩) 1 1 (icl [(o + 24, 0, ⟨#[]⟩)]) rfl (icl_length _) (fun e => by cases e) ((Co.made [(o + 24, 0, ⟨#[]⟩)] w7 (by simp)).news (Below.refl _ _)) (icl_oneCell _) (by unfold maxLen; omega) (by omega) (by simp; omega) ?_; intro v8 w8 ho8 hg8; clear tok3; have hb8 : Below w6.heap.size w6 w8 := (hb7.alloc hz7 _).grown hg8 (by simp; omega) (fun q hq => own_base ho7 hq)) | (at_builtin; refine wpList_append_own_any _ rfl _ _ 22 rfl w6.heap.size 33 i0 _ 3 32 Try.underlying22 hi hz0 hz1 hz2 rfl (by decide) _ (0 + a.length + 1) _ rfl ho8 bo b.length cb (icl b) rfl (icl_length b) (fun e => ⟨by rw [(b3 e).1]; rfl, (b3 e).2⟩) (HB.out.news (below_next k6' (hb8.trans (Below.refl _ _)) k6'.size)) (icl_oneCell b) (by unfold maxLen; omega) (by omega) hb8.size ?_; intro v9 w9 ho9 hg9))
                  have k9 : Below w6.heap.size w6 w9 := hb8.grown hg9 hb8.size (fun q hq => own_base ho8 hq)
                  have HD := hid (show Co w9 v9 (a ++ [(o + 24, 0, ⟨#[]⟩)] ++ b) from Co.own (base := w6.heap.size) (n := 0 + a.length + 1 + b.length) (by rw [icl_append, icl_append]; exact ho9))
                  clear ho7 hg7 hb7 hz7 ho8 hg8 hb8 ho9 hg9
                  have j9 := below_next k6 k9 k6.size
                  have j9' := below_next k6' k9 k6'.size
                  clear k9 k6 k6'
                  refine (may_any _ a w9 (HA.out.below j9')).mono ?_
                  rintro e w10 ⟨rfl, hb10⟩
                  have HD10 := hid (HD.out.below hb10)
                  have j10 := below_next j9 hb10 j9.size
                  have j10' := below_next j9' hb10 j9'.size
                  clear hb10 j9 j9' HD
                  rw [hd6]
                  go_wp2_with fail
                  refine (bad_any _ _ w10 HD10.out).mono ?_
                  rintro e w11 ⟨rfl, hb11⟩
                  rw [bad_between (by omega) HS2.out HMA.out HO.out]
                  have hll : ((a.length : Int) == (a.length : Int)) = true := by simp
                  have j11' := below_next j10' hb11 j10'.size
                  clear hb11 j10' j10
                  go_wp2_with fail
                  refine (bad_any _ a w11 (HA.out.below j11')).mono ?_
                  rintro e w12 ⟨rfl, hb12⟩
                  have j12' := below_next j11' hb12 j11'.size
                  clear hb12 j11'
                  obtain ⟨q, hq⟩ : ∃ q, bad a = q := ⟨_, rfl⟩
                  rw [hq] at hd6 ⊢
                  go_wp2_with fail
                  refine (awake_calls _).mono ?_
                  rintro e w15 ⟨rfl, hb15⟩
                  have j15 := below_next j12' hb15 j12'.size
                  go_wp2
                  go_ret
                  exact ⟨rfl, j15⟩
                · by_cases hlow : o < 0
                  · have hd7 : decide (0 ≤ o) = false := by simp; omega
                    have HO := hid (show o < 0 ∨ 23 < o by omega)
                    have tok2 : True := trivial
                    go_wp2_with (first | (at_builtin; have _t := tok2; refine wpList_append_own_any _ rfl _ _ 22 rfl w6.heap.size 33 i0 _ 3 32 Try.underlying22 hi hz0 hz1 hz2 rfl (by decide) _ 0 [] rfl (World.ownsRow_nil _ _ _ _) ao a.length ca (icl a) rfl (icl_length a) (fun e => ⟨by rw [(a3 e).1]; rfl, (a3 e).2⟩) (HA.out.news k6') (icl_oneCell a) (by unfold maxLen; omega) (by omega) (Nat.le_refl _) ?_; intro v7 w7 ho7 hg7; clear tok2; have hb7 : Below w6.heap.size w6 w7 := (Below.refl _ _).grown hg7 (Nat.le_refl _) (by intro q hq; cases hq); have hz7 := hb7.size; have tok3 : True := trivial) | (at_builtin; have _t := tok3; refine wpList_append_own_any _ rfl _ _ 22 rfl w6.heap.size 33 i0 _ 3 32 Try.underlying22 hi hz0 hz1 hz2 rfl (by decide) _ (0 + a.length) _ rfl (ho7.alloc _) (some ⟨w7.heap.size, 0, none⟩) 1 1 (icl [(o, 0, ⟨#[]⟩)]) rfl (icl_length _) (fun e => by cases e) ((Co.made [(o, 0, ⟨#[]⟩)] w7 (by simp)).news (Below.refl _ _)) (icl_oneCell _) (by unfold maxLen; omega) (by omega) (by simp; omega) ?_; intro v8 w8 ho8 hg8; clear tok3; have hb8 : Below w6.heap.size w6 w8 := (hb7.alloc hz7 _).grown hg8 (by simp; omega) (fun q hq => own_base ho7 hq)) | (at_builtin; refine wpList_append_own_any _ rfl _ _ 22 rfl w6.heap.size 33 i0 _ 3 32 Try.underlying22 hi hz0 hz1 hz2 rfl (by decide) _ (0 + a.length + 1) _ rfl ho8 bo b.length cb (icl b) rfl (icl_length b) (fun e => ⟨by rw [(b3 e).1]; rfl, (b3 e).2⟩) (HB.out.news (below_next k6' (hb8.trans (Below.refl _ _)) k6'.size)) (icl_oneCell b) (by unfold maxLen; omega) (by omega) hb8.size ?_; intro v9 w9 ho9 hg9))
                    have k9 : Below w6.heap.size w6 w9 := hb8.grown hg9 hb8.size (fun q hq => own_base ho8 hq)
                    have HD := hid (show Co w9 v9 (a ++ [(o, 0, ⟨#[]⟩)] ++ b) from Co.own (base := w6.heap.size) (n := 0 + a.length + 1 + b.length) (by rw [icl_append, icl_append]; exact ho9))
                    clear ho7 hg7 hb7 hz7 ho8 hg8 hb8 ho9 hg9
                    have j9 := below_next k6 k9 k6.size
                    have j9' := below_next k6' k9 k6'.size
                    clear k9 k6 k6'
                    refine (may_any _ a w9 (HA.out.below j9')).mono ?_
                    rintro e w10 ⟨rfl, hb10⟩
                    have HD10 := hid (HD.out.below hb10)
                    have j10 := below_next j9 hb10 j9.size
                    have j10' := below_next j9' hb10 j9'.size
                    clear hb10 j9 j9' HD
                    rw [hd6]
                    go_wp2_with fail
                    refine (bad_any _ _ w10 HD10.out).mono ?_
                    rintro e w11 ⟨rfl, hb11⟩
                    rw [bad_between (by omega) HS2.out HMA.out HO.out]
                    have hll : ((a.length : Int) == (a.length : Int)) = true := by simp
                    have j11' := below_next j10' hb11 j10'.size
                    clear hb11 j10' j10
                    go_wp2_with fail
                    refine (bad_any _ a w11 (HA.out.below j11')).mono ?_
                    rintro e w12 ⟨rfl, hb12⟩
                    have j12' := below_next j11' hb12 j11'.size
                    clear hb12 j11'
                    obtain ⟨q, hq⟩ : ∃ q, bad a = q := ⟨_, rfl⟩
                    rw [hq] at hd6 ⊢
                    go_wp2_with fail
                    refine (awake_calls _).mono ?_
                    rintro e w15 ⟨rfl, hb15⟩
                    have j15 := below_next j12' hb15 j12'.size
                    go_wp2
                    go_ret
                    exact ⟨rfl, j15⟩
                  · have hd7 : decide (0 ≤ o) = true := by simp; omega
                    have hd8 : decide (o ≤ 23) = false := by simp; omega
                    have HO := hid (show o < 0 ∨ 23 < o by omega)
                    have tok2 : True := trivial
                    go_wp2_with (first | (at_builtin; have _t := tok2; refine wpList_append_own_any _ rfl _ _ 22 rfl w6.heap.size 33 i0 _ 3 32 Try.underlying22 hi hz0 hz1 hz2 rfl (by decide) _ 0 [] rfl (World.ownsRow_nil _ _ _ _) ao a.length ca (icl a) rfl (icl_length a) (fun e => ⟨by rw [(a3 e).1]; rfl, (a3 e).2⟩) (HA.out.news k6') (icl_oneCell a) (by unfold maxLen; omega) (by omega) (Nat.le_refl _) ?_; intro v7 w7 ho7 hg7; clear tok2; have hb7 : Below w6.heap.size w6 w7 := (Below.refl _ _).grown hg7 (Nat.le_refl _) (by intro q hq; cases hq); have hz7 := hb7.size; have tok3 : True := trivial) | (at_builtin; have _t := tok3; refine wpList_append_own_any _ rfl _ _ 22 rfl w6.heap.size 33 i0 _ 3 32 Try.underlying22 hi hz0 hz1 hz2 rfl (by decide) _ (0 + a.length) _ rfl (ho7.alloc _) (some ⟨w7.heap.size, 0, none⟩) 1 1 (icl [(o, 0, ⟨#[]⟩)]) rfl (icl_length _) (fun e => by cases e) ((Co.made [(o, 0, ⟨#[]⟩)] w7 (by simp)).news (Below.refl _ _)) (icl_oneCell _) (by unfold maxLen; omega) (by omega) (by simp; omega) ?_; intro v8 w8 ho8 hg8; clear tok3; have hb8 : Below w6.heap.size w6 w8 := (hb7.alloc hz7 _).grown hg8 (by simp; omega) (fun q hq => own_base ho7 hq)) | (at_builtin; refine wpList_append_own_any _ rfl _ _ 22 rfl w6.heap.size 33 i0 _ 3 32 Try.underlying22 hi hz0 hz1 hz2 rfl (by decide) _ (0 + a.length + 1) _ rfl ho8 bo b.length cb (icl b) rfl (icl_length b) (fun e => ⟨by rw [(b3 e).1]; rfl, (b3 e).2⟩) (HB.out.news (below_next k6' (hb8.trans (Below.refl _ _)) k6'.size)) (icl_oneCell b) (by unfold maxLen; omega) (by omega) hb8.size ?_; intro v9 w9 ho9 hg9))
                    have k9 : Below w6.heap.size w6 w9 := hb8.grown hg9 hb8.size (fun q hq => own_base ho8 hq)
                    have HD := hid (show Co w9 v9 (a ++ [(o, 0, ⟨#[]⟩)] ++ b) from Co.own (base := w6.heap.size) (n := 0 + a.length + 1 + b.length) (by rw [icl_append, icl_append]; exact ho9))
                    clear ho7 hg7 hb7 hz7 ho8 hg8 hb8 ho9 hg9
                    have j9 := below_next k6 k9 k6.size
                    have j9' := below_next k6' k9 k6'.size
                    clear k9 k6 k6'
                    refine (may_any _ a w9 (HA.out.below j9')).mono ?_
                    rintro e w10 ⟨rfl, hb10⟩
                    have HD10 := hid (HD.out.below hb10)
                    have j10 := below_next j9 hb10 j9.size
                    have j10' := below_next j9' hb10 j9'.size
                    clear hb10 j9 j9' HD
                    rw [hd6]
                    go_wp2_with fail
                    refine (bad_any _ _ w10 HD10.out).mono ?_
                    rintro e w11 ⟨rfl, hb11⟩
                    rw [bad_between (by omega) HS2.out HMA.out HO.out]
                    have hll : ((a.length : Int) == (a.length : Int)) = true := by simp
                    have j11' := below_next j10' hb11 j10'.size
                    clear hb11 j10' j10
                    go_wp2_with fail
                    refine (bad_any _ a w11 (HA.out.below j11')).mono ?_
                    rintro e w12 ⟨rfl, hb12⟩
                    have j12' := below_next j11' hb12 j11'.size
                    clear hb12 j11'
                    obtain ⟨q, hq⟩ : ∃ q, bad a = q := ⟨_, rfl⟩
                    rw [hq] at hd6 ⊢
                    go_wp2_with fail
                    refine (awake_calls _).mono ?_
                    rintro e w15 ⟨rfl, hb15⟩
                    have j15 := below_next j12' hb15 j12'.size
                    go_wp2
                    go_ret
                    exact ⟨rfl, j15⟩
              · have hd6 : decide (bad a < 0) = false := by simpa using hma
                rw [hd6, Bool.false_and]
                have HFF := hid (show bad c = bad a by rw [← HCC.out]; exact bad_first (by omega) HS2.out hma)
                have k6 := k5
                have k6' := k5'
                clear k5 k5'
                have HMA := hid hma
                clear hma
                by_cases hop : 0 ≤ o ∧ o ≤ 23
                · have hd7 : decide (0 ≤ o) = true := by simp; omega
                  have hd8 : decide (o ≤ 23) = true := by simp; omega
                  have HO := hid (show o + 24 < 0 ∨ 23 < o + 24 by omega)
                  have tok2 : True := trivial
                  go_wp2_with (first | (at_builtin; have _t := tok2; refine wpList_append_own_any _ rfl _ _ 22 rfl w5.heap.size 33 i0 _ 3 32 Try.underlying22 hi hz0 hz1 hz2 rfl (by decide) _ 0 [] rfl (World.ownsRow_nil _ _ _ _) ao a.length ca (icl a) rfl (icl_length a) (fun e => ⟨by rw [(a3 e).1]; rfl, (a3 e).2⟩) (HA.out.news k6') (icl_oneCell a) (by unfold maxLen; omega) (by omega) (Nat.le_refl _) ?_; intro v7 w7 ho7 hg7; clear tok2; have hb7 : Below w5.heap.size w5 w7 := (Below.refl _ _).grown hg7 (Nat.le_refl _) (by intro q hq; cases hq); have hz7 := hb7.size; have tok3 : True := trivial) | (at_builtin; have _t := tok3; refine wpList_append_own_any _ rfl _ _ 22 rfl w5.heap.size 33 i0 _ 3 32 Try.underlying22 hi hz0 hz1 hz2 rfl (by decide) _ (0 + a.length) _ rfl (ho7.alloc _) (some ⟨w7.heap.size, 0, none⟩) 1 1 (icl [(o + 24, 0, ⟨#[]⟩)]) rfl (icl_length _) (fun e => by cases e) ((Co.made [(o + 24, 0, ⟨#[]⟩)] w7 (by simp)).news (Below.refl _ _)) (icl_oneCell _) (by unfold maxLen; omega) (by omega) (by simp; omega) ?_; intro v8 w8 ho8 hg8; clear tok3; have hb8 : Below w5.heap.size w5 w8 := (hb7.alloc hz7 _).grown hg8 (by simp; omega) (fun q hq => own_base ho7 hq)) | (at_builtin; refine wpList_append_own_any _ rfl _ _ 22 rfl w5.heap.size 33 i0 _ 3 32 Try.underlying22 hi hz0 hz1 hz2 rfl (by decide) _ (0 + a.length + 1) _ rfl ho8 bo b.length cb (icl b) rfl (icl_length b) (fun e => ⟨by rw [(b3 e).1]; rfl, (b3 e).2⟩) (HB.out.news (below_next k6' (hb8.trans (Below.refl _ _)) k6'.size)) (icl_oneCell b) (by unfold maxLen; omega) (by omega) hb8.size ?_; intro v9 w9 ho9 hg9))
                  have k9 : Below w5.heap.size w5 w9 := hb8.grown hg9 hb8.size (fun q hq => own_base ho8 hq)
                  have HD := hid (show Co w9 v9 (a ++ [(o + 24, 0, ⟨#[]⟩)] ++ b) from Co.own (base := w5.heap.size) (n := 0 + a.length + 1 + b.length) (by rw [icl_append, icl_append]; exact ho9))
                  clear ho7 hg7 hb7 hz7 ho8 hg8 hb8 ho9 hg9
                  have j9 := below_next k6 k9 k6.size
                  have j9' := below_next k6' k9 k6'.size
                  clear k9 k6 k6'
                  refine (may_any _ a w9 (HA.out.below j9')).mono ?_
                  rintro e w10 ⟨rfl, hb10⟩
                  have HD10 := hid (HD.out.below hb10)
                  have j10 := below_next j9 hb10 j9.size
                  have j10' := below_next j9' hb10 j9'.size
                  clear hb10 j9 j9' HD
                  rw [hd6]
                  go_wp2_with fail
                  refine (bad_any _ a w10 (HA.out.below j10')).mono ?_
                  rintro e w12 ⟨rfl, hb12⟩
                  have j12 := below_next j10 hb12 j10.size
                  have j12' := below_next j10' hb12 j10'.size
                  clear hb12 j10 j10'
                  obtain ⟨q, hq⟩ : ∃ q, bad a = q := ⟨_, rfl⟩
                  rw [hq] at hd6 ⊢
                  have hqq : (q == q) = true := by simp
                  go_wp2_with fail
                  refine (bad_any _ c w12 (HC.out.below j12)).mono ?_
                  rintro e w13 ⟨rfl, hb13⟩
                  rw [HFF.out, hq]
                  have j13' := below_next j12' hb13 j12'.size
                  clear hb13 j12' j12
                  go_wp2_with fail
                  refine (bad_any _ a w13 (HA.out.below j13')).mono ?_
                  rintro e w14 ⟨rfl, hb14⟩
                  rw [hq]
                  have j14' := below_next j13' hb14 j13'.size
                  clear hb14 j13'
                  go_wp2_with fail
                  refine (awake_calls _).mono ?_
                  rintro e w15 ⟨rfl, hb15⟩
                  have j15 := below_next j14' hb15 j14'.size
                  go_wp2
                  go_ret
                  exact ⟨rfl, j15⟩
                · by_cases hlow : o < 0
                  · have hd7 : decide (0 ≤ o) = false := by simp; omega
                    have HO := hid (show o < 0 ∨ 23 < o by omega)
                    have tok2 : True := trivial
                    go_wp2_with (first | (at_builtin; have _t := tok2; refine wpList_append_own_any _ rfl _ _ 22 rfl w5.heap.size 33 i0 _ 3 32 Try.underlying22 hi hz0 hz1 hz2 rfl (by decide) _ 0 [] rfl (World.ownsRow_nil _ _ _ _) ao a.length ca (icl a) rfl (icl_length a) (fun e => ⟨by rw [(a3 e).1]; rfl, (a3 e).2⟩) (HA.out.news k6') (icl_oneCell a) (by unfold maxLen; omega) (by omega) (Nat.le_refl _) ?_; intro v7 w7 ho7 hg7; clear tok2; have hb7 : Below w5.heap.size w5 w7 := (Below.refl _ _).grown hg7 (Nat.le_refl _) (by intro q hq; cases hq); have hz7 := hb7.size; have tok3 : True := trivial) | (at_builtin; have _t := tok3; refine wpList_append_own_any _ rfl _ _ 22 rfl w5.heap.size 33 i0 _ 3 32 Try.underlying22 hi hz0 hz1 hz2 rfl (by decide) _ (0 + a.length) _ rfl (ho7.alloc _) (some ⟨w7.heap.size, 0, none⟩) 1 1 (icl [(o, 0, ⟨#[]⟩)]) rfl (icl_length _) (fun e => by cases e) ((Co.made [(o, 0, ⟨#[]⟩)] w7 (by simp)).news (Below.refl _ _)) (icl_oneCell _) (by unfold maxLen; omega) (by omega) (by simp; omega) ?_; intro v8 w8 ho8 hg8; clear tok3; have hb8 : Below w5.heap.size w5 w8 := (hb7.alloc hz7 _).grown hg8 (by simp; omega) (fun q hq => own_base ho7 hq)) | (at_builtin; refine wpList_append_own_any _ rfl _ _ 22 rfl w5.heap.size 33 i0 _ 3 32 Try.underlying22 hi hz0 hz1 hz2 rfl (by decide) _ (0 + a.length + 1) _ rfl ho8 bo b.length cb (icl b) rfl (icl_length b) (fun e => ⟨by rw [(b3 e).1]; rfl, (b3 e).2⟩) (HB.out.news (below_next k6' (hb8.trans (Below.refl _ _)) k6'.size)) (icl_oneCell b) (by unfold maxLen; omega) (by omega) hb8.size ?_; intro v9 w9 ho9 hg9))
                    have k9 : Below w5.heap.size w5 w9 := hb8.grown hg9 hb8.size (fun q hq => own_base ho8 hq)
                    have HD := hid (show Co w9 v9 (a ++ [(o, 0, ⟨#[]⟩)] ++ b) from Co.own (base := w5.heap.size) (n := 0 + a.length + 1 + b.length) (by rw [icl_append, icl_append]; exact ho9))
                    clear ho7 hg7 hb7 hz7 ho8 hg8 hb8 ho9 hg9
                    have j9 := below_next k6 k9 k6.size
                    have j9' := below_next k6' k9 k6'.size
                    clear k9 k6 k6'
                    refine (may_any _ a w9 (HA.out.below j9')).mono ?_
                    rintro e w10 ⟨rfl, hb10⟩
                    have HD10 := hid (HD.out.below hb10)
                    have j10 := below_next j9 hb10 j9.size
                    have j10' := below_next j9' hb10 j9'.size
                    clear hb10 j9 j9' HD
                    rw [hd6]
                    go_wp2_with fail
                    refine (bad_any _ a w10 (HA.out.below j10')).mono ?_
                    rintro e w12 ⟨rfl, hb12⟩
                    have j12 := below_next j10 hb12 j10.size
                    have j12' := below_next j10' hb12 j10'.size
                    clear hb12 j10 j10'
                    obtain ⟨q, hq⟩ : ∃ q, bad a = q := ⟨_, rfl⟩
                    rw [hq] at hd6 ⊢
                    have hqq : (q == q) = true := by simp
                    go_wp2_with fail
                    refine (bad_any _ c w12 (HC.out.below j12)).mono ?_
                    rintro e w13 ⟨rfl, hb13⟩
                    rw [HFF.out, hq]
                    have j13' := below_next j12' hb13 j12'.size
                    clear hb13 j12' j12
                    go_wp2_with fail
                    refine (bad_any _ a w13 (HA.out.below j13')).mono ?_
                    rintro e w14 ⟨rfl, hb14⟩
                    rw [hq]
                    have j14' := below_next j13' hb14 j13'.size
                    clear hb14 j13'
                    go_wp2_with fail
                    refine (awake_calls _).mono ?_
                    rintro e w15 ⟨rfl, hb15⟩
                    have j15 := below_next j14' hb15 j14'.size
                    go_wp2
                    go_ret
                    exact ⟨rfl, j15⟩
                  · have hd7 : decide (0 ≤ o) = true := by simp; omega
                    have hd8 : decide (o ≤ 23) = false := by simp; omega
                    have HO := hid (show o < 0 ∨ 23 < o by omega)
                    have tok2 : True := trivial
                    go_wp2_with (first | (at_builtin; have _t := tok2; refine wpList_append_own_any _ rfl _ _ 22 rfl w5.heap.size 33 i0 _ 3 32 Try.underlying22 hi hz0 hz1 hz2 rfl (by decide) _ 0 [] rfl (World.ownsRow_nil _ _ _ _) ao a.length ca (icl a) rfl (icl_length a) (fun e => ⟨by rw [(a3 e).1]; rfl, (a3 e).2⟩) (HA.out.news k6') (icl_oneCell a) (by unfold maxLen; omega) (by omega) (Nat.le_refl _) ?_; intro v7 w7 ho7 hg7; clear tok2; have hb7 : Below w5.heap.size w5 w7 := (Below.refl _ _).grown hg7 (Nat.le_refl _) (by intro q hq; cases hq); have hz7 := hb7.size; have tok3 : True := trivial) | (at_builtin; have _t := tok3; refine wpList_append_own_any _ rfl _ _ 22 rfl w5.heap.size 33 i0 _ 3 32 Try.underlying22 hi hz0 hz1 hz2 rfl (by decide) _ (0 + a.length) _ rfl (ho7.alloc _) (some ⟨w7.heap.size, 0, none⟩) 1 1 (icl [(o, 0, ⟨#[]⟩)]) rfl (icl_length _) (fun e => by cases e) ((Co.made [(o, 0, ⟨#[]⟩)] w7 (by simp)).news (Below.refl _ _)) (icl_oneCell _) (by unfold maxLen; omega) (by omega) (by simp; omega) ?_; intro v8 w8 ho8 hg8; clear tok3; have hb8 : Below w5.heap.size w5 w8 := (hb7.alloc hz7 _).grown hg8 (by simp; omega) (fun q hq => own_base ho7 hq)) | (at_builtin; refine wpList_append_own_any _ rfl _ _ 22 rfl w5.heap.size 33 i0 _ 3 32 Try.underlying22 hi hz0 hz1 hz2 rfl (by decide) _ (0 + a.length + 1) _ rfl ho8 bo b.length cb (icl b) rfl (icl_length b) (fun e => ⟨by rw [(b3 e).1]; rfl, (b3 e).2⟩) (HB.out.news (below_next k6' (hb8.trans (Below.refl _ _)) k6'.size)) (icl_oneCell b) (by unfold maxLen; omega) (by omega) hb8.size ?_; intro v9 w9 ho9 hg9))
                    have k9 : Below w5.heap.size w5 w9 := hb8.grown hg9 hb8.size (fun q hq => own_base ho8 hq)
                    have HD := hid (show Co w9 v9 (a ++ [(o, 0, ⟨#[]⟩)] ++ b) from Co.own (base := w5.heap.size) (n := 0 + a.length + 1 + b.length) (by rw [icl_append, icl_append]; exact ho9))
                    clear ho7 hg7 hb7 hz7 ho8 hg8 hb8 ho9 hg9
                    have j9 := below_next k6 k9 k6.size
                    have j9' := below_next k6' k9 k6'.size
                    clear k9 k6 k6'
                    refine (may_any _ a w9 (HA.out.below j9')).mono ?_
                    rintro e w10 ⟨rfl, hb10⟩
                    have HD10 := hid (HD.out.below hb10)
                    have j10 := below_next j9 hb10 j9.size
                    have j10' := below_next j9' hb10 j9'.size
                    clear hb10 j9 j9' HD
                    rw [hd6]
                    go_wp2_with fail
                    refine (bad_any _ a w10 (HA.out.below j10')).mono ?_
                    rintro e w12 ⟨rfl, hb12⟩
                    have j12 := below_next j10 hb12 j10.size
                    have j12' := below_next j10' hb12 j10'.size
                    clear hb12 j10 j10'
                    obtain ⟨q, hq⟩ : ∃ q, bad a = q := ⟨_, rfl⟩
                    rw [hq] at hd6 ⊢
                    have hqq : (q == q) = true := by simp
                    go_wp2_with fail
                    refine (bad_any _ c w12 (HC.out.below j12)).mono ?_
                    rintro e w13 ⟨rfl, hb13⟩
                    rw [HFF.out, hq]
                    have j13' := below_next j12' hb13 j12'.size
                    clear hb13 j12' j12
                    go_wp2_with fail
                    refine (bad_any _ a w13 (HA.out.below j13')).mono ?_
                    rintro e w14 ⟨rfl, hb14⟩
                    rw [hq]
                    have j14' := below_next j13' hb14 j13'.size
                    clear hb14 j13'
                    go_wp2_with fail
                    refine (awake_calls _).mono ?_
                    rintro e w15 ⟨rfl, hb15⟩
                    have j15 := below_next j14' hb15 j14'.size
                    go_wp2
                    go_ret
                    exact ⟨rfl, j15⟩
    · go_wp2_with fail
      refine (awake_calls _).mono ?_
      rintro e w9 ⟨rfl, hb9⟩
      go_wp2
      go_ret
      exact ⟨rfl, hb9⟩
  · go_wp2_with fail
    refine (awake_calls _).mono ?_
    rintro e w9 ⟨rfl, hb9⟩
    go_wp2
    go_ret
    exact ⟨rfl, hb9⟩
end Go.Proofs.Ytkkgclocamekcaa
