/- PairParts: two lists' values of a key, one behind the other, are those of both together. -/
import Derived.Test.YtikghppoiokeeaaSAwake
import Derived.Test.YtikghppoiokeeaaSArg
namespace Go.Proofs.Ytikghppoiokeeaa
open Go.RowKit
set_option linter.unusedVariables false

/-- append of a slice, nil or not, onto what the call owns, where the operation's guard lets it be. -/
theorem wpList_append_got {P : Program} (w : World) {ops : Array Oper} {rest : List Oper} {o : Oper} {a : Act} {Q : Exit → Act → World → Prop} (hw : Region.wanted o (yielded ops a.tmps) = true) (s x : Operand) (t : TypeId)
    (hop : o.op = .call { callee := .builtin .append, args := #[s, x], argTypes := #[t, t] })
    (base : Nat) (e : TypeId) (i : TypeInfo) (z : Value) (size bytes : Nat) (h1 : P.underlying t = some (.slice e)) (h2 : P.info? e = some i) (h3 : i.zero = some z) (h4 : i.size = size) (h5 : i.bytes = bytes) (h6 : z.cells.size = size) (h7 : 0 < size)
    (v : Value) (n : Nat) (xs : List Value) (hs : a.eval s = v) (hown : w.ownsRow base e size v n xs)
    (ao : Option Addr) (m c : Nat) (news : List Value) (hx : a.eval x = .slice ao m c) (hn : news.length = m * size) (hnone : ao = none → m = 0 ∧ c = 0) (hc : ∀ ad, ao = some ad → ∀ j u, news[j]? = some u → w.cell? (ad.add j) = some u) (h1c : ∀ u ∈ news, u.oneCell' = true)
    (b1 : n + m ≤ maxLen) (b2 : (n + m) * bytes ≤ 140737488355328) (hb : base ≤ w.heap.size)
    (h : ∀ v' w', w'.ownsRow base e size v' (n + m) (xs ++ news) → w.grownBy w' v.ownBlock → wpList P ops Q rest (a.put o.dst v') w') : wpList P ops Q (o :: rest) a w := by
  refine wpList_step fun K hK => ?_
  rw [if_pos hw]
  cases ao with
  | some ad =>
    obtain ⟨v', w', hrun, r1, r2, _⟩ := run_append_own (P := P) w base t o.type e i z size bytes h1 h2 h3 h4 h5 h6 h7 v n xs hown ad m c news hn (hc ad rfl) h1c b1 b2 hb
    unfold Oper.wp
    simp [execOp, hop, resolve, invoke, builtin, hs, hx, hrun, Result.andThen]
    exact hK _ _ (h v' w' r1 r2)
  | none =>
    obtain ⟨rfl, rfl⟩ := hnone rfl
    have hnil : news = [] := List.eq_nil_of_length_eq_zero (by simpa using hn)
    subst hnil
    have hrun := run_append_owned_none (P := P) (w := w) base t o.type e i size h1 h2 v n xs hown
    unfold Oper.wp
    simp [execOp, hop, resolve, invoke, builtin, hs, hx, hrun, Result.andThen]
    exact hK _ _ (h v w (by simpa using hown) (World.grownBy.refl _ _))

set_option maxRecDepth 100000 in
set_option maxHeartbeats 4000000 in
theorem pairParts_plain (w : World) (v : Value) (l : List KV) (hv : Prs w v l) (u : Value) (m : List KV) (hu : Prs w u m) (key : ByteArray) (hk : key.size ≤ maxLen) :
    Calls Try.prog 5 #[v, u, .string key] w fun e w' => e = .returned (.bool true) ∧ Below w.heap.size w w' := by
  have HV := hid hv
  have HU := hid hu
  obtain ⟨ao, ca, rfl, a1, a2, a3, -⟩ := hv
  obtain ⟨bo, cb, rfl, b1, b2, b3, -⟩ := hu
  have HA3 := hid a3
  have HB3' := hid b3
  unfold maxLen at hk
  clear a1 a2 a3 b1 b2 b3
  obtain ⟨i0, hi, hz0, hz1, hz2⟩ := info_parts Try.infoP
  obtain ⟨j0, ji, jz0, jz1, jz2⟩ := info_parts Try.infoT
  go_enter Try.func5, Try.ntmps5
  go_wp2_with fail
  refine (greatPairs_any _ l 40 w HV.out).mono ?_
  rintro e w0 ⟨⟨g, rfl, hg⟩, rfl⟩
  cases g with
  | true =>
    clear hg
    go_wp2_with fail
    refine (awake_calls _).mono ?_
    rintro e w9 ⟨rfl, hb9⟩
    go_wp2
    go_ret
    exact ⟨rfl, hb9⟩
  | false =>
    have hl := hg rfl
    clear hg
    go_wp2_with fail
    refine (greatPairs_any _ m 40 w0 HU.out).mono ?_
    rintro e w00 ⟨⟨g, rfl, hg⟩, rfl⟩
    cases g with
    | true =>
      clear hg
      go_wp2_with fail
      refine (awake_calls _).mono ?_
      rintro e w9 ⟨rfl, hb9⟩
      go_wp2
      go_ret
      exact ⟨rfl, hb9⟩
    | false =>
      have hm := hg rfl
      clear hg
      by_cases hs : 100 < key.size
      · have hd5 : decide ((100 : Int) < (key.size : Int)) = true := by simp; omega
        go_wp2_with fail
        refine (awake_calls _).mono ?_
        rintro e w9 ⟨rfl, hb9⟩
        go_wp2
        go_ret
        exact ⟨rfl, hb9⟩
      · have hd5 : decide ((100 : Int) < (key.size : Int)) = false := by simp; omega
        rename World => w
        have tok1 := hid trivial
        go_wp2_with (first | (at_builtin; have _t := tok1; refine wpList_append_own_any _ rfl _ _ 22 rfl w.heap.size 36 i0 _ 2 32 Try.underlying22 hi hz0 hz1 hz2 rfl (by decide) _ 0 [] rfl (World.ownsRow_nil _ _ _ _) ao l.length ca (fl encP l) rfl (fl_length encP_len l) (fun e => ⟨by rw [(HA3.out e).1]; rfl, (HA3.out e).2⟩) (HV.out.news encP_len (by decide) (Below.refl _ _)) (fl_one encP_one l) (by unfold maxLen; omega) (by omega) (Nat.le_refl _) ?_; intro v1 w1 ho1 hg1; have HO1 := hid ho1; have HG1 := hid (below_none hg1); clear ho1 hg1 tok1) | (at_builtin; refine wpList_append_own_any _ rfl _ _ 22 rfl w.heap.size 36 i0 _ 2 32 Try.underlying22 hi hz0 hz1 hz2 rfl (by decide) _ _ _ rfl HO1.out bo m.length cb (fl encP m) rfl (fl_length encP_len m) (fun e => ⟨by rw [(HB3'.out e).1]; rfl, (HB3'.out e).2⟩) (HU.out.news encP_len (by decide) HG1.out) (fl_one encP_one m) (by unfold maxLen; omega) (by omega) HG1.out.size ?_; intro v2 w2 ho2 hg2; have HO2 := hid ho2; have HG2 := hid (HG1.out.grown hg2 HG1.out.size (fun q hq => owns_base HO1.out hq)); clear ho2 hg2))
        have HB2 := hid (show w2.ownsRow w.heap.size 36 2 v2 (l ++ m).length (fl encP (l ++ m)) by
          have h := HO2.out
          rw [List.length_append, fl_append]
          simpa using h)
        have HV2 := hid (HV.out.below HG2.out)
        have HU2 := hid (HU.out.below HG2.out)
        have hsz2 := HG2.out.size
        clear HO1 HO2 HG1 HV HU HA3 HB3'
        generalize Value.slice ao l.length ca = va at HV2 ⊢
        generalize Value.slice bo m.length cb = vb at HU2 ⊢
        go_wp2_with fail
        refine (of_any va l key w2 HV2.out (by omega)).mono ?_
        rintro e w3 ⟨x3, rfl, ho3, hb3⟩
        have HO3 := hid ho3
        have HC3 := hid hb3
        clear ho3 hb3
        go_wp2_with fail
        refine (of_any vb m key w3 (HU2.out.below HC3.out) (by omega)).mono ?_
        rintro e w4 ⟨x4, rfl, ho4, hb4⟩
        have HO3' := hid (owns_below HO3.out hb4)
        have HR4 := hid (Reads.own encT_len (by decide) ho4)
        obtain ⟨ao4, c4, rfl⟩ := own_slice ho4
        obtain ⟨ao', c', hvv, q1, q2, q3, -⟩ := HR4.out
        simp only [Value.slice.injEq, true_and] at hvv
        obtain ⟨rfl, rfl⟩ := hvv
        have HQ3 := hid q3
        have HC4 := hid (below_then HC3.out hb4 HC3.out.size)
        have hsz4 := HC4.out.size
        have hv1 := length_vals key l
        have hv2 := length_vals key m
        have HVA := hid (valsOf_append key l m)
        clear ho4 hb4 HO3 HC3 q1 q2 q3
        generalize valsOf key l = va1 at HO3' hv1 HVA
        generalize valsOf key m = va2 at HR4 hv2 HVA HQ3 ⊢
        go_wp2_with (at_builtin; refine wpList_append_own_any _ rfl _ _ 26 rfl w2.heap.size 9 j0 _ 1 16 Try.underlying26 ji jz0 jz1 jz2 rfl (by decide) _ _ _ rfl HO3'.out ao4 va2.length c4 (fl encT va2) rfl (fl_length encT_len va2) (fun e => ⟨by rw [(HQ3.out e).1]; rfl, (HQ3.out e).2⟩) (HR4.out.news encT_len (by decide) (Below.refl _ _)) (fl_one encT_one va2) (by unfold maxLen; omega) (by omega) hsz4 ?_; intro x5 w5 ho5 hg5; have HO5 := hid ho5; have HC5 := hid (HC4.out.grown hg5 HC4.out.size (fun q hq => owns_base HO3'.out hq)); clear ho5 hg5)
        have HO5' := hid (show w5.ownsRow w2.heap.size 9 1 x5 (valsOf key (l ++ m)).length (fl encT (valsOf key (l ++ m))) by
          rw [HVA.out, List.length_append, fl_append]
          exact HO5.out)
        have HW5 := hid (Reads.own encP_len (by decide) (owns_below HB2.out HC5.out))
        have HV5 := hid (HV2.out.below HC5.out)
        have HU5 := hid (HU2.out.below HC5.out)
        have HE5 := hid (below_then HG2.out HC5.out HG2.out.size)
        have hlm : (l ++ m).length ≤ 80 := by rw [List.length_append]; omega
        clear HO5 HO3' HR4 HQ3 HC4 HC5 HV2 HU2 HB2 HG2 HVA
        go_wp2_with fail
        refine (of_any v2 (l ++ m) key w5 HW5.out (by omega)).mono ?_
        rintro e w6 ⟨x6, rfl, ho6, hc6⟩
        have HO6 := hid ho6
        have HC6 := hid hc6
        clear ho6 hc6
        go_wp2_with fail
        refine (sameTexts_any _ _ (valsOf key (l ++ m)) w6 (Reads.own encT_len (by decide) HO6.out) (Reads.own encT_len (by decide) (owns_below HO5'.out HC6.out))).mono ?_
        rintro e w7 ⟨rfl, n7, rfl⟩
        have HC7 := hid (below_then HC6.out (below_drew w6 n7) HC6.out.size)
        generalize w6.drewN n7 = w7 at HC7 ⊢
        clear HO6 HC6 HO5'
        go_wp2_with fail
        refine (may_any v2 (l ++ m) w7 (HW5.out.below HC7.out)).mono ?_
        rintro e w8 ⟨rfl, hc8⟩
        have HC8 := hid (below_then HC7.out hc8 HC7.out.size)
        clear hc8 HC7
        go_wp2_with fail
        refine (may_any va l w8 (HV5.out.below HC8.out)).mono ?_
        rintro e w9 ⟨rfl, hc9⟩
        have HC9 := hid (below_then HC8.out hc9 HC8.out.size)
        clear hc9 HC8
        rw [mayP_append l m]
        obtain ⟨p1, hp1⟩ : ∃ p1, mayP l = p1 := ⟨_, rfl⟩
        obtain ⟨p2, hp2⟩ : ∃ p2, mayP m = p2 := ⟨_, rfl⟩
        rw [hp1, hp2]
        have HP2 := hid hp2
        clear hp1 hp2
        cases p1
        · simp only [Bool.false_and]
          have heq1 : (false == false) = true := rfl
          rename World => wX
          go_wp2_with fail
          refine (pairSame_dec va va l l wX (HV5.out.below HC9.out) (HV5.out.below HC9.out)).mono ?_
          rintro e w10 ⟨rfl, n10, rfl⟩
          have HC10 := hid (below_then HC9.out (below_drew wX n10) HC9.out.size)
          generalize wX.drewN n10 = w10 at HC10 ⊢
          clear HC9
          rw [show decide (l = l) = true from decide_eq_true rfl]
          go_wp2_with fail
          refine (sort_any v2 (l ++ m) w10 (HW5.out.below HC10.out) (by omega)).mono ?_
          rintro e w11 ⟨s1, rfl, ho11, hc11⟩
          have HS1 := hid ho11
          have hq1 : ∀ q, s1.ownBlock = some q → q < w11.heap.size := fun q hq => owns_lt ho11 hq
          have HC11 := hid (below_then HC10.out hc11 HC10.out.size)
          have HZ := HC11.out.size
          clear ho11 hc11 HC10
          go_wp2_with fail
          refine (sort_any va l w11 (HV5.out.below HC11.out) (by omega)).mono ?_
          rintro e w12 ⟨s2, rfl, ho12, hc12⟩
          have HS2 := hid ho12
          have HS1b := hid (owns_below HS1.out hc12)
          have hq2 : ∀ q, s2.ownBlock = some q → w11.heap.size ≤ q := fun q hq => owns_base ho12 hq
          have HQ := hid (And.intro hq1 hq2)
          have HC12 := hid (below_then HC11.out hc12 HC11.out.size)
          have hz12 := hc12.size
          clear ho12 hc12 HC11 HS1 hq1 hq2
          go_wp2_with fail
          refine (sort_any vb m w12 (HU5.out.below HC12.out) (by omega)).mono ?_
          rintro e w13 ⟨s3, rfl, ho13, hc13⟩
          have HS2b := hid (owns_below HS2.out hc13)
          have HS1c := hid (owns_below HS1b.out hc13)
          have HR13 := hid (Reads.own encP_len (by decide) ho13)
          obtain ⟨ao3, c3, rfl⟩ := own_slice ho13
          obtain ⟨ao', c', hvv, q1, q2, q3, -⟩ := HR13.out
          simp only [Value.slice.injEq, true_and] at hvv
          obtain ⟨rfl, rfl⟩ := hvv
          have HQ3 := hid q3
          have HC13 := hid (below_then HC12.out hc13 HC12.out.size)
          have hz13 := hc13.size
          have hs1 : (srt l).length ≤ 40 := by rw [length_srt]; omega
          have hs2 : (srt m).length ≤ 40 := by rw [length_srt]; omega
          clear ho13 hc13 HC12 HS2 HS1b q1 q2 q3
          have HSP := hid (srt_parts l m)
          generalize srt l = sl at HS2b hs1 HSP
          generalize srt m = sm at HR13 hs2 HSP HQ3 ⊢
          go_wp2_with (at_builtin; refine wpList_append_got _ (by rfl) _ _ 22 rfl w11.heap.size 36 i0 _ 2 32 Try.underlying22 hi hz0 hz1 hz2 rfl (by decide) _ _ _ rfl HS2b.out ao3 sm.length c3 (fl encP sm) rfl (fl_length encP_len sm) (fun e => ⟨by rw [(HQ3.out e).1]; rfl, (HQ3.out e).2⟩) (HR13.out.news encP_len (by decide) (Below.refl _ _)) (fl_one encP_one sm) (by unfold maxLen; omega) (by omega) (by omega) ?_; intro x14 w14 ho14 hg14; have HO14 := hid ho14; have HG14 := hid hg14; clear ho14 hg14)
          have HS1d := hid (owns_grown_ne HS1c.out HG14.out (fun g hg e => by have h1 := HQ.out.1 g hg; have h2 := HQ.out.2 g e; omega))
          have hz5 : w5.heap.size ≤ w11.heap.size := HZ
          have HC14 := hid (HC13.out.grown HG14.out HC13.out.size (fun q hq => by have h2 := HQ.out.2 q hq; omega))
          have HO14b := hid (show w14.ownsRow w11.heap.size 36 2 x14 (sl ++ sm).length (fl encP (sl ++ sm)) by
            rw [List.length_append, fl_append]
            exact HO14.out)
          clear HO14 HG14 HS1c HS2b HR13 HQ3 HC13
          go_wp2_with fail
          refine (sort_any x14 (sl ++ sm) w14 (Reads.own encP_len (by decide) HO14b.out) (by rw [List.length_append]; omega)).mono ?_
          rintro e w15 ⟨s5, rfl, ho15, hc15⟩
          rw [HSP.out] at ho15
          have HO15 := hid ho15
          have HS1e := hid (owns_below HS1d.out hc15)
          have HC15 := hid (below_then HC14.out hc15 HC14.out.size)
          clear ho15 hc15 HS1d HC14 HO14b
          go_wp2_with fail
          refine (samePairs_any _ _ (srt (l ++ m)) w15 (Reads.own encP_len (by decide) HS1e.out) (Reads.own encP_len (by decide) HO15.out)).mono ?_
          rintro e w16 ⟨rfl, n16, rfl⟩
          have HE16 := hid (below_then HE5.out (below_then HC15.out (below_drew w15 n16) HC15.out.size) HE5.out.size)
          generalize w15.drewN n16 = w16 at HE16 ⊢
          go_wp2_with fail
          refine (awake_calls _).mono ?_
          rintro e w17 ⟨rfl, hb17⟩
          have HE17 := hid (below_then HE16.out hb17 HE16.out.size)
          go_wp2
          go_ret
          exact ⟨rfl, HE17.out⟩
        · go_wp2_with fail
          refine (may_any vb m w9 (HU5.out.below HC9.out)).mono ?_
          rintro e wX ⟨rfl, hcX⟩
          have HCX := hid (below_then HC9.out hcX HC9.out.size)
          clear hcX HC9
          rename Hid (Below _ _ _) => HC9
          rw [HP2.out]
          have heq1 : (p2 == p2) = true := by simp
          go_wp2_with fail
          refine (pairSame_dec va va l l wX (HV5.out.below HC9.out) (HV5.out.below HC9.out)).mono ?_
          rintro e w10 ⟨rfl, n10, rfl⟩
          have HC10 := hid (below_then HC9.out (below_drew wX n10) HC9.out.size)
          generalize wX.drewN n10 = w10 at HC10 ⊢
          clear HC9
          rw [show decide (l = l) = true from decide_eq_true rfl]
          go_wp2_with fail
          refine (sort_any v2 (l ++ m) w10 (HW5.out.below HC10.out) (by omega)).mono ?_
          rintro e w11 ⟨s1, rfl, ho11, hc11⟩
          have HS1 := hid ho11
          have hq1 : ∀ q, s1.ownBlock = some q → q < w11.heap.size := fun q hq => owns_lt ho11 hq
          have HC11 := hid (below_then HC10.out hc11 HC10.out.size)
          have HZ := HC11.out.size
          clear ho11 hc11 HC10
          go_wp2_with fail
          refine (sort_any va l w11 (HV5.out.below HC11.out) (by omega)).mono ?_
          rintro e w12 ⟨s2, rfl, ho12, hc12⟩
          have HS2 := hid ho12
          have HS1b := hid (owns_below HS1.out hc12)
          have hq2 : ∀ q, s2.ownBlock = some q → w11.heap.size ≤ q := fun q hq => owns_base ho12 hq
          have HQ := hid (And.intro hq1 hq2)
          have HC12 := hid (below_then HC11.out hc12 HC11.out.size)
          have hz12 := hc12.size
          clear ho12 hc12 HC11 HS1 hq1 hq2
          go_wp2_with fail
          refine (sort_any vb m w12 (HU5.out.below HC12.out) (by omega)).mono ?_
          rintro e w13 ⟨s3, rfl, ho13, hc13⟩
          have HS2b := hid (owns_below HS2.out hc13)
          have HS1c := hid (owns_below HS1b.out hc13)
          have HR13 := hid (Reads.own encP_len (by decide) ho13)
          obtain ⟨ao3, c3, rfl⟩ := own_slice ho13
          obtain ⟨ao', c', hvv, q1, q2, q3, -⟩ := HR13.out
          simp only [Value.slice.injEq, true_and] at hvv
          obtain ⟨rfl, rfl⟩ := hvv
          have HQ3 := hid q3
          have HC13 := hid (below_then HC12.out hc13 HC12.out.size)
          have hz13 := hc13.size
          have hs1 : (srt l).length ≤ 40 := by rw [length_srt]; omega
          have hs2 : (srt m).length ≤ 40 := by rw [length_srt]; omega
          clear ho13 hc13 HC12 HS2 HS1b q1 q2 q3
          have HSP := hid (srt_parts l m)
          generalize srt l = sl at HS2b hs1 HSP
          generalize srt m = sm at HR13 hs2 HSP HQ3 ⊢
          go_wp2_with (at_builtin; refine wpList_append_got _ (by rfl) _ _ 22 rfl w11.heap.size 36 i0 _ 2 32 Try.underlying22 hi hz0 hz1 hz2 rfl (by decide) _ _ _ rfl HS2b.out ao3 sm.length c3 (fl encP sm) rfl (fl_length encP_len sm) (fun e => ⟨by rw [(HQ3.out e).1]; rfl, (HQ3.out e).2⟩) (HR13.out.news encP_len (by decide) (Below.refl _ _)) (fl_one encP_one sm) (by unfold maxLen; omega) (by omega) (by omega) ?_; intro x14 w14 ho14 hg14; have HO14 := hid ho14; have HG14 := hid hg14; clear ho14 hg14)
          have HS1d := hid (owns_grown_ne HS1c.out HG14.out (fun g hg e => by have h1 := HQ.out.1 g hg; have h2 := HQ.out.2 g e; omega))
          have hz5 : w5.heap.size ≤ w11.heap.size := HZ
          have HC14 := hid (HC13.out.grown HG14.out HC13.out.size (fun q hq => by have h2 := HQ.out.2 q hq; omega))
          have HO14b := hid (show w14.ownsRow w11.heap.size 36 2 x14 (sl ++ sm).length (fl encP (sl ++ sm)) by
            rw [List.length_append, fl_append]
            exact HO14.out)
          clear HO14 HG14 HS1c HS2b HR13 HQ3 HC13
          go_wp2_with fail
          refine (sort_any x14 (sl ++ sm) w14 (Reads.own encP_len (by decide) HO14b.out) (by rw [List.length_append]; omega)).mono ?_
          rintro e w15 ⟨s5, rfl, ho15, hc15⟩
          rw [HSP.out] at ho15
          have HO15 := hid ho15
          have HS1e := hid (owns_below HS1d.out hc15)
          have HC15 := hid (below_then HC14.out hc15 HC14.out.size)
          clear ho15 hc15 HS1d HC14 HO14b
          go_wp2_with fail
          refine (samePairs_any _ _ (srt (l ++ m)) w15 (Reads.own encP_len (by decide) HS1e.out) (Reads.own encP_len (by decide) HO15.out)).mono ?_
          rintro e w16 ⟨rfl, n16, rfl⟩
          have HE16 := hid (below_then HE5.out (below_then HC15.out (below_drew w15 n16) HC15.out.size) HE5.out.size)
          generalize w15.drewN n16 = w16 at HE16 ⊢
          go_wp2_with fail
          refine (awake_calls _).mono ?_
          rintro e w17 ⟨rfl, hb17⟩
          have HE17 := hid (below_then HE16.out hb17 HE16.out.size)
          go_wp2
          go_ret
          exact ⟨rfl, HE17.out⟩
theorem pairParts_walk (w : World) (v : Value) (l : List KV) (hv : rSlice 2 rPr w [v] l) (u : Value) (m : List KV) (hu : rSlice 2 rPr w [u] m) (key : ByteArray) (hk : key.size ≤ maxLen) :
    Calls Try.prog 5 #[v, u, .string key] w fun e w' => e = .returned (.bool true) ∧ Below w.heap.size w w' :=
  pairParts_plain w v l (Prs.arg hv) u m (Prs.arg hu) key hk
end Go.Proofs.Ytikghppoiokeeaa
