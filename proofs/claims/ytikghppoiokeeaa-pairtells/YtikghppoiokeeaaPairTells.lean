/- PairTells: what the program tells of any pairs is what the reference tells. -/
import Derived.Test.YtikghppoiokeeaaSAwake
import Derived.Test.YtikghppoiokeeaaSArg
namespace Go.Proofs.Ytikghppoiokeeaa
open Go.RowKit
set_option linter.unusedVariables false

theorem dec_symm (a b : List KV) : (decide (a = b) == decide (b = a)) = true := by
  by_cases h : a = b
  · subst h; simp
  · have h2 : ¬ b = a := fun e => h e.symm
    simp [h, h2]
theorem below_base {B C : Nat} {w w' : World} (h : Below B w w') (hC : C ≤ B) : Below C w w' := h.mono hC

set_option maxRecDepth 100000 in
set_option maxHeartbeats 4000000 in
theorem pairTells_plain (w : World) (v : Value) (l : List KV) (hv : Prs w v l) (u : Value) (m : List KV) (hu : Prs w u m) (key : ByteArray) (hk : key.size ≤ maxLen) :
    Calls Try.prog 3 #[v, u, .string key] w fun e w' => e = .returned (.bool true) ∧ Below w.heap.size w w' := by
  have HV := hid hv
  have HU := hid hu
  unfold maxLen at hk
  clear hv hu
  go_enter Try.func3, Try.ntmps3
  go_wp2_with fail
  refine (greatPairs_any v l 80 w HV.out).mono ?_
  rintro e w0 ⟨⟨g, rfl, hg⟩, rfl⟩
  cases g with
  | true =>
    clear hg
    go_wp2_with fail
    refine (awake_calls _).mono ?_
    rintro e w9 ⟨rfl, hb9⟩
    go_wp2
    go_ret
    exact ⟨rfl, hb9⟩
  | false =>
    have hl := hg rfl
    clear hg
    go_wp2_with fail
    refine (greatPairs_any u m 80 w0 HU.out).mono ?_
    rintro e w00 ⟨⟨g, rfl, hg⟩, rfl⟩
    cases g with
    | true =>
      clear hg
      go_wp2_with fail
      refine (awake_calls _).mono ?_
      rintro e w9 ⟨rfl, hb9⟩
      go_wp2
      go_ret
      exact ⟨rfl, hb9⟩
    | false =>
      have hm := hg rfl
      clear hg
      by_cases hs : 100 < key.size
      · have hd5 : decide ((100 : Int) < (key.size : Int)) = true := by simp; omega
        go_wp2_with fail
        refine (awake_calls _).mono ?_
        rintro e w9 ⟨rfl, hb9⟩
        go_wp2
        go_ret
        exact ⟨rfl, hb9⟩
      · have hd5 : decide ((100 : Int) < (key.size : Int)) = false := by simp; omega
        rename World => w
        go_wp2_with fail
        refine (lendPairs_any v l w HV.out (by omega)).mono ?_
        rintro e w1 ⟨rfl, hoI, hb1⟩
        have HOI := hid hoI
        have HB1 := hid hb1
        have HI1 := hid ((Reads.own encP_len (by decide) hoI).cut)
        have HV0 := hid HV.out
        have HV1 := hid (HV.out.below hb1)
        have HU1 := hid (HU.out.below hb1)
        have hz1 := hb1.size
        have hIlt : w.heap.size < w1.heap.size := owns_lt hoI rfl
        clear hoI hb1 HV HU
        generalize hin : Value.slice (some ⟨w.heap.size, 0, none⟩) l.length (l.length + 3) = vin at HI1 ⊢
        have HIn := hid hin
        clear hin
        go_wp2_with fail
        refine (sort_any vin l w1 HI1.out (by omega)).mono ?_
        rintro e w2 ⟨va, rfl, hoa, hb2⟩
        have HOa := hid hoa
        have hqa : ∀ q, va.ownBlock = some q → w1.heap.size ≤ q ∧ q < w2.heap.size := fun q hq => ⟨owns_base hoa hq, owns_lt hoa hq⟩
        have HB2 := hid hb2
        have hz2 := hb2.size
        clear hoa hb2
        go_wp2_with fail
        refine (keys_any vin l w2 (HI1.out.below HB2.out) (by omega)).mono ?_
        rintro e w3 ⟨vk, rfl, hok, hb3⟩
        have HOk := hid hok
        have hqk : ∀ q, vk.ownBlock = some q → w2.heap.size ≤ q ∧ q < w3.heap.size := fun q hq => ⟨owns_base hok hq, owns_lt hok hq⟩
        have HOa3 := hid (owns_below HOa.out hb3)
        have HB3 := hid (below_then HB2.out hb3 HB2.out.size)
        have hz3 := hb3.size
        clear hok hb3 HOa
        go_wp2_with fail
        refine (of_any vin l key w3 (HI1.out.below HB3.out) (by omega)).mono ?_
        rintro e w4 ⟨vv, rfl, hov, hb4⟩
        have HOv := hid hov
        have hqv : ∀ q, vv.ownBlock = some q → w3.heap.size ≤ q := fun q hq => owns_base hov hq
        have HOa4 := hid (owns_below HOa3.out hb4)
        have HOk4 := hid (owns_below HOk.out hb4)
        have HB4 := hid (below_then HB3.out hb4 HB3.out.size)
        have hz4 := hb4.size
        have HI4 := hid (HI1.out.below HB4.out)
        have HV4 := hid (HV1.out.below HB4.out)
        have HU4 := hid (HU1.out.below HB4.out)
        clear hov hb4 HOa3 HOk HB2 HB3 HI1 HV1 HU1
        -- the document's own answers
        go_wp2_with fail
        refine (refSort_any refKeys_any v l w4 HV4.out (by omega)).mono ?_
        rintro e w5 ⟨r5, rfl, ho5, hc5⟩
        have HO5 := hid ho5
        have HC5 := hid hc5
        clear ho5 hc5
        go_wp2_with fail
        refine (samePairs_any _ _ (srt l) w5 (Reads.own encP_len (by decide) (owns_below HOa4.out HC5.out)) (Reads.own encP_len (by decide) HO5.out)).mono ?_
        rintro e w6 ⟨rfl, n6, rfl⟩
        have HC6 := hid (below_then HC5.out (below_drew w5 n6) HC5.out.size)
        generalize w5.drewN n6 = w6 at HC6 ⊢
        clear HO5 HC5
        go_wp2_with fail
        refine (refKeys_any v l w6 (HV4.out.below HC6.out) (by omega)).mono ?_
        rintro e w7 ⟨r7, rfl, ho7, hc7⟩
        have HO7 := hid ho7
        have HC7 := hid (below_then HC6.out hc7 HC6.out.size)
        clear ho7 hc7 HC6
        go_wp2_with fail
        refine (sameTexts_any _ _ (keysOf l) w7 (Reads.own encT_len (by decide) (owns_below HOk4.out HC7.out)) (Reads.own encT_len (by decide) HO7.out)).mono ?_
        rintro e w8 ⟨rfl, n8, rfl⟩
        have HC8 := hid (below_then HC7.out (below_drew w7 n8) HC7.out.size)
        generalize w7.drewN n8 = w8 at HC8 ⊢
        clear HO7 HC7
        go_wp2_with fail
        refine (refOf_any v l key w8 (HV4.out.below HC8.out) (by omega)).mono ?_
        rintro e w9 ⟨r9, rfl, ho9, hc9⟩
        have HO9 := hid ho9
        have HC9 := hid (below_then HC8.out hc9 HC8.out.size)
        clear ho9 hc9 HC8
        go_wp2_with fail
        refine (sameTexts_any _ _ (valsOf key l) w9 (Reads.own encT_len (by decide) (owns_below HOv.out HC9.out)) (Reads.own encT_len (by decide) HO9.out)).mono ?_
        rintro e w10 ⟨rfl, n10, rfl⟩
        have HC10 := hid (below_then HC9.out (below_drew w9 n10) HC9.out.size)
        generalize w9.drewN n10 = w10 at HC10 ⊢
        clear HO9 HC9
        go_wp2_with fail
        refine (may_any vin l w10 (HI4.out.below HC10.out)).mono ?_
        rintro e w11 ⟨rfl, hc11⟩
        have HC11 := hid (below_then HC10.out hc11 HC10.out.size)
        clear hc11 HC10
        go_wp2_with fail
        refine (refMay_any v l w11 (HV4.out.below HC11.out)).mono ?_
        rintro e w11' ⟨rfl, rfl⟩
        rename World => w11
        have heq1 : (mayP l == mayP l) = true := by simp
        generalize mayP l = mp at heq1 ⊢
        go_wp2_with fail
        refine (sorted_any vin l w11 (HI4.out.below HC11.out)).mono ?_
        rintro e w12 ⟨rfl, hc12⟩
        have HC12 := hid (below_then HC11.out hc12 HC11.out.size)
        clear hc12 HC11
        go_wp2_with fail
        refine (refSort_any refKeys_any v l w12 (HV4.out.below HC12.out) (by omega)).mono ?_
        rintro e w13 ⟨r13, rfl, ho13, hc13⟩
        have HO13 := hid ho13
        have HC13 := hid (below_then HC12.out hc13 HC12.out.size)
        clear ho13 hc13 HC12
        go_wp2_with fail
        refine (samePairs_dec _ _ l (srt l) w13 (HV4.out.below HC13.out) (Reads.own encP_len (by decide) HO13.out)).mono ?_
        rintro e w14 ⟨rfl, n14, rfl⟩
        have HC14 := hid (below_then HC13.out (below_drew w13 n14) HC13.out.size)
        generalize w13.drewN n14 = w14 at HC14 ⊢
        clear HO13 HC13
        have heq2 := dec_symm (srt l) l
        generalize decide (srt l = l) = d1 at heq2 ⊢
        generalize decide (l = srt l) = d2 at heq2 ⊢
        go_wp2_with fail
        refine (pairSame_dec _ _ l m w14 (HI4.out.below HC14.out) (HU4.out.below HC14.out)).mono ?_
        rintro e w15 ⟨rfl, n15, rfl⟩
        have HC15 := hid (below_then HC14.out (below_drew w14 n15) HC14.out.size)
        generalize w14.drewN n15 = w15 at HC15 ⊢
        clear HC14
        go_wp2_with fail
        refine (refSame_dec _ _ l m w15 (HV4.out.below HC15.out) (HU4.out.below HC15.out)).mono ?_
        rintro e w16 ⟨rfl, n16, rfl⟩
        have HC16 := hid (below_then HC15.out (below_drew w15 n16) HC15.out.size)
        generalize w15.drewN n16 = w16 at HC16 ⊢
        clear HC15
        have heq3 : (decide (l = m) == decide (l = m)) = true := by simp
        generalize decide (l = m) = d3 at heq3 ⊢
        -- what was answered is written over
        have HOa16 := hid (owns_below HOa4.out HC16.out)
        have HOk16 := hid (owns_below HOk4.out HC16.out)
        have HOv16 := hid (owns_below HOv.out HC16.out)
        have HB16 := hid (below_then HB4.out HC16.out HB4.out.size)
        have hz16 := HC16.out.size
        have hll : (srt l).length = l.length := length_srt l
        have hkl := length_keys l
        have hvl := length_vals key l
        have HQ := hid (And.intro hqa (And.intro hqk hqv))
        clear HOa4 HOk4 HOv HB4 HC16 HI4 HV4 HU4 hqa hqk hqv
        go_wp2_with fail
        refine (overPairs_grown _ _ va _ w16 HOa16.out (by omega) (by omega)).mono ?_
        rintro e w17 ⟨rfl, hg17⟩
        have HOk17 := hid (owns_grown_ne HOk16.out hg17 (fun g hg e => by have h1 := HQ.out.1 g e; have h2 := HQ.out.2.1 g hg; omega))
        have HOv17 := hid (owns_grown_ne HOv16.out hg17 (fun g hg e => by have h1 := HQ.out.1 g e; have h2 := HQ.out.2.2 g hg; omega))
        have HB17 := hid (HB16.out.grown hg17 HB16.out.size (fun q hq => (HQ.out.1 q hq).1))
        have hz17 := hg17.size
        clear hg17 HOk16 HOv16 HB16 HOa16
        go_wp2_with fail
        refine (overTexts_grown _ _ vk _ w17 HOk17.out (by omega) (by omega)).mono ?_
        rintro e w18 ⟨rfl, hg18⟩
        have HOv18 := hid (owns_grown_ne HOv17.out hg18 (fun g hg e => by have h1 := HQ.out.2.1 g e; have h2 := HQ.out.2.2 g hg; omega))
        have HB18 := hid (HB17.out.grown hg18 HB17.out.size (fun q hq => by have h1 := HQ.out.2.1 q hq; omega))
        have hz18 := hg18.size
        clear hg18 HOk17 HOv17 HB17
        go_wp2_with fail
        refine (overTexts_grown _ _ vv _ w18 HOv18.out (by omega) (by omega)).mono ?_
        rintro e w19 ⟨rfl, hg19⟩
        have HB19 := hid (HB18.out.grown hg19 HB18.out.size (fun q hq => by have h1 := HQ.out.2.2 q hq; omega))
        clear hg19 HOv18 HB18
        have HEnd := hid (below_then HB1.out HB19.out HB1.out.size)
        rw [← HIn.out]
        go_wp2_with fail
        refine (keptPairs_any w.heap.size v l w19 (Reads.own encP_len (by decide) (owns_below HOI.out HB19.out)) (HV0.out.below HEnd.out) (by omega)).mono ?_
        rintro e w20 ⟨rfl, n20, rfl⟩
        have HEnd2 := hid (below_then HEnd.out (below_drew w19 n20) HEnd.out.size)
        generalize w19.drewN n20 = w20 at HEnd2 ⊢
        go_wp2_with fail
        refine (awake_calls _).mono ?_
        rintro e w21 ⟨rfl, hb21⟩
        have HEnd3 := hid (below_then HEnd2.out hb21 HEnd2.out.size)
        go_wp2
        go_ret
        exact ⟨rfl, HEnd3.out⟩
theorem pairTells_walk (w : World) (v : Value) (l : List KV) (hv : rSlice 2 rPr w [v] l) (u : Value) (m : List KV) (hu : rSlice 2 rPr w [u] m) (key : ByteArray) (hk : key.size ≤ maxLen) :
    Calls Try.prog 3 #[v, u, .string key] w fun e w' => e = .returned (.bool true) ∧ Below w.heap.size w w' :=
  pairTells_plain w v l (Prs.arg hv) u m (Prs.arg hu) key hk
end Go.Proofs.Ytikghppoiokeeaa
