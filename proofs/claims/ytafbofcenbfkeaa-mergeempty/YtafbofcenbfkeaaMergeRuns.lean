/- MergeRuns: what sorted runs come to is what the reference tells; of two likewise. -/
import Derived.Test.YtafbofcenbfkeaaMAwake
import Derived.Test.YtafbofcenbfkeaaMSort
import Derived.Test.YtafbofcenbfkeaaMRef
namespace Go.Proofs.Ytafbofcenbfkeaa
open Go.RowKit
set_option linter.unusedVariables false

theorem small_srt {ls : List (List KV)} (h8 : ls.length ≤ 8) (h20 : ∀ l ∈ ls, l.length ≤ 20) : (ls.map srt).length ≤ 8 ∧ (∀ l ∈ ls.map srt, l.length ≤ 20) ∧ (ls.map srt).flatten.length ≤ 160 := by
  have h : ∀ l ∈ ls.map srt, l.length ≤ 20 := by
    intro l hl
    obtain ⟨m, hm, rfl⟩ := List.mem_map.1 hl
    rw [length_srt]
    exact h20 m hm
  have hl : (ls.map srt).length ≤ 8 := by rw [List.length_map]; exact h8
  have := flat_small h
  exact ⟨hl, h, by omega⟩
theorem take_two {rs : List (List KV)} {a b : List KV} (ha : rs[0]? = some a) (hb : rs[1]? = some b) : (rs.take 2).flatten = a ++ b := by
  match rs, ha, hb with
  | x :: y :: rs, ha, hb =>
    simp at ha hb
    subst ha hb
    simp
theorem lent_prs {w : World} {B g : Nat} {l : List KV} (h : w.ownsRow B 45 2 (.slice (some ⟨g, 0, none⟩) (l.length + 3) (l.length + 3)) (l.length + 3) (fl encP (l ++ List.replicate 3 lentP))) : Prs w (.slice (some ⟨g, 0, none⟩) (l.length + 3) (l.length + 3)) (l ++ List.replicate 3 lentP) ∧ Prs w (.slice (some ⟨g, 0, none⟩) l.length (l.length + 3)) l := by
  have h1 : Prs w (.slice (some ⟨g, 0, none⟩) (l.length + 3) (l.length + 3)) (l ++ List.replicate 3 lentP) := Reads.own encP_len (by decide) h
  exact ⟨h1, h1.cut⟩

set_option maxRecDepth 100000 in
set_option maxHeartbeats 8000000 in
theorem mergeRuns_plain (w : World) (v : Value) (ls : List (List KV)) (hv : Lis w v ls) :
    Calls Try.prog 3 #[v] w fun e w' => e = .returned (.bool true) ∧ Below w.heap.size w w' := by
  have HV := hid hv
  clear hv
  go_enter Try.func3, Try.ntmps3
  go_wp2_with fail
  refine (sortedRuns_any v ls w HV.out).mono ?_
  rintro e w1 ⟨hb1, rfl | ⟨u, rfl, hrows, h8, h20⟩⟩
  · have HB1 := hid hb1
    clear hb1
    go_wp2_with fail
    refine (awake_calls _).mono ?_
    rintro e w9 ⟨rfl, hb9⟩
    have HB9 := hid (below_then HB1.out hb9 HB1.out.size)
    go_wp2
    go_ret
    exact ⟨rfl, HB9.out⟩
  · have HB1 := hid hb1
    obtain ⟨hr8, hr20, hr160⟩ := small_srt h8 h20
    clear hb1 h8 h20
    generalize ls.map srt = rs at hrows hr8 hr20 hr160
    have HL := hid hrows.lis
    obtain ⟨uo, uc, rfl, u1, u2, -⟩ := hrows.lis.slice
    unfold maxLen at u2
    have HS := hid hr20
    clear hrows hr20 HV
    go_wp2_with fail
    refine (runs_any _ rs w1 HL.out (by omega)).mono ?_
    rintro e w2 ⟨a, rfl, ho2, hb2⟩
    have HO2 := hid ho2
    have HB2 := hid hb2
    clear ho2 hb2
    go_wp2_with fail
    refine (refRuns_any _ rs w2 (HL.out.below HB2.out) (by omega)).mono ?_
    rintro e w3 ⟨c, rfl, ho3, hb3⟩
    have HO3 := hid ho3
    have HO23 := hid (owns_below HO2.out hb3)
    have HB3 := hid (below_then HB2.out hb3 HB2.out.size)
    clear ho3 hb3 HO2 HB2
    go_wp2_with fail
    refine (samePairs_any _ _ (srt rs.flatten) w3 (Reads.own encP_len (by decide) HO23.out) (Reads.own encP_len (by decide) HO3.out)).mono ?_
    rintro e w4 ⟨rfl, n4, rfl⟩
    have HO4 := hid (owns_below HO23.out (below_drew w3 n4))
    have HB4 := hid (below_then HB3.out (below_drew w3 n4) HB3.out.size)
    generalize w3.drewN n4 = w4 at HO4 HB4 ⊢
    clear HO3 HO23 HB3
    go_wp2_with fail
    refine (overPairs_own _ w1.heap.size a _ w4 HO4.out HB4.out.size (by rw [length_srt]; omega)).mono ?_
    rintro e w5 ⟨rfl, hb5⟩
    have HB5 := hid (HB4.out.trans hb5)
    have HL5 := hid (HL.out.below HB5.out)
    have HB05 := hid (below_then HB1.out HB5.out HB1.out.size)
    clear hb5 HO4 HB4 HB5 HL HB1
    by_cases h2 : 2 ≤ rs.length
    case' neg =>
      have d2 : decide ((2 : Int) ≤ (rs.length : Int)) = false := by simp; omega
      have d3 : decide (2 ≤ rs.length) = false := by simp; omega
      go_wp2_with fail
    case' pos =>
      have d2 : decide ((2 : Int) ≤ (rs.length : Int)) = true := by simp; omega
      have d3 : decide (2 ≤ rs.length) = true := by simp; omega
      obtain ⟨b, off, l0, xo, xc, hl0, rfl, hb, c0, hp0⟩ := HL5.out.cell (j := 0) (by omega)
      obtain ⟨b', off', l1, yo, yc, hl1, e1, -, c1, hp1⟩ := HL5.out.cell (j := 1) (by omega)
      simp only [Option.some.injEq, Addr.mk.injEq, and_true] at e1
      obtain ⟨rfl, rfl⟩ := e1
      have HT := hid (take_two hl0 hl1)
      have hs0 := HS.out l0 (List.mem_of_getElem? hl0)
      have hs1 := HS.out l1 (List.mem_of_getElem? hl1)
      have HP0 := hid (hp0.below (below_drew1 w5))
      have HP1 := hid (hp1.below (below_drew1 w5))
      have HL5d := hid (HL5.out.below (below_drew1 w5))
      have HB5d := hid (below_then HB05.out (below_drew1 w5) HB05.out.size)
      rw [Nat.add_zero] at c0
      clear hl0 hl1 hp0 hp1 HL5 HB05
      go_wp2_with fail
      obtain ⟨R, hR⟩ : ∃ R, rs.length = R := ⟨_, rfl⟩
      have HR := hid hR
      rw [hR] at hr8 u1 h2 d2 d3 HL5d ⊢
      clear hR
      have hi0 : (0 : Int) < (R : Int) := by omega
      have hi1 : (1 : Int) < (R : Int) := by omega
      have hR0 : ¬ R = 0 := by omega
      have hR1 : 0 < R := by omega
      go_region_held3 (fun w' => w'.cell? ⟨b, off, none⟩ = some (.slice xo l0.length xc) ∧ w'.cell? ⟨b, off + 1, none⟩ = some (.slice yo l1.length yc))
        (first | exact HK7.out | exact HK6.out | exact ⟨c0, c1⟩)
        (first | (go_at_call 13; refine (lendPairs_any _ l1 w6 (HP1.out.below HB6.out) (by omega)).mono ?_; rintro e w7 ⟨rfl, ho7, hb7⟩; generalize w6.heap.size = g1 at ho7 ⊢; have HO7 := hid ho7; have HB7 := hid hb7; have HK7 := hid (And.intro (keepc hb7 (Nat.lt_of_lt_of_le hb HB6.out.size) HK6.out.1) (keepc hb7 (Nat.lt_of_lt_of_le hb HB6.out.size) HK6.out.2)); clear ho7 hb7)
               | (go_at_call 13; refine (lendPairs_any _ l0 w5.drew HP0.out (by omega)).mono ?_; rintro e w6 ⟨rfl, ho6, hb6⟩; have HK6 := hid (And.intro (keepc hb6 hb c0) (keepc hb6 hb c1)); have HB6 := hid hb6; generalize w5.drew.heap.size = g0 at ho6 ⊢; have HO6 := hid ho6; clear ho6 hb6))
      have HB67 := hid (below_then HB6.out HB7.out HB6.out.size)
      have HL7 := hid (HL5d.out.below HB67.out)
      have HB07 := hid (below_then HB5d.out HB67.out HB5d.out.size)
      have HX7 := hid (lent_prs (owns_below HO6.out HB7.out))
      have HY7 := hid (lent_prs HO7.out)
      have HQ0 := hid (HP0.out.below HB67.out)
      have HQ1 := hid (HP1.out.below HB67.out)
      have hb7 : b < w7.heap.size := Nat.lt_of_lt_of_le hb HB67.out.size
      clear HB6 HB7 HB67 HL5d HB5d HO6 HO7 HP0 HP1 HK6 hb c0 c1
      go_wp2_with fail
      refine (two_any _ _ l0 l1 w7 HX7.out.2 HY7.out.2 (by omega)).mono ?_
      rintro e w8 ⟨m, rfl, ho8, hb8⟩
      have HO8 := hid ho8
      have HB8 := hid hb8
      clear ho8 hb8
      have hcut : (2 : Int) ≤ (R : Int) := by omega
      have hcut2 : 2 ≤ uc := by omega
      go_wp2_with fail
      refine (refRuns_any _ (rs.take 2) w8 ((HL7.out.below HB8.out).take (by rw [HR.out]; omega)) (by rw [HT.out, List.length_append]; omega)).mono ?_
      rintro e w9 ⟨c', rfl, ho9, hb9⟩
      rw [HT.out] at ho9
      have HO9 := hid ho9
      have HO89 := hid (owns_below HO8.out hb9)
      have HB9 := hid (below_then HB8.out hb9 HB8.out.size)
      clear ho9 hb9 HO8 HB8
      go_wp2_with fail
      refine (samePairs_any _ _ (srt (l0 ++ l1)) w9 (Reads.own encP_len (by decide) HO89.out) (Reads.own encP_len (by decide) HO9.out)).mono ?_
      rintro e w10 ⟨rfl, n10, rfl⟩
      have HO10 := hid (owns_below HO89.out (below_drew w9 n10))
      have HB10 := hid (below_then HB9.out (below_drew w9 n10) HB9.out.size)
      generalize w9.drewN n10 = w10 at HO10 HB10 ⊢
      clear HO9 HO89 HB9
      go_wp2_with fail
      refine (overPairs_own _ w7.heap.size m _ w10 HO10.out HB10.out.size (by rw [length_srt, List.length_append]; omega)).mono ?_
      rintro e w11 ⟨rfl, hb11⟩
      have HB11 := hid (HB10.out.trans hb11)
      clear hb11 HO10 HB10
      have k0 := keepc HB11.out hb7 HK7.out.1
      have k1 := keepc HB11.out hb7 HK7.out.2
      go_wp2_with fail
      refine (keptPairs_any g0 _ l0 w11 (HX7.out.1.below HB11.out) (HQ0.out.below HB11.out) (by omega)).mono ?_
      rintro e w12 ⟨rfl, n12, rfl⟩
      have HB12 := hid (below_then HB11.out (below_drew w11 n12) HB11.out.size)
      generalize w11.drewN n12 = w12 at HB12 ⊢
      clear HB11 k0 k1
      have k1 := keepc HB12.out hb7 HK7.out.2
      go_wp2_with fail
      refine (keptPairs_any g1 _ l1 w12 (HY7.out.1.below HB12.out) (HQ1.out.below HB12.out) (by omega)).mono ?_
      rintro e w13 ⟨rfl, n13, rfl⟩
      have HB13 := hid (below_then HB12.out (below_drew w12 n13) HB12.out.size)
      generalize w12.drewN n13 = w13 at HB13 ⊢
      clear HB12 k1
      have HL5 := hid (HL7.out.below HB13.out)
      have HB05 := hid (below_then HB07.out HB13.out HB07.out.size)
      clear HL7 HB13 HB07 HX7 HY7 HQ0 HQ1 HK7 w5
      go_wp2_with fail
      rename World => w5
    all_goals
      clear d2 d3
      refine (runs_any _ rs w5 HL5.out (by omega)).mono ?_
      rintro e z1 ⟨a1, rfl, p1, q1⟩
      have HO1 := hid p1
      have HB1 := hid q1
      clear p1 q1
      go_wp2_with fail
      refine (refRuns_any _ rs z1 (HL5.out.below HB1.out) (by omega)).mono ?_
      rintro e z2 ⟨a2, rfl, p2, q2⟩
      have HO2 := hid p2
      have HO12 := hid (owns_below HO1.out q2)
      have HB2 := hid (below_then HB1.out q2 HB1.out.size)
      clear p2 q2 HO1 HB1
      go_wp2_with fail
      refine (samePairs_any _ _ (srt rs.flatten) z2 (Reads.own encP_len (by decide) HO12.out) (Reads.own encP_len (by decide) HO2.out)).mono ?_
      rintro e z3 ⟨rfl, n3, rfl⟩
      have HB3 := hid (below_then HB2.out (below_drew z2 n3) HB2.out.size)
      generalize z2.drewN n3 = z3 at HB3 ⊢
      clear HO2 HO12 HB2
      go_wp2_with fail
      refine (awake_calls _).mono ?_
      rintro e z4 ⟨rfl, q4⟩
      have HE := hid (below_then HB05.out (below_then HB3.out q4 HB3.out.size) HB05.out.size)
      clear q4
      go_wp2
      go_ret
      exact ⟨rfl, HE.out⟩
theorem mergeRuns_walk (w : World) (v : Value) (ls : List (List KV)) (hv : rSlice 1 (rSlice 2 rPr) w [v] ls) :
    Calls Try.prog 3 #[v] w fun e w' => e = .returned (.bool true) ∧ Below w.heap.size w w' := mergeRuns_plain w v ls (Lis.arg hv)
end Go.Proofs.Ytafbofcenbfkeaa
