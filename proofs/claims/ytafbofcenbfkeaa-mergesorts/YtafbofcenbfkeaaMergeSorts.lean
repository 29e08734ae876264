/- MergeSorts: merged runs are the stable sort of all, one behind the other; merged in pieces they are the same. -/
import Derived.Test.YtafbofcenbfkeaaMergeRuns
import Derived.Test.YtafbofcenbfkeaaSLook
import Derived.Test.YtafbofcenbfkeaaLowC
namespace Go.Proofs.Ytafbofcenbfkeaa
open Go.RowKit
set_option linter.unusedVariables false

theorem srt_told (F : List KV) : decide (srt (srt F) = srt F) = true := decide_eq_true (srt_srt F)

set_option maxRecDepth 100000 in
set_option maxHeartbeats 8000000 in
theorem mergeSorts_plain (w : World) (v : Value) (ls : List (List KV)) (hv : Lis w v ls) (kk : Int) :
    Calls Try.prog 4 #[v, .int .i64 kk] w fun e w' => e = .returned (.bool true) ∧ Below w.heap.size w w' := by
  have HV := hid hv
  clear hv
  obtain ⟨i0, hi, hz0, hz1, hz2⟩ := info_parts Try.infoP
  go_enter Try.func4, Try.ntmps4
  go_wp2_with fail
  refine (sortedRuns_any v ls w HV.out).mono ?_
  rintro e w1 ⟨hb1, rfl | ⟨u, rfl, hrows, h8, h20⟩⟩
  · have HB1 := hid hb1
    clear hb1
    go_wp2_with fail
    refine (awake_calls _).mono ?_
    rintro e w9 ⟨rfl, hb9⟩
    have HB9 := hid (below_then HB1.out hb9 HB1.out.size)
    go_wp2
    go_ret
    exact ⟨rfl, HB9.out⟩
  · have HB1 := hid hb1
    obtain ⟨hr8, hr20, hr160⟩ := small_srt h8 h20
    clear hb1 h8 h20 hr20
    generalize ls.map srt = rs at hrows hr8 hr160
    have HL := hid hrows.lis
    obtain ⟨uo, uc, rfl, u1, u2, -⟩ := hrows.lis.slice
    unfold maxLen at u2
    clear hrows HV
    go_wp2_with fail
    refine (low_calls kk ((rs.length + 1 : Nat) : Int) (by omega) (by omega) _).mono ?_
    rintro e w0 ⟨rfl, rfl⟩
    obtain ⟨k, hk, hkR⟩ := low_nat kk (rs.length + 1) (by omega)
    rw [hk]
    clear hk
    go_wp2
    go_loopw [7, 8] (fun u i wr => ∃ j : Nat, j ≤ rs.length ∧ i = .int .i64 j ∧ wr.ownsRow w1.heap.size 45 2 u (rs.take j).flatten.length (fl encP (rs.take j).flatten) ∧ Below w1.heap.size w1 wr) (fun _ i _ => rs.length - (intOf i).toNat)
    case atStart => exact ⟨0, by omega, rfl, by simpa [fl] using World.ownsRow_nil _ _ _ _, Below.refl _ _⟩
    case round =>
      obtain ⟨j, hj, rfl, ho, hbel⟩ := hrel
      have HO := hid ho
      have hsz := hbel.size
      clear ho
      have hml3 := flat_take_le rs j
      by_cases hlt : j < rs.length
      · obtain ⟨b, off, l, xo, xc, hl, rfl, hb, c1, hp⟩ := (HL.out.below hbel).cell hlt
        have HF := hid (flat_take hl)
        have hml2 : (rs.take j).flatten.length + l.length ≤ 160 := by have := flat_take_le rs (j + 1); rw [flat_take hl, List.length_append] at this; omega
        have HP := hid hp
        clear hl hp
        have d4 : decide ((j : Int) < (rs.length : Int)) = true := by simp; omega
        generalize (rs.take j).flatten = ks at HO HF hml2 hml3
        go_wp2_with (at_builtin; refine wpList_append_own_any _ rfl _ _ 26 rfl w1.heap.size 45 i0 (.agg #[.string ⟨#[]⟩, .string ⟨#[]⟩]) 2 32 Try.underlying26 hi hz0 hz1 hz2 rfl (by decide) _ ks.length _ rfl HO.out xo l.length xc (fl encP l) rfl (fl_length encP_len l) HP.out.noneOf (HP.out.news encP_len (by decide) (Below.refl _ _)) (fl_one encP_one l) (by unfold maxLen; omega) (by omega) (by omega) ?_; intro v3 w3 ho3 hg3)
        have HB3 := hid (hbel.grown hg3 (by omega) (by intro q hq; exact owns_base HO.out hq))
        have HO3 := hid (show w3.ownsRow w1.heap.size 45 2 v3 (rs.take (j + 1)).flatten.length (fl encP (rs.take (j + 1)).flatten) by rw [HF.out, fl_append, List.length_append]; exact ho3)
        clear ho3 hg3 HF HO hbel c1 HP
        go_wp2
        go_roundw
        case rel => exact ⟨j + 1, by omega, by go_num, HO3.out, HB3.out⟩
        case measure => simp [intOf]; omega
      · obtain rfl : j = rs.length := by omega
        have d4 : decide ((rs.length : Int) < (rs.length : Int)) = false := by simp
        rw [List.take_length] at HO
        have HLr := hid (HL.out.below hbel)
        have HB0 := hid (below_then HB1.out hbel HB1.out.size)
        clear hbel HB1 HL hml3 hsz
        go_wp2_with fail
        refine (runs_any _ rs wr HLr.out (by omega)).mono ?_
        rintro e w2 ⟨a, rfl, ho2, hb2⟩
        have HA := hid (owns_below ho2 (below_drew1 w2))
        have HAll := hid (owns_below HO.out (below_then hb2 (below_drew1 w2) hb2.size))
        have HL2 := hid (HLr.out.below (below_then hb2 (below_drew1 w2) hb2.size))
        have HB2 := hid (below_then HB0.out (below_then hb2 (below_drew1 w2) hb2.size) HB0.out.size)
        clear ho2 hb2 HO HLr HB0
        obtain ⟨uo2, huo2⟩ : ∃ uo2, (if uc = k then uo else Option.map (fun x => x.add k) uo) = uo2 := ⟨_, rfl⟩
        have HLa := hid (HL2.out.take (k := k) (by omega))
        have HLb := hid (HL2.out.far (k := k) (by omega) huo2)
        have HF := hid (runs_halves rs k)
        have hsum : (rs.take k).flatten.length + (rs.drop k).flatten.length = rs.flatten.length := by
          rw [← List.length_append, ← List.flatten_append, List.take_append_drop]
        have hk0 : (0 : Int) ≤ (k : Int) := by omega
        have hkn : (k : Int) ≤ (rs.length : Int) := by omega
        have hkc : (k : Int) ≤ (uc : Int) := by omega
        generalize rs.take k = A at HLa HF hsum
        generalize rs.drop k = B at HLb HF hsum
        generalize rs.flatten = F at HF hsum hr160 HA HAll
        clear HL2
        go_wp2_with fail
        go_region_held3 (fun _ => True) (trivial)
          (first | (go_at_call 8; refine (awake_calls z7).mono ?_; rintro e z8 ⟨rfl, hb8⟩; have HB8 := hid (below_then HB7.out hb8 HB7.out.size); clear hb8)
                 | (go_at_call 10; refine (samePairs_any _ _ (srt F) z6 (Reads.own encP_len (by decide) HO6.out) (Reads.own encP_len (by decide) (owns_below HA.out HB6.out))).mono ?_; rintro e z7 ⟨rfl, n7, rfl⟩; have HB7 := hid (below_then HB6.out (below_drew z6 n7) HB6.out.size); generalize z6.drewN n7 = z7 at HB7 ⊢)
                 | (go_at_call 14; refine (two_any _ _ (srt A.flatten) (srt B.flatten) z5 (Reads.own encP_len (by decide) HO45.out) (Reads.own encP_len (by decide) HO5.out) (by rw [length_srt, length_srt]; omega)).mono ?_; rintro e z6 ⟨u6, rfl, ho6, hb6⟩; rw [HF.out] at ho6; have HO6 := hid ho6; have HB6 := hid (below_then HB5.out hb6 HB5.out.size); clear ho6 hb6)
                 | (go_at_call 9; refine (runs_any _ B z4 (HLb.out.below HB4.out) (by omega)).mono ?_; rintro e z5 ⟨u5, rfl, ho5, hb5⟩; have HO5 := hid ho5; have HO45 := hid (owns_below HO4.out hb5); have HB5 := hid (below_then HB4.out hb5 HB4.out.size); clear ho5 hb5)
                 | (go_at_call 9; refine (runs_any _ A z3 (HLa.out.below HB3.out) (by omega)).mono ?_; rintro e z4 ⟨u4, rfl, ho4, hb4⟩; have HO4 := hid ho4; have HB4 := hid (below_then HB3.out hb4 HB3.out.size); clear ho4 hb4)
                 | (go_at_call 18; refine (sorted_any _ (srt F) z2 (Reads.own encP_len (by decide) (owns_below HA.out HB2z.out))).mono ?_; rintro e z3 ⟨rfl, hb3⟩; rw [srt_told]; have HB3 := hid (below_then HB2z.out hb3 HB2z.out.size); clear hb3)
                 | (go_at_call 10; refine (samePairs_any _ _ (srt F) z1 (Reads.own encP_len (by decide) (owns_below HA.out HB1.out)) (Reads.own encP_len (by decide) HO1.out)).mono ?_; rintro e z2 ⟨rfl, n2, rfl⟩; have HB2z := hid (below_then HB1.out (below_drew z1 n2) HB1.out.size); generalize z1.drewN n2 = z2 at HB2z ⊢)
                 | (go_at_call 17; refine (sort_any _ F w2.drew (Reads.own encP_len (by decide) HAll.out) (by omega)).mono ?_; rintro e z1 ⟨u1, rfl, ho1, hb1⟩; have HO1 := hid ho1; have HB1 := hid hb1; clear ho1 hb1))
        all_goals
          have HE := hid (below_then HB2.out HB8.out HB2.out.size)
          go_wp2
          go_ret
          exact ⟨rfl, HE.out⟩
theorem mergeSorts_walk (w : World) (v : Value) (ls : List (List KV)) (hv : rSlice 1 (rSlice 2 rPr) w [v] ls) (kk : Int) (wk : (Lit.int .i64 kk).wf = true) :
    Calls Try.prog 4 #[v, .int .i64 kk] w fun e w' => e = .returned (.bool true) ∧ Below w.heap.size w w' := mergeSorts_plain w v ls (Lis.arg hv) kk
end Go.Proofs.Ytafbofcenbfkeaa
