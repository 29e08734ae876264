/- MergeEmpty: runs without pairs change nothing; one run is itself. -/
import Derived.Test.YtafbofcenbfkeaaMergeRuns
namespace Go.Proofs.Ytafbofcenbfkeaa
open Go.RowKit
set_option linter.unusedVariables false

/-- Each list, between two that have nothing. -/
def among (ls : List (List KV)) : List (List KV) := ls.flatMap fun l => [[], l, []]
theorem among_take {ls : List (List KV)} {k : Nat} {l : List KV} (h : ls[k]? = some l) : among (ls.take (k + 1)) = among (ls.take k) ++ [[], l, []] := by
  unfold among
  rw [List.take_add_one, h, List.flatMap_append]
  simp
theorem among_len (ls : List (List KV)) : (among ls).length = 3 * ls.length := by
  unfold among
  induction ls with
  | nil => rfl
  | cons l ls ih => rw [List.flatMap_cons, List.length_append, ih]; simp; omega
theorem among_flat (ls : List (List KV)) : (among ls).flatten = ls.flatten := flat_more ls
theorem own_three {B : Nat} {x : Value} {l : List KV} {w : World} (h : Own B x l w) : ∀ (j : Nat) (m : List KV), [[], l, []][j]? = some m → ∃ y, [Value.slice none 0 0, x, Value.slice none 0 0][j]? = some y ∧ Own B y m w := by
  intro j m hj
  match j, hj with
  | 0, hj => simp at hj; subst hj; exact ⟨_, rfl, Own.nil _ _⟩
  | 1, hj => simp at hj; subst hj; exact ⟨x, rfl, h⟩
  | 2, hj => simp at hj; subst hj; exact ⟨_, rfl, Own.nil _ _⟩
  | j + 3, hj => simp at hj
theorem lis_one {w : World} {x : Value} {l : List KV} (hx : Prs w x l) : Lis (w.alloc (.cells #[x] 26)) (.slice (some ⟨w.heap.size, 0, none⟩) 1 1) [l] := by
  refine lis_made [x] [l] w (by simp) rfl fun j z hj => ?_
  match j, hj with
  | 0, hj => simp at hj; subst hj; exact ⟨x, rfl, hx⟩
  | j + 1, hj => simp at hj
theorem prs_nil (w : World) : Prs w (.slice none 0 0) [] := Reads.nil w

set_option maxRecDepth 100000 in
set_option maxHeartbeats 8000000 in
theorem mergeEmpty_plain (w : World) (v : Value) (ls : List (List KV)) (hv : Lis w v ls) (o : Value) (one : List KV) (ho : Prs w o one) :
    Calls Try.prog 5 #[v, o] w fun e w' => e = .returned (.bool true) ∧ Below w.heap.size w w' := by
  have HV := hid hv
  have HO := hid ho
  clear hv
  obtain ⟨oo, oc, rfl, -⟩ := ho
  obtain ⟨i0, hi, hz0, hz1, hz2⟩ := info_parts Try.infoS
  go_enter Try.func5, Try.ntmps5
  go_wp2_with fail
  refine (sortedRuns_any v ls w HV.out).mono ?_
  rintro e w1 ⟨hb1, rfl | ⟨u, rfl, hrows, h8, h20⟩⟩
  · have HB1 := hid hb1
    clear hb1
    go_wp2_with fail
    refine (awake_calls _).mono ?_
    rintro e w9 ⟨rfl, hb9⟩
    have HB9 := hid (below_then HB1.out hb9 HB1.out.size)
    go_wp2
    go_ret
    exact ⟨rfl, HB9.out⟩
  · have HB1 := hid hb1
    obtain ⟨hr8, hr20, hr160⟩ := small_srt h8 h20
    clear hb1 h8 h20 hr20
    generalize ls.map srt = rs at hrows hr8 hr160
    have HL := hid hrows
    have hrl := hrows.lis
    obtain ⟨uo, uc, rfl, u1, u2, -⟩ := hrl.slice
    unfold maxLen at u2
    clear hrows HV hrl
    go_wp2_with fail
    refine (greatPairs_any _ one 20 w1 (HO.out.below HB1.out)).mono ?_
    rintro e w0 ⟨⟨g, rfl, hg⟩, rfl⟩
    cases g with
    | true =>
      clear hg
      go_wp2_with fail
      refine (awake_calls _).mono ?_
      rintro e w9 ⟨rfl, hb9⟩
      have HB9 := hid (below_then HB1.out hb9 HB1.out.size)
      go_wp2
      go_ret
      exact ⟨rfl, HB9.out⟩
    | false =>
      obtain ⟨hone, -⟩ := hg rfl
      clear hg
      rename World => w1
      go_wp2
      go_loopw [7, 8] (fun u i wr => ∃ j : Nat, j ≤ rs.length ∧ i = .int .i64 j ∧ Rows w1.heap.size (among (rs.take j)) u wr ∧ Below w1.heap.size w1 wr) (fun _ i _ => rs.length - (intOf i).toNat)
      case atStart => exact ⟨0, by omega, rfl, Rows.nil _ _, Below.refl _ _⟩
      case round =>
        obtain ⟨j, hj, rfl, hrw, hbel⟩ := hrel
        have hsz := hbel.size
        have HR := hid hrw
        clear hrw
        by_cases hlt : j < rs.length
        · obtain ⟨b, off, l, xo, xc, hl, rfl, hb, c1, hp⟩ := (HL.out.below hbel).cell hlt
          have HX := hid hp
          have HA := hid (among_take hl)
          have hal : (among (rs.take j)).length = 3 * j := by rw [among_len, List.length_take]; omega
          obtain ⟨vs, hvs, hall⟩ := HR.out
          rw [hal] at hvs
          have HVs := hid hvs
          have HAll := hid hall
          have HAL := hid hal
          clear hl hp hvs hall hal HR
          have d4 : decide ((j : Int) < (rs.length : Int)) = true := by simp; omega
          go_wp2_with (at_builtin; refine wpList_append_own _ rfl _ _ 22 rfl w1.heap.size 26 i0 (.slice none 0 0) 1 24 Try.underlying22 hi hz0 hz1 hz2 rfl (by decide) _ (3 * j) _ rfl (HVs.out.alloc _) ⟨wr.heap.size, 0, none⟩ 3 3 [.slice none 0 0, .slice xo l.length xc, .slice none 0 0] rfl rfl (list_new _ _ _) (by intro u hu; simp at hu; rcases hu with rfl | rfl | rfl <;> rfl) (by unfold maxLen; omega) (by omega) (by simp; omega) ?_; intro v3 w3 ho3 hg3 _)
          have HB3 := hid ((hbel.alloc hbel.size _).grown hg3 (by simp; omega) (by intro q hq; exact owns_base HVs.out hq))
          have HC3 := hid (show Rows w1.heap.size (among (rs.take (j + 1))) v3 w3 by
            rw [HA.out]
            exact Rows.more (by rw [HAL.out]; exact HVs.out.alloc _) (rows_at HAll.out (alloc_one _ _)) (own_three (HX.out.below (alloc_one _ _))) (by rw [HAL.out]; exact ho3) hg3)
          clear ho3 hg3 HVs HAll HX hbel c1
          go_wp2
          go_roundw
          case rel => exact ⟨j + 1, by omega, by go_num, HC3.out, HB3.out⟩
          case measure => simp [intOf]; omega
        · obtain rfl : j = rs.length := by omega
          have d4 : decide ((rs.length : Int) < (rs.length : Int)) = false := by simp
          rw [List.take_length] at HR
          have HMo := hid HR.out.lis
          have HFl := hid (among_flat rs)
          have HLr := hid (HL.out.lis.below hbel)
          have HOr := hid (HO.out.below (below_then HB1.out hbel HB1.out.size))
          have HBr := hid (below_then HB1.out hbel HB1.out.size)
          clear hbel HB1 HL HR HO hsz
          obtain ⟨mo, mc, rfl, -⟩ := HMo.out.slice
          generalize among rs = ms at HMo HFl ⊢
          generalize hF : rs.flatten = F at HFl hr160
          have HF := hid hF
          clear hF
          rename World => W
          go_wp2_with fail
          refine (sort_any _ one W HOr.out (by omega)).mono ?_
          rintro e z1 ⟨x, rfl, ho1, hb1⟩
          have HX := hid ho1
          have HM1 := hid (HMo.out.below hb1)
          have HL1 := hid (HLr.out.below hb1)
          have HB1 := hid (below_then HBr.out hb1 HBr.out.size)
          obtain ⟨xo, xc, rfl⟩ := own_slice ho1
          clear ho1 hb1 HMo HLr HBr HOr
          have HSx := hid (srt_self (rising_srt one))
          have hxl : (srt one).length ≤ 20 := by rw [length_srt]; exact hone
          generalize srt one = xs at HX HSx hxl ⊢
          have HPx := hid (Reads.own encP_len (by decide) HX.out)
          clear HX
          go_wp2_with fail
          refine (runs_any _ ms z1 HM1.out (by rw [HFl.out]; omega)).mono ?_
          rintro e z2 ⟨a2, rfl, ho2, hb2⟩
          rw [HFl.out] at ho2
          have HO2 := hid ho2
          have HB2 := hid hb2
          clear ho2 hb2 HM1
          go_wp2_with fail
          refine (runs_any _ rs z2 (HL1.out.below HB2.out) (by rw [HF.out]; omega)).mono ?_
          rintro e z3 ⟨a3, rfl, ho3, hb3⟩
          rw [HF.out] at ho3
          have HO3 := hid ho3
          have HO23 := hid (owns_below HO2.out hb3)
          have HB3 := hid (below_then HB2.out hb3 HB2.out.size)
          clear ho3 hb3 HO2 HB2
          go_wp2_with fail
          refine (samePairs_any _ _ (srt F) z3 (Reads.own encP_len (by decide) HO23.out) (Reads.own encP_len (by decide) HO3.out)).mono ?_
          rintro e z4 ⟨rfl, n4, rfl⟩
          have HB4 := hid (below_then HB3.out (below_drew z3 n4) HB3.out.size)
          generalize z3.drewN n4 = z4 at HB4 ⊢
          clear HO3 HO23 HB3 HL1
          have HP4 := hid (HPx.out.below HB4.out)
          have HE4 := hid (below_then HB1.out HB4.out HB1.out.size)
          clear HB4 HB1 HPx
          go_wp2_with fail
          refine (runs_any _ [xs] _ (lis_one HP4.out) (by simp; omega)).mono ?_
          rintro e z5 ⟨a5, rfl, ho5, hb5⟩
          rw [show [xs].flatten = xs by simp, HSx.out] at ho5
          have HO5 := hid ho5
          have HB5 := hid (below_then (alloc_one _ _) hb5 (alloc_one _ _).size)
          clear ho5 hb5
          go_wp2_with fail
          refine (samePairs_any _ _ xs z5 (Reads.own encP_len (by decide) HO5.out) (HP4.out.below HB5.out)).mono ?_
          rintro e z6 ⟨rfl, n6, rfl⟩
          have HB6 := hid (below_then HB5.out (below_drew z5 n6) HB5.out.size)
          generalize z5.drewN n6 = z6 at HB6 ⊢
          clear HO5 HB5
          go_wp2_with fail
          refine (two_any _ _ [] xs z6 (prs_nil z6) (HP4.out.below HB6.out) (by simp; omega)).mono ?_
          rintro e z7 ⟨a7, rfl, ho7, hb7⟩
          rw [List.nil_append, HSx.out] at ho7
          have HO7 := hid ho7
          have HB7 := hid (below_then HB6.out hb7 HB6.out.size)
          clear ho7 hb7 HB6
          go_wp2_with fail
          refine (samePairs_any _ _ xs z7 (Reads.own encP_len (by decide) HO7.out) (HP4.out.below HB7.out)).mono ?_
          rintro e z8 ⟨rfl, n8, rfl⟩
          have HB8 := hid (below_then HB7.out (below_drew z7 n8) HB7.out.size)
          generalize z7.drewN n8 = z8 at HB8 ⊢
          clear HO7 HB7
          go_wp2_with fail
          refine (two_any _ _ xs [] z8 (HP4.out.below HB8.out) (prs_nil z8) (by simp; omega)).mono ?_
          rintro e z9 ⟨a9, rfl, ho9, hb9⟩
          rw [List.append_nil, HSx.out] at ho9
          have HO9 := hid ho9
          have HB9 := hid (below_then HB8.out hb9 HB8.out.size)
          clear ho9 hb9 HB8
          go_wp2_with fail
          refine (samePairs_any _ _ xs z9 (Reads.own encP_len (by decide) HO9.out) (HP4.out.below HB9.out)).mono ?_
          rintro e z10 ⟨rfl, n10, rfl⟩
          have HB10 := hid (below_then HB9.out (below_drew z9 n10) HB9.out.size)
          generalize z9.drewN n10 = z10 at HB10 ⊢
          clear HO9 HB9
          go_wp2_with fail
          refine (awake_calls _).mono ?_
          rintro e z11 ⟨rfl, q11⟩
          have HE := hid (below_then HE4.out (below_then HB10.out q11 HB10.out.size) HE4.out.size)
          clear q11
          go_wp2
          go_ret
          exact ⟨rfl, HE.out⟩
theorem mergeEmpty_walk (w : World) (v : Value) (ls : List (List KV)) (hv : rSlice 1 (rSlice 2 rPr) w [v] ls) (o : Value) (one : List KV) (ho : rSlice 2 rPr w [o] one) :
    Calls Try.prog 5 #[v, o] w fun e w' => e = .returned (.bool true) ∧ Below w.heap.size w w' := mergeEmpty_plain w v ls (Lis.arg hv) o one (Prs.arg ho)
end Go.Proofs.Ytafbofcenbfkeaa
