/- MergeParts: what of merged runs is a part's is the merge of what of each run is; a key's values stand run by run. -/
import Derived.Test.YtafbofcenbfkeaaMergeRuns
import Derived.Test.YtafbofcenbfkeaaQOnly
import Derived.Test.YtafbofcenbfkeaaLowC
namespace Go.Proofs.Ytafbofcenbfkeaa
open Go.RowKit
set_option linter.unusedVariables false

theorem Rows.grown {B : Nat} {ls : List (List KV)} {u v2 : Value} {w w' : World} {base2 e2 s2 n2 : Nat} {xs2 : List Value} (h : Rows B ls u w) (h2 : w.ownsRow base2 e2 s2 v2 n2 xs2) (he : 26 ≠ e2) (hp : 45 ≠ e2) (hg : w.grownBy w' v2.ownBlock) : Rows B ls u w' := by
  obtain ⟨vs, h1, h3⟩ := h
  refine ⟨vs, owns_grown h1 h2 he hg, fun j l hj => ?_⟩
  obtain ⟨x, hx, ho⟩ := h3 j l hj
  exact ⟨x, hx, owns_grown ho h2 hp hg⟩
/-- Of a run: not too long, no key too long. -/
def Few (l : List KV) : Prop := l.length ≤ 20 ∧ ∀ x ∈ l, x.1.size ≤ 100
theorem few_srt {l : List KV} (h : Few l) : Few (srt l) := ⟨by rw [length_srt]; exact h.1, fun x hx => h.2 x (mem_srt.1 hx)⟩
theorem few_all {ls : List (List KV)} (h6 : ls.length ≤ 6) (h : ∀ l ∈ ls, Few l) : (ls.map srt).length ≤ 6 ∧ (∀ l ∈ ls.map srt, Few l) ∧ (ls.map srt).flatten.length ≤ 120 ∧ ∀ x ∈ srt (ls.map srt).flatten, x.1.size ≤ 100 := by
  have hf : ∀ l ∈ ls.map srt, Few l := by
    intro l hl
    obtain ⟨m, hm, rfl⟩ := List.mem_map.1 hl
    exact few_srt (h m hm)
  have hl : (ls.map srt).length ≤ 6 := by rw [List.length_map]; exact h6
  have := flat_small fun l hl => (hf l hl).1
  refine ⟨hl, hf, by omega, fun x hx => ?_⟩
  obtain ⟨l, hl, hx⟩ := List.mem_flatten.1 (mem_srt.1 hx)
  exact (hf l hl).2 x hx
/-- A key's values, run by run. -/
def valsAll (key : ByteArray) (ls : List (List KV)) : List ByteArray := (ls.map (valsOf key)).flatten
theorem valsAll_take (key : ByteArray) {ls : List (List KV)} {k : Nat} {l : List KV} (h : ls[k]? = some l) : valsAll key (ls.take (k + 1)) = valsAll key (ls.take k) ++ valsOf key l := by
  unfold valsAll
  rw [map_take_more _ h]
  simp
theorem valsAll_srt (key : ByteArray) (ls : List (List KV)) : valsOf key (srt (ls.map srt).flatten) = valsAll key ls := by
  rw [valsOf_srt, valsOf_flat, List.map_map]
  unfold valsAll
  congr 1
  apply List.map_congr_left
  intro l _
  exact valsOf_srt key l
theorem valsAll_len (key : ByteArray) : ∀ (ls : List (List KV)), (∀ l ∈ ls, l.length ≤ 20) → (valsAll key ls).length ≤ ls.length * 20
  | [], _ => by simp [valsAll]
  | l :: ls, h => by
    have h1 := h l List.mem_cons_self
    have h2 := valsAll_len key ls fun x hx => h x (List.mem_cons_of_mem _ hx)
    have h3 := length_vals key l
    have e : valsAll key (l :: ls) = valsOf key l ++ valsAll key ls := rfl
    rw [e, List.length_append, List.length_cons, Nat.add_mul]
    omega
theorem parts_srt (rs : List (List KV)) (parts p : Int) : srt (rs.map fun l => onlyL l parts p).flatten = onlyL (srt rs.flatten) parts p := by
  rw [only_srt, only_flat]
theorem only_small {rs : List (List KV)} (parts p : Int) (h : ∀ l ∈ rs, Few l) : (rs.map fun l => onlyL l parts p).flatten.length ≤ rs.length * 20 := by
  have := flat_small (ls := rs.map fun l => onlyL l parts p) (by
    intro l hl
    obtain ⟨m, hm, rfl⟩ := List.mem_map.1 hl
    exact Nat.le_trans (onlyL_len m parts p) (h m hm).1)
  rw [List.length_map] at this
  exact this

set_option maxRecDepth 100000 in
set_option maxHeartbeats 8000000 in
theorem mergeParts_plain (w : World) (v : Value) (ls : List (List KV)) (hv : Lis w v ls) (pp : Int) (key : ByteArray) (hkm : key.size ≤ maxLen) :
    Calls Try.prog 6 #[v, .int .i64 pp, .string key] w fun e w' => e = .returned (.bool true) ∧ Below w.heap.size w w' := by
  have HV := hid hv
  obtain ⟨ao, ca, rfl, a1, a2, -⟩ := hv.slice
  unfold maxLen at a2 hkm
  clear hv
  obtain ⟨i0, hi, hz0, hz1, hz2⟩ := info_parts Try.infoS
  obtain ⟨j0, hj, hy0, hy1, hy2⟩ := info_parts Try.infoT
  by_cases hbig : 6 < ls.length
  · have d0 : decide ((6 : Int) < (ls.length : Int)) = true := by simp; omega
    have d1 : decide (6 < ls.length) = true := by simp; omega
    go_enter Try.func6, Try.ntmps6
    go_wp2_with fail
    refine (awake_calls _).mono ?_
    rintro e w9 ⟨rfl, hb9⟩
    go_wp2
    go_ret
    exact ⟨rfl, hb9⟩
  · have d0 : decide ((6 : Int) < (ls.length : Int)) = false := by simp; omega
    have d1 : decide (6 < ls.length) = false := by simp; omega
    by_cases hkey : 100 < key.size
    · have d2 : decide ((100 : Int) < (key.size : Int)) = true := by simp; omega
      have d3 : decide (100 < key.size) = true := by simp; omega
      go_enter Try.func6, Try.ntmps6
      go_wp2_with fail
      refine (awake_calls _).mono ?_
      rintro e w9 ⟨rfl, hb9⟩
      go_wp2
      go_ret
      exact ⟨rfl, hb9⟩
    · have d2 : decide ((100 : Int) < (key.size : Int)) = false := by simp; omega
      have d3 : decide (100 < key.size) = false := by simp; omega
      go_enter Try.func6, Try.ntmps6
      go_wp2_with fail
      refine (low_calls pp 10 (by decide) (by decide) _).mono ?_
      rintro e w0 ⟨rfl, rfl⟩
      obtain ⟨q, hq, hq10⟩ := low_nat pp 10 (by decide)
      rw [show low pp 10 = (q : Int) from hq]
      clear hq
      obtain ⟨P, hP⟩ : ∃ P : Nat, 1 + q = P := ⟨_, rfl⟩
      have hPi : (1 : Int) + (q : Int) = (P : Int) := by omega
      have hP1 : 1 ≤ P := by omega
      have hP10 : P ≤ 10 := by omega
      go_wp2
      clear hPi hP hq10
      go_loopw [6, 7, 8, 9] (fun r u t i wr => r = .bool false ∧ ∃ k : Nat, k ≤ ls.length ∧ i = .int .i64 k ∧ Hid (∀ l ∈ ls.take k, Few l) ∧ Rows w.heap.size ((ls.take k).map srt) u wr ∧ wr.ownsRow w.heap.size 9 1 t (valsAll key (ls.take k)).length (fl encT (valsAll key (ls.take k))) ∧ Below w.heap.size w wr) (fun _ _ _ i _ => ls.length - (intOf i).toNat)
      case atStart => exact ⟨rfl, 0, by omega, rfl, hid (fun l hl => by simp at hl), Rows.nil _ _, World.ownsRow_nil _ _ _ _, Below.refl _ _⟩
      case round =>
        obtain ⟨rfl, k, hk, rfl, HS, hrw, hvl, hbel⟩ := hrel
        have hsz := hbel.size
        have HR := hid hrw
        have HT := hid hvl
        clear hrw hvl
        by_cases hlt : k < ls.length
        · obtain ⟨b, off, l, xo, xc, hl, rfl, hb, cw, hp⟩ := HV.out.cell hlt
          have HL := hid hl
          have HPw := hid hp
          have HP := hid (hp.below hbel)
          have CW := hid cw
          have c1 := (hbel.cell (p := ⟨b, off + k, none⟩) hb).trans cw
          clear hl hp cw
          have d4 : decide ((k : Int) < (ls.length : Int)) = true := by simp; omega
          go_wp2_with fail
          refine (greatPairs_any _ l 20 _ HP.out).mono ?_
          rintro e w0 ⟨⟨g, rfl, hg⟩, rfl⟩
          cases g with
          | true =>
            clear hg
            go_wp2_with fail
            refine (awake_calls _).mono ?_
            rintro e w9 ⟨rfl, hb9⟩
            have HB9 := hid (below_then hbel hb9 hbel.size)
            go_wp2
            go_ret
            exact ⟨rfl, HB9.out⟩
          | false =>
            have hfew : Few l := hg rfl
            have hl20 := hfew.1
            have hvk : (valsAll key (ls.take k)).length ≤ 120 := by
              have h1 := valsAll_len key (ls.take k) fun l hl => (HS.out l hl).1
              rw [List.length_take] at h1
              omega
            have HS2 := hid (all_take_more HS.out HL.out hfew)
            clear hg HS hfew
            rename World => wr
            go_wp2_with fail
            refine (sort_any _ l wr HP.out (by omega)).mono ?_
            rintro e w1 ⟨x, rfl, ho1, hb1⟩
            obtain ⟨yo, yc, rfl⟩ := own_slice ho1
            have HO1 := hid (show Own 0 _ (srt l) w1 from owns_mono ho1 (Nat.zero_le _))
            have HB1 := hid (below_then hbel hb1 hbel.size)
            have hsz1 := HB1.out.size
            have HT1 := hid (owns_below HT.out hb1)
            obtain ⟨vs, hvs, hall⟩ := HR.out.below hb1
            have HVs := hid hvs
            have HAll := hid hall
            clear ho1 hb1 hbel HR hvs hall c1 hsz HT HP
            have hkl : ((ls.take k).map srt).length = k := by rw [List.length_map, List.length_take]; omega
            rw [hkl] at HVs
            have HKL := hid hkl
            clear hkl
            go_wp2_with (at_builtin; refine wpList_append_own _ rfl _ _ 22 rfl w.heap.size 26 i0 (.slice none 0 0) 1 24 Try.underlying22 hi hz0 hz1 hz2 rfl (by decide) _ k _ rfl (HVs.out.alloc _) ⟨w1.heap.size, 0, none⟩ 1 1 [.slice yo (srt l).length yc] rfl rfl (one_new _ _ _) (by intro u hu; simp at hu; subst hu; rfl) (by unfold maxLen; omega) (by omega) (by simp; omega) ?_; intro v3 w3 ho3 hg3 _; have HB3 := hid ((HB1.out.alloc HB1.out.size _).grown hg3 (by simp; omega) (by intro q hq; exact owns_base HVs.out hq)); have c3 := (HB3.out.cell (p := ⟨b, off + k, none⟩) hb).trans CW.out)
            have HT3 := hid (owns_grown (HT1.out.alloc _) (HVs.out.alloc _) (by decide) hg3)
            have HC3 := hid (show Rows w.heap.size ((ls.take (k + 1)).map srt) v3 w3 by
              rw [map_take_more srt HL.out]
              exact Rows.more (by rw [HKL.out]; exact HVs.out.alloc _) (rows_at HAll.out (alloc_one _ _)) (own_one (HO1.out.below (alloc_one _ _))) (by rw [HKL.out]; exact ho3) hg3)
            clear ho3 hg3 HVs HAll HO1 HB1 HT1
            have hsz3 := HB3.out.size
            have HP := hid (HPw.out.below HB3.out)
            refine (of_any _ l key w3 HP.out (by omega)).mono ?_
            rintro e w4 ⟨t, rfl, ho4, hb4⟩
            obtain ⟨to', tc', rfl⟩ := own_slice ho4
            have HN := hid (Reads.own encT_len (by decide) ho4)
            have HT4 := hid (owns_below HT3.out hb4)
            have HC4 := hid (HC3.out.below hb4)
            have HB4 := hid (below_then HB3.out hb4 HB3.out.size)
            have hsz4 := HB4.out.size
            have hvl := length_vals key l
            have HVT := hid (valsAll_take key HL.out)
            clear ho4 hb4 HT3 HC3 HB3 c3 HP
            generalize valsOf key l = vs2 at HN hvl HVT ⊢
            generalize valsAll key (ls.take k) = va at HT4 HVT hvk
            go_wp2_with (at_builtin; refine wpList_append_own_any _ rfl _ _ 39 rfl w.heap.size 9 j0 (.string ⟨#[]⟩) 1 16 Try.underlying39 hj hy0 hy1 hy2 rfl (by decide) _ va.length _ rfl HT4.out to' vs2.length tc' (fl encT vs2) rfl (fl_length encT_len vs2) HN.out.noneOf (HN.out.news encT_len (by decide) (Below.refl _ _)) (fl_one encT_one vs2) (by unfold maxLen; omega) (by omega) (by omega) ?_; intro v5 w5 ho5 hg5)
            have HB5 := hid (HB4.out.grown hg5 (by omega) (by intro q hq; exact owns_base HT4.out hq))
            have HC5 := hid (HC4.out.grown HT4.out (by decide) (by decide) hg5)
            have HT5 := hid (show w5.ownsRow w.heap.size 9 1 v5 (valsAll key (ls.take (k + 1))).length (fl encT (valsAll key (ls.take (k + 1)))) by rw [HVT.out, fl_append, List.length_append]; exact ho5)
            clear ho5 hg5 HT4 HC4 HB4 HVT HN
            go_wp2
            go_roundw
            case rel => exact ⟨rfl, k + 1, by omega, by go_num, HS2, HC5.out, HT5.out, HB5.out⟩
            case measure => simp [intOf]; omega
        · obtain rfl : k = ls.length := by omega
          have d4 : decide ((ls.length : Int) < (ls.length : Int)) = false := by simp
          rw [List.take_length] at HR HT HS
          obtain ⟨hr6, hrf, hr120, hk100⟩ := few_all (by omega) HS.out
          have HVE := hid (valsAll_srt key ls)
          have hvk : (valsAll key ls).length ≤ 120 := by
            have h1 := valsAll_len key ls fun l hl => (HS.out l hl).1
            omega
          have HFew := hid hrf
          have HK := hid hk100
          clear HS hrf hk100
          generalize ls.map srt = rs at HR hr6 HFew hr120 HK HVE
          generalize valsAll key ls = va at HT hvk HVE
          have hrl := HR.out.lis
          obtain ⟨uo, uc, rfl, u1, u2, -⟩ := hrl.slice
          obtain ⟨to', tc', rfl⟩ := own_slice HT.out
          unfold maxLen at u2
          clear hrl
          go_wp2_with fail
          refine (runs_any _ rs wr HR.out.lis (by omega)).mono ?_
          rintro e w2 ⟨a, rfl, ho2, hb2⟩
          have HA := hid (Reads.own encP_len (by decide) ho2)
          have HL := hid (HR.out.lis.below hb2)
          have HT2 := hid (Reads.own encT_len (by decide) (owns_below HT.out hb2))
          have HB2 := hid (below_then hbel hb2 hbel.size)
          have hal : (srt rs.flatten).length ≤ 120 := by rw [length_srt]; exact hr120
          have HPS := hid (fun p => parts_srt rs P p)
          obtain ⟨ao2, ac2, rfl⟩ := own_slice ho2
          clear ho2 hb2 HR HT hbel hsz
          generalize srt rs.flatten = F at HA HK HVE hal HPS ⊢
          go_wp2
          go_loopw [6, 11] (fun r i wp => r = .bool false ∧ ∃ p : Nat, p ≤ P ∧ i = .int .i64 p ∧ Below w2.heap.size w2 wp) (fun _ i _ => P - (intOf i).toNat)
          case atStart => exact ⟨rfl, 0, by omega, rfl, Below.refl _ _⟩
          case round =>
            rename World => wp
            obtain ⟨rfl, p, hp, rfl, hbp⟩ := hrel
            have HBp := hid hbp
            have hszp := hbp.size
            clear hbp
            by_cases hlp : p < P
            · have d5 : decide ((p : Int) < (P : Int)) = true := by simp; omega
              go_wp2
              go_loopw [12, 13] (fun t j wq => ∃ m : Nat, m ≤ rs.length ∧ j = .int .i64 m ∧ Rows wp.heap.size ((rs.take m).map fun l => onlyL l P p) t wq ∧ Below wp.heap.size wp wq) (fun _ j _ => rs.length - (intOf j).toNat)
              case atStart => exact ⟨0, by omega, rfl, Rows.nil _ _, Below.refl _ _⟩
              case round =>
                rename World => wq
                obtain ⟨m, hm, rfl, hrw, hbq⟩ := hrel
                have HR := hid hrw
                have HBq := hid hbq
                have hszq := hbq.size
                clear hrw hbq
                by_cases hlm : m < rs.length
                · have d6 : decide ((m : Int) < (rs.length : Int)) = true := by simp; omega
                  obtain ⟨b, off, l, xo, xc, hl, rfl, hb, c1, hpl⟩ := (HL.out.below (below_then HBp.out HBq.out HBp.out.size)).cell hlm
                  have HLl := hid hl
                  have HPl := hid hpl
                  have hfew := HFew.out l (List.mem_of_getElem? hl)
                  have hl20 := hfew.1
                  have HK1 := hid hfew.2
                  clear hl hpl hfew
                  go_wp2_with fail
                  refine (only_any _ l P p (by omega) (by omega) wq HPl.out (by omega) HK1.out).mono ?_
                  rintro e z1 ⟨x, rfl, ho1, hb1⟩
                  obtain ⟨yo, yc, rfl⟩ := own_slice ho1
                  have HO1 := hid (show Own 0 _ (onlyL l P p) z1 from owns_mono ho1 (Nat.zero_le _))
                  have HB1 := hid (below_then HBq.out hb1 HBq.out.size)
                  have hsz1 := HB1.out.size
                  obtain ⟨vs, hvs, hall⟩ := HR.out.below hb1
                  have hkl : ((rs.take m).map fun l => onlyL l P p).length = m := by rw [List.length_map, List.length_take]; omega
                  rw [hkl] at hvs
                  have HVs := hid hvs
                  have HAll := hid hall
                  have HKL := hid hkl
                  clear ho1 hb1 HR hvs hall c1 HPl hkl HBq HK1
                  go_wp2_with (at_builtin; refine wpList_append_own _ rfl _ _ 22 rfl wp.heap.size 26 i0 (.slice none 0 0) 1 24 Try.underlying22 hi hz0 hz1 hz2 rfl (by decide) _ m _ rfl (HVs.out.alloc _) ⟨z1.heap.size, 0, none⟩ 1 1 [.slice yo (onlyL l P p).length yc] rfl rfl (one_new _ _ _) (by intro u hu; simp at hu; subst hu; rfl) (by unfold maxLen; omega) (by omega) (by simp; omega) ?_; intro v3 w3 ho3 hg3 _)
                  have HB3 := hid ((HB1.out.alloc HB1.out.size _).grown hg3 (by simp; omega) (by intro q hq; exact owns_base HVs.out hq))
                  have HC3 := hid (show Rows wp.heap.size ((rs.take (m + 1)).map fun l => onlyL l P p) v3 w3 by
                    rw [map_take_more _ HLl.out]
                    exact Rows.more (by rw [HKL.out]; exact HVs.out.alloc _) (rows_at HAll.out (alloc_one _ _)) (own_one (HO1.out.below (alloc_one _ _))) (by rw [HKL.out]; exact ho3) hg3)
                  clear ho3 hg3 HVs HAll HO1 HB1
                  go_wp2
                  go_roundw
                  case rel => exact ⟨m + 1, by omega, by go_num, HC3.out, HB3.out⟩
                  case measure => simp [intOf]; omega
                · obtain rfl : m = rs.length := by omega
                  have d6 : decide ((rs.length : Int) < (rs.length : Int)) = false := by simp
                  rw [List.take_length] at HR
                  have HRl := hid HR.out.lis
                  have hsm := only_small (P : Int) (p : Int) HFew.out
                  have HPp := hid (HPS.out p)
                  generalize (rs.map fun l => onlyL l P p) = ss at HRl hsm HPp
                  have HBw := hid (below_then HBp.out HBq.out HBp.out.size)
                  have HRs := hid HRl.out
                  obtain ⟨so, sc, rfl, -⟩ := HRl.out.slice
                  clear HR HBq HBp HRl
                  go_wp2_with fail
                  refine (only_any _ F P p (by omega) (by omega) wq (HA.out.below HBw.out) (by omega) HK.out).mono ?_
                  rintro e z1 ⟨x1, rfl, ho1, hb1⟩
                  have HO1 := hid ho1
                  have HB1 := hid hb1
                  clear ho1 hb1
                  go_wp2_with fail
                  refine (runs_any _ ss z1 (HRs.out.below HB1.out) (by omega)).mono ?_
                  rintro e z2 ⟨x2, rfl, ho2, hb2⟩
                  rw [HPp.out] at ho2
                  have HO2 := hid ho2
                  have HO12 := hid (owns_below HO1.out hb2)
                  have HB2 := hid (below_then HBw.out (below_then HB1.out hb2 HB1.out.size) HBw.out.size)
                  clear ho2 hb2 HO1 HB1 HRs HBw
                  go_wp2_with fail
                  refine (samePairs_any _ _ (onlyL F P p) z2 (Reads.own encP_len (by decide) HO12.out) (Reads.own encP_len (by decide) HO2.out)).mono ?_
                  rintro e z3 ⟨rfl, n3, rfl⟩
                  have HB3 := hid (below_then HB2.out (below_drew z2 n3) HB2.out.size)
                  generalize z2.drewN n3 = z3 at HB3 ⊢
                  clear HO2 HO12 HB2
                  go_wp2
                  go_roundw
                  case rel => exact ⟨rfl, p + 1, by omega, by go_num, HB3.out⟩
                  case measure => simp [intOf]; omega
            · obtain rfl : p = P := by omega
              have d5 : decide ((p : Int) < (p : Int)) = false := by simp
              go_wp2_with fail
              refine (of_any _ F key wp (HA.out.below HBp.out) (by omega)).mono ?_
              rintro e z1 ⟨x1, rfl, ho1, hb1⟩
              rw [HVE.out] at ho1
              have HO1 := hid ho1
              have HB1 := hid (below_then HBp.out hb1 HBp.out.size)
              clear ho1 hb1
              go_wp2_with fail
              refine (sameTexts_any _ _ va z1 (Reads.own encT_len (by decide) HO1.out) (HT2.out.below HB1.out)).mono ?_
              rintro e z3 ⟨rfl, n3, rfl⟩
              have HB3 := hid (below_then HB1.out (below_drew z1 n3) HB1.out.size)
              generalize z1.drewN n3 = z3 at HB3 ⊢
              clear HO1 HB1
              go_wp2_with fail
              refine (awake_calls _).mono ?_
              rintro e z4 ⟨rfl, q4⟩
              have HE := hid (below_then HB2.out (below_then HB3.out q4 HB3.out.size) HB2.out.size)
              clear q4
              go_wp2
              go_ret
              exact ⟨rfl, HE.out⟩
theorem mergeParts_walk (w : World) (v : Value) (ls : List (List KV)) (hv : rSlice 1 (rSlice 2 rPr) w [v] ls) (pp : Int) (wp : (Lit.int .i64 pp).wf = true) (key : ByteArray) (hk : key.size ≤ maxLen) :
    Calls Try.prog 6 #[v, .int .i64 pp, .string key] w fun e w' => e = .returned (.bool true) ∧ Below w.heap.size w w' := mergeParts_plain w v ls (Lis.arg hv) pp key hk
end Go.Proofs.Ytafbofcenbfkeaa
