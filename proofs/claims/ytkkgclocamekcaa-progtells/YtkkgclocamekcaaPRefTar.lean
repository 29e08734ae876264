/- Targets of the reference: the places gone through one by one. -/
import Derived.Test.YtkkgclocamekcaaPTargets
namespace Go.Proofs.Ytkkgclocamekcaa
open Go.RowKit Go.Lib
set_option linter.unusedVariables false

/-- None of the first i goes to t. -/
def Miss (l : List Inst) (t : Int) (i : Nat) : Prop := ∀ j, j < i → (jumps (l.getD j zInst) && decide ((l.getD j zInst).2.1 = t)) = false
theorem miss_zero (l : List Inst) (t : Int) : Miss l t 0 := fun j h => by omega
theorem Miss.step {l : List Inst} {t : Int} {i : Nat} (h : Miss l t i) (hg : (jumps (l.getD i zInst) && decide ((l.getD i zInst).2.1 = t)) = false) : Miss l t (i + 1) := fun j hj => by
  rcases Nat.lt_or_ge j i with h1 | h1
  · exact h j h1
  · obtain rfl : j = i := by omega
    exact hg
theorem Miss.all {l : List Inst} {t : Int} (h : Miss l t l.length) : hitsTo l t = false := by
  unfold hitsTo
  rw [List.any_eq_false]
  intro x hx
  obtain ⟨j, hj, rfl⟩ := List.mem_iff_getElem.1 hx
  have := h j hj
  have e : l.getD j zInst = l[j] := by simp [List.getD, List.getElem?_eq_getElem hj]
  rw [e] at this
  rw [this]
  simp
theorem hit_at {l : List Inst} {t : Int} {i : Nat} (hi : i < l.length) (hg : (jumps (l.getD i zInst) && decide ((l.getD i zInst).2.1 = t)) = true) : hitsTo l t = true := by
  unfold hitsTo
  rw [List.any_eq_true]
  have e : l.getD i zInst = l[i] := by simp [List.getD, List.getElem?_eq_getElem hi]
  rw [e] at hg
  exact ⟨l[i], List.getElem_mem hi, hg⟩
theorem no_jump {o a : Int} {s : ByteArray} (h : ¬ (o = 19 ∨ o = 20)) : jumps (o, a, s) = false := by
  unfold jumps
  simp
  omega
theorem seen_len (l : List Inst) (t : Nat) : (seen l t).length ≤ t := by
  unfold seen
  exact Nat.le_trans (List.length_filter_le _ _) (by simp)

set_option maxHeartbeats 2000000 in
theorem refTargets_any (v : Value) (l : List Inst) (w : World) (hv : Co w v l) : Calls Try.prog 14 #[v] w (Tar w l) := by
  have HV := hid hv
  obtain ⟨ao, ca, rfl, a1, a2, a3, a4⟩ := hv
  unfold maxLen at a2
  clear a3 a4
  by_cases hm : bad l < 0
  · have hd : decide (bad l < 0) = true := by simpa using hm
    have h40 := ((may_iff l).1 hm).1
    have HT := hid (seen_all hm)
    clear hm
    obtain ⟨i0, hi, hz0, hz1, hz2⟩ := info_parts Try.info3
    go_enter Try.func14, Try.ntmps14
    go_wp2
    go_loopw [3, 4] (fun u i wr => ∃ k : Nat, k ≤ l.length + 1 ∧ i = .int .i64 k ∧ wr.ownsRow w.heap.size 3 1 u (seen l k).length (ict (seen l k)) ∧ Below w.heap.size w wr) (fun _ i _ => l.length + 1 - (intOf i).toNat)
    case atStart => exact ⟨0, by omega, rfl, World.ownsRow_nil _ _ _ _, Below.refl _ _⟩
    case round =>
      obtain ⟨k, hk, rfl, ho, hbel⟩ := hrel
      have HO := hid ho
      have hsz := hbel.size
      clear ho
      by_cases hlt : k ≤ l.length
      · have hd4 : decide ((k : Int) ≤ (l.length : Int)) = true := by simp; omega
        go_wp2_with fail
        refine (refBad_any _ l wr (HV.out.below (hbel.trans (Below.refl _ _)))).mono ?_
        rintro e w2 ⟨rfl, hb2⟩
        have HB2 := hid (below_next hbel hb2 (by omega))
        have HO2 := hid (own_below HO.out hb2)
        have hz2' := HB2.out.size
        clear hb2 HO hbel
        obtain ⟨q, hq⟩ : ∃ q, bad l = q := ⟨_, rfl⟩
        rw [hq] at hd ⊢
        have HL := hid (seen_len l k)
        have HS := hid (seen_succ l k)
        go_wp2
        go_loop [3, 5] (fun u i => u = u3 ∧ ∃ j : Nat, j ≤ l.length ∧ i = .int .i64 j ∧ Miss l k j) (fun _ i => l.length - (intOf i).toNat)
        case atStart => exact ⟨rfl, 0, by omega, rfl, miss_zero _ _⟩
        case round =>
          obtain ⟨rfl, j, hj, rfl, hM⟩ := hrel
          have HM := hid hM
          clear hM
          by_cases hjl : j < l.length
          · have hd5 : decide ((j : Int) < (l.length : Int)) = true := by simp; omega
            obtain ⟨ao', ca', hvv, _, _, _, h4⟩ := HV.out
            obtain ⟨b, off, rfl, hb, hc⟩ := h4 (by intro e; rw [e] at hjl; simp at hjl)
            cases hvv
            clear h4
            obtain ⟨c0, c1, c2⟩ := (hc j hjl).below HB2.out hb
            obtain ⟨x, hx⟩ : ∃ x, l.getD j zInst = x := ⟨_, rfl⟩
            have HX := hid hx
            rw [hx] at c0 c1 c2
            clear hx hc c2
            obtain ⟨o, a, sx⟩ := x
            simp only at c0 c1
            by_cases ho : o = 19 ∨ o = 20
            · have HJ := hid (show jumps (l.getD j zInst) = true by rw [HX.out]; unfold jumps; rcases ho with rfl | rfl <;> rfl)
              by_cases ha : a = k
              · have e3 : (a == (k : Int)) = true := by simp [ha]
                have HH := hid (hit_at hjl (t := (k : Int)) (by rw [HJ.out, HX.out]; simp [ha]))
                rcases ho with rfl | rfl
                · generalize seen l k = ps at HO2 HL HS
                  have hps := HL.out
                  have HS2 := hid (show seen l (k + 1) = ps ++ [(k : Int)] by rw [HS.out, HH.out]; simp)
                  clear HS
                  go_wp2_with (at_builtin; refine wpList_append_own _ rfl _ _ 26 rfl w.heap.size 3 i0 (.int .i64 0) 1 8 Try.underlying26 hi hz0 hz1 hz2 rfl (by decide) _ ps.length _ rfl (HO2.out.alloc _) ⟨w2.heap.size, 0, none⟩ 1 1 [.int .i64 k] rfl rfl (cell_one_new _ _ _) (by intro u hu; simp at hu; subst hu; rfl) (by unfold maxLen; omega) (by omega) (by simp; omega) ?_; intro v3 w3 ho3 hg3 _)
                  have HB3 := hid (((HB2.out.alloc (by omega) _).grown hg3 (by simp; omega) (by intro q hq; exact own_base HO2.out hq)))
                  have HO3 := hid (show w3.ownsRow w.heap.size 3 1 v3 (seen l (k + 1)).length (ict (seen l (k + 1))) by rw [HS2.out, ict_append]; rw [List.length_append]; exact ho3)
                  clear ho3 hg3 HS2 HO2 HB2
                  go_wp2
                  go_roundw
                  case rel => exact ⟨k + 1, by omega, by go_num, HO3.out, HB3.out⟩
                  case measure => simp [intOf]; omega
                · generalize seen l k = ps at HO2 HL HS
                  have hps := HL.out
                  have HS2 := hid (show seen l (k + 1) = ps ++ [(k : Int)] by rw [HS.out, HH.out]; simp)
                  clear HS
                  go_wp2_with (at_builtin; refine wpList_append_own _ rfl _ _ 26 rfl w.heap.size 3 i0 (.int .i64 0) 1 8 Try.underlying26 hi hz0 hz1 hz2 rfl (by decide) _ ps.length _ rfl (HO2.out.alloc _) ⟨w2.heap.size, 0, none⟩ 1 1 [.int .i64 k] rfl rfl (cell_one_new _ _ _) (by intro u hu; simp at hu; subst hu; rfl) (by unfold maxLen; omega) (by omega) (by simp; omega) ?_; intro v3 w3 ho3 hg3 _)
                  have HB3 := hid (((HB2.out.alloc (by omega) _).grown hg3 (by simp; omega) (by intro q hq; exact own_base HO2.out hq)))
                  have HO3 := hid (show w3.ownsRow w.heap.size 3 1 v3 (seen l (k + 1)).length (ict (seen l (k + 1))) by rw [HS2.out, ict_append]; rw [List.length_append]; exact ho3)
                  clear ho3 hg3 HS2 HO2 HB2
                  go_wp2
                  go_roundw
                  case rel => exact ⟨k + 1, by omega, by go_num, HO3.out, HB3.out⟩
                  case measure => simp [intOf]; omega
              · have e3 : (a == (k : Int)) = false := by simp [ha]
                have HN := hid (show (jumps (l.getD j zInst) && decide ((l.getD j zInst).2.1 = (k : Int))) = false by rw [HX.out]; simp [ha])
                rcases ho with rfl | rfl
                · go_wp2
                  go_round
                  case rel => exact ⟨rfl, j + 1, by omega, by go_num, HM.out.step HN.out⟩
                  case measure => simp [intOf]; omega
                · go_wp2
                  go_round
                  case rel => exact ⟨rfl, j + 1, by omega, by go_num, HM.out.step HN.out⟩
                  case measure => simp [intOf]; omega
            · have e1 : (o == 19) = false := by simp; omega
              have e2 : (o == 20) = false := by simp; omega
              have HN := hid (show (jumps (l.getD j zInst) && decide ((l.getD j zInst).2.1 = (k : Int))) = false by rw [HX.out, no_jump ho]; rfl)
              go_wp2
              go_round
              case rel => exact ⟨rfl, j + 1, by omega, by go_num, HM.out.step HN.out⟩
              case measure => simp [intOf]; omega
          · have hd5 : decide ((j : Int) < (l.length : Int)) = false := by simp; omega
            obtain rfl : j = l.length := by omega
            have HS2 := hid (show seen l (k + 1) = seen l k by rw [HS.out, HM.out.all]; simp)
            go_wp2
            go_roundw
            case rel => exact ⟨k + 1, by omega, by go_num, by rw [HS2.out]; exact HO2.out, HB2.out⟩
            case measure => simp [intOf]; omega
      · have hd4 : decide ((k : Int) ≤ (l.length : Int)) = false := by simp; omega
        obtain rfl : k = l.length + 1 := by omega
        rw [HT.out] at HO
        go_wp2
        go_ret
        exact ⟨_, rfl, HO.out, hbel⟩
  · have hd : decide (bad l < 0) = false := by simpa using hm
    have HT := hid (show targets l = [] by unfold targets; rw [if_neg hm])
    clear hm
    go_enter Try.func14, Try.ntmps14
    go_wp2
    go_loopw [3, 4] (fun u i wr => u = .slice none 0 0 ∧ i = .int .i64 0 ∧ wr = w) (fun _ _ _ => 0)
    case atStart => exact ⟨rfl, rfl, rfl⟩
    case round =>
      obtain ⟨rfl, rfl, rfl⟩ := hrel
      have hd4 : decide ((0 : Int) ≤ (l.length : Int)) = true := by simp
      go_wp2_with fail
      refine (refBad_any _ l _ HV.out).mono ?_
      rintro e w2 ⟨rfl, hb2⟩
      have HB2 := hid hb2
      obtain ⟨q, hq⟩ : ∃ q, bad l = q := ⟨_, rfl⟩
      rw [hq] at hd ⊢
      go_wp2
      go_ret
      exact ⟨_, rfl, by rw [HT.out]; exact World.ownsRow_nil _ _ _ _, HB2.out⟩
end Go.Proofs.Ytkkgclocamekcaa
