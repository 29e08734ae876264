/- A record's bytes, and lists', as the document's own lays them. -/
import Derived.Test.YtpkobobandcclaaRcLayAll
import Derived.Test.YtpkobobandcclaaRcRefSnap
namespace Go.Proofs.Ytpkobobandcclaa
open Go.RowKit
set_option linter.unusedVariables false

theorem refNum_ob (base : Nat) (v : Value) (n : Int) (l : List Int) (w : World) (h : OB base v l w) (hr : l.length ≤ 1000000) :
    Calls Try.prog 26 #[v, .int .i64 n] w fun e w' => ∃ v', e = .returned v' ∧ OB w.heap.size v' (l ++ be8 n) w' ∧ Below w.heap.size w w' := by
  refine (rnum_any v n l w h.bs (by omega)).mono ?_
  rintro e w' ⟨v', rfl, h1, h2⟩
  exact ⟨v', rfl, by unfold OB; rw [List.length_append, be8_length]; exact h1, h2⟩
theorem refText_ob (base : Nat) (v : Value) (s : ByteArray) (l : List Int) (w : World) (h : OB base v l w) (hr : l.length ≤ 1000000) (hs : s.size ≤ 1000000) :
    Calls Try.prog 43 #[v, .string s] w fun e w' => ∃ v', e = .returned v' ∧ OB w.heap.size v' (l ++ txt s) w' ∧ Below w.heap.size w w' := by
  refine (rtext_any v s l w h.bs (by omega)).mono ?_
  rintro e w' ⟨v', rfl, h1, h2⟩
  exact ⟨v', rfl, by unfold OB txt; rw [← List.append_assoc, List.length_append, List.length_append, be8_length, nums_length]; exact h1, h2⟩
theorem ints_made (w : World) (l : List Int) (h : l.length ≤ 1000) : (w.alloc (.cells (ict l).toArray 3)).ownsRow w.heap.size 3 1 (.slice (some ⟨w.heap.size, 0, none⟩) l.length l.length) l.length (ict l) :=
  ⟨by simp [ict], .inr ⟨w.heap.size, l.length, (ict l).toArray, rfl, Nat.le_refl _, new_block _ _, Nat.le_refl _, by unfold maxLen; omega, by simp [ict], by rw [List.toList_toArray]; exact List.take_of_length_le (by simp [ict])⟩⟩
theorem ints_made_is (w : World) (l : List Int) (h : l.length ≤ 1000) : Is (w.alloc (.cells (ict l).toArray 3)) (.slice (some ⟨w.heap.size, 0, none⟩) l.length l.length) l := Is.own (ints_made w l h)
theorem Is.news {w : World} {ao : Option Addr} {n c : Nat} {l : List Int} (h : Is w (.slice ao n c) l) : (ao = none → n = 0 ∧ c = 0) ∧ (∀ ad, ao = some ad → ∀ j u, (ict l)[j]? = some u → w.cell? (ad.add j) = some u) := by
  obtain ⟨ao', cap', hv, h1, h2, h3, h4⟩ := h
  cases hv
  refine ⟨fun e => ⟨by rw [(h3 e).1]; rfl, (h3 e).2⟩, fun ad had j u hu => ?_⟩
  have hj : j < l.length := by
    have := (List.getElem?_eq_some_iff.1 hu).1
    rwa [ict_length] at this
  obtain ⟨b, off, e, hlt, hc⟩ := h4 (by intro e; rw [e] at hj; simp at hj)
  rw [had] at e
  cases e
  rw [addr_add, hc j hj, ← hu, ict_at hj]
theorem ict_one (l : List Int) : ∀ u ∈ ict l, u.oneCell' = true := by
  intro u hu
  obtain ⟨x, _, rfl⟩ := List.mem_map.1 hu
  rfl
/-- Bytes that were laid behind W. -/
structure TSt (W : World) (B : Nat) (v : Value) (l : List Int) (w : World) : Prop where
  own : OB B v l w
  bel : Below W.heap.size W w
  low : B ≤ W.heap.size
theorem TSt.hop {W : World} {B : Nat} {v v' : Value} {l l' : List Int} {w w' w2 : World} (h : TSt W B v l w) (hb : Below w'.heap.size w' w2) (ho : OB w'.heap.size v' l' w2) (e : w'.heap = w.heap ∧ w'.os = w.os ∧ w'.tape = w.tape ∧ w'.output = w.output) : TSt W B v' l' w2 := by
  obtain ⟨e1, e2, e3, e4⟩ := e
  have hs : W.heap.size ≤ w'.heap.size := by rw [e1]; exact h.bel.size
  have hl := h.low
  exact ⟨ho.low (by omega), ⟨hb.os.trans (e2.trans h.bel.os), hb.tape.trans (e3.trans h.bel.tape), hb.output.trans (e4.trans h.bel.output), Nat.le_trans hs hb.size, fun k hk => (hb.block k (by omega)).trans (by rw [e1]; exact h.bel.block k hk)⟩, hl⟩
theorem TSt.cell {W : World} {B : Nat} {v : Value} {l : List Int} {w : World} (h : TSt W B v l w) {b o : Nat} {x : Value} (hb : b < W.heap.size) (hc : W.cell? ⟨b, o, none⟩ = some x) : w.cell? ⟨b, o, none⟩ = some x := (h.bel.cell (p := ⟨b, o, none⟩) hb).trans hc
theorem nums_bd {r : RecV} (h : FitR r) : (numsR r).length ≤ 13 := by
  have := h.slen
  rw [numsR_length]
  omega
set_option maxRecDepth 100000 in
set_option maxHeartbeats 16000000 in
theorem refBody_any (r : RecV) (so : Option Addr) (sc : Nat) (po : Option Addr) (pc : Nat) (w : World) (hr : RecIs w so sc po pc r) (hm : mayR r = true) :
    Calls Try.prog 25 #[.agg #[.int .i64 r.kind, .int .i64 r.part, .int .i64 r.split, .int .i64 r.attempt, .int .i64 r.reason, .slice so r.set.length sc, .slice po r.prs.length pc]] w fun e w' => ∃ v, e = .returned v ∧ OB w.heap.size v (bodyR r) w' ∧ Below w.heap.size w w' := by
  have HF := hid (may_fit hm)
  have hr' := hid hr
  obtain ⟨i0, hi, hz0, hz1, hz2⟩ := info_parts Try.info3
  have hsl := hr.set.len
  have hql := prs_len hr.prs
  have hs6 := HF.out.slen
  have HB2 := hid (two_below w (.cells #[.int .i64 r.kind, .int .i64 r.part, .int .i64 r.split, .int .i64 r.attempt, .int .i64 r.reason, .slice so r.set.length sc, .slice po r.prs.length pc] 33) (.cells (ict (six r)).toArray 3))
  have HR2 := hid (hr.below HB2.out)
  have HO2 := hid (ints_made (w.alloc (.cells #[.int .i64 r.kind, .int .i64 r.part, .int .i64 r.split, .int .i64 r.attempt, .int .i64 r.reason, .slice so r.set.length sc, .slice po r.prs.length pc] 33)) (six r) (by simp [six]))
  simp only [World.size_alloc, show (six r).length = 6 from rfl] at HO2
  obtain ⟨hn3, hw3⟩ := HR2.out.set.news
  have hcl3 : (ict r.set).length = r.set.length * 1 := by rw [ict_length]; omega
  have hx31 : 6 + r.set.length ≤ maxLen := by unfold maxLen; omega
  have hx32 : (6 + r.set.length) * 8 ≤ 140737488355328 := by omega
  have hb2 : w.heap.size + 1 ≤ ((w.alloc (.cells #[.int .i64 r.kind, .int .i64 r.part, .int .i64 r.split, .int .i64 r.attempt, .int .i64 r.reason, .slice so r.set.length sc, .slice po r.prs.length pc] 33)).alloc (.cells (ict (six r)).toArray 3)).heap.size := by simp
  have ho2 : ((w.alloc (.cells #[.int .i64 r.kind, .int .i64 r.part, .int .i64 r.split, .int .i64 r.attempt, .int .i64 r.reason, .slice so r.set.length sc, .slice po r.prs.length pc] 33)).alloc (.cells (ict (six r)).toArray 3)).ownsRow (w.heap.size + 1) 3 1 (.slice (some ⟨w.heap.size + 1, 0, none⟩) 6 6) 6 (ict (six r)) := HO2.out
  have hbox := hid (((alloc_one (w.alloc (.cells #[.int .i64 r.kind, .int .i64 r.part, .int .i64 r.split, .int .i64 r.attempt, .int .i64 r.reason, .slice so r.set.length sc, .slice po r.prs.length pc] 33)) (.cells (ict (six r)).toArray 3)).block _ (lt_of_block (new_block w (.cells #[.int .i64 r.kind, .int .i64 r.part, .int .i64 r.split, .int .i64 r.attempt, .int .i64 r.reason, .slice so r.set.length sc, .slice po r.prs.length pc] 33)))).trans (new_block w (.cells #[.int .i64 r.kind, .int .i64 r.part, .int .i64 r.split, .int .i64 r.attempt, .int .i64 r.reason, .slice so r.set.length sc, .slice po r.prs.length pc] 33)))
  clear hr hm HO2
  go_enter Try.func25, Try.ntmps25
  go_wp2_with (first | (at_builtin; refine wpList_append_own_any _ rfl _ _ 30 rfl (w.heap.size + 1) 3 i0 _ 1 8 Try.underlying30 hi hz0 hz1 hz2 rfl (by decide) _ 6 (ict (six r)) rfl ho2 so r.set.length sc (ict r.set) rfl hcl3 hn3 hw3 (ict_one _) hx31 hx32 hb2 ?_; intro v3 w3 ho3 hg3; have hq3 := grown_at ho2 hg3 hbox.out (by decide); have c6 : w3.cell? ⟨w.heap.size, 6, none⟩ = some (.slice po r.prs.length pc) := cell_of_cells hq3) | (at_builtin; refine wpList_append_own _ rfl _ _ 30 rfl (w.heap.size + 1) 3 i0 _ 1 8 Try.underlying30 hi hz0 hz1 hz2 rfl (by decide) _ (6 + r.set.length) (ict (six r) ++ ict r.set) rfl (owns_below ho3 (alloc_one w3 (.cells #[.int .i64 (r.prs.length : Int)] 3))) ⟨w3.heap.size, 0, none⟩ 1 1 [.int .i64 (r.prs.length : Int)] rfl rfl (one_new w3 _ _) (by intro u hu; simp at hu; subst hu; rfl) (by unfold maxLen; omega) (by omega) (by have := hg3.size; simp at this ⊢; omega) ?_; intro v4 w4 ho4 hg4 _))
  have HB3 := hid (HB2.out.grown hg3 HB2.out.size (fun k hk => by have := (ho2.lt k hk).1; omega))
  have HB4 := hid ((HB3.out.alloc HB3.out.size (.cells #[.int .i64 (r.prs.length : Int)] 3)).grown hg4 (by have := HB3.out.size; simp; omega) (fun k hk => by have := (ho3.lt k hk).1; omega))
  have HO4 := hid (show w4.ownsRow (w.heap.size + 1) 3 1 v4 (numsR r).length (ict (numsR r)) by
    have e : ict (numsR r) = ict (six r) ++ ict r.set ++ [.int .i64 (r.prs.length : Int)] := by
      unfold numsR
      rw [ict_append, ict_append, ← List.append_assoc]
      rfl
    rw [e, numsR_length]
    rw [show 7 + r.set.length = 6 + r.set.length + 1 by omega]
    exact ho4)
  have HQ4 := hid (grown_at (owns_below ho3 (alloc_one w3 (.cells #[.int .i64 (r.prs.length : Int)] 3))) hg4 (((alloc_one w3 (.cells #[.int .i64 (r.prs.length : Int)] 3)).block _ (lt_of_block hq3)).trans hq3) (by decide))
  obtain ⟨ao4, cp4, hv4⟩ := owns_slice HO4.out
  subst hv4
  have HI4 := hid (ints_own HO4.out)
  have HP4 := hid (hr'.out.prs.below HB4.out)
  obtain ⟨m, hm⟩ : ∃ m, (numsR r).length = m := ⟨_, rfl⟩
  have HM := hid hm
  have hm13 := nums_bd HF.out
  rw [hm] at HI4 hm13 ⊢
  have hlow := HB4.out.size
  have HT0 := hid (show TSt w4 w.heap.size (.slice none 0 0) [] w4 from ⟨OB.nil _ _, Below.refl _ _, hlow⟩)
  clear ho4 hg4 ho3 hg3 hq3 c6 hbox ho2 hb2 hx31 hx32 hcl3 hn3 hw3 HR2 HB2 HB3 hm HO4
  go_loopw [3, 5] (fun u i wr => ∃ k : Nat, k ≤ m ∧ i = .int .i64 k ∧ TSt w4 w.heap.size u (NB ((numsR r).take k)) wr) (fun _ i _ => m - (intOf i).toNat)
  case atStart => exact ⟨0, by omega, rfl, HT0.out⟩
  case round =>
    obtain ⟨k, hk, rfl, hs⟩ := hrel
    have HS := hid hs
    clear hs HT0
    by_cases hlt : k < m
    · have hd : decide ((k : Int) < (m : Int)) = true := by simp; omega
      obtain ⟨b, off, x, hx, rfl, hb, c1⟩ := (HI4.out.below HS.out.bel).cell (show k < (numsR r).length by rw [HM.out]; exact hlt)
      have HX := hid hx
      clear hx
      go_wp2_with fail
      refine (refNum_ob w.heap.size u3 x _ wr HS.out.own (by rw [NB_length, List.length_take]; omega)).mono ?_
      rintro e w5 ⟨v5, rfl, ho5, hb5⟩
      have HS5 := hid (HS.out.hop hb5 ho5 ⟨rfl, rfl, rfl, rfl⟩)
      clear ho5 hb5 HS
      go_wp2
      go_roundw
      case rel => exact ⟨k + 1, by omega, by go_num, by rw [NB_step HX.out]; exact HS5.out⟩
      case measure => simp [intOf]; omega
    · have hd : decide ((k : Int) < (m : Int)) = false := by simp; omega
      have HS1 := hid (show TSt w4 w.heap.size u3 (NB (numsR r)) wr by have h := HS.out; rw [List.take_of_length_le (by rw [HM.out]; omega)] at h; exact h)
      have hblt := lt_of_block HQ4.out
      have HC6 := hid (show w4.cell? ⟨w.heap.size, 6, none⟩ = some (.slice po r.prs.length pc) from cell_of_cells HQ4.out)
      clear HS
      go_wp2
      go_loopw [3, 6] (fun u i wr => ∃ k : Nat, k ≤ r.prs.length ∧ i = .int .i64 k ∧ TSt w4 w.heap.size u (NB (numsR r) ++ PB (r.prs.take k)) wr) (fun _ i _ => r.prs.length - (intOf i).toNat)
      case atStart => exact ⟨0, by omega, rfl, by rw [List.take_zero, show PB [] = [] from rfl, List.append_nil]; exact HS1.out⟩
      case round =>
        obtain ⟨k, hk, rfl, hs⟩ := hrel
        have HS := hid hs
        clear hs HS1
        have d6 := HS.out.cell hblt HC6.out
        by_cases hlt : k < r.prs.length
        · have hd : decide ((k : Int) < (r.prs.length : Int)) = true := by simp; omega
          obtain ⟨b, off, x, hx, rfl, hb, e0, e1⟩ := Prs.cell? HP4.out hlt
          have HX := hid hx
          clear hx
          obtain ⟨s, t⟩ := x
          simp only at e0 e1
          have c0 := HS.out.cell hb e0
          have c1 := HS.out.cell hb e1
          have HE0 := hid e0
          have HE1 := hid e1
          clear e0 e1
          have hsz := hid (show s.size ≤ 16 ∧ t.size ≤ 64 from HF.out.prs _ (List.mem_of_getElem? HX.out))
          have hbd := hid (show (NB (numsR r) ++ PB (r.prs.take k)).length ≤ 5000 by
            have h1 := PB_take_bd r.prs k HF.out.prs HF.out.plen
            rw [List.length_append, NB_length, HM.out]
            omega)
          go_wp2
          go_region_held3 (fun w' => w'.cell? ⟨w.heap.size, 6, none⟩ = some (.slice (some ⟨b, off, none⟩) r.prs.length pc) ∧ w'.cell? ⟨b, off + k * 2, none⟩ = some (.string s) ∧ w'.cell? ⟨b, off + k * 2 + 1, none⟩ = some (.string t)) (first | exact ⟨HS7.out.cell hblt HC6.out, HS7.out.cell hb HE0.out, HS7.out.cell hb HE1.out⟩ | exact ⟨HS6.out.cell hblt HC6.out, HS6.out.cell hb HE0.out, HS6.out.cell hb HE1.out⟩ | exact ⟨d6, c0, c1⟩ | go_keep)
            (first | (go_at_call 43; refine (refText_ob w.heap.size u3 s (NB (numsR r) ++ PB (r.prs.take k)) _ ?_ ?_ ?_).mono ?_; (exact HS.out.own.heap rfl); (have := hbd.out; omega); (have := hsz.out; omega); rintro e w6 ⟨v6, rfl, ho6, hb6⟩; have HS6 := hid (HS.out.hop hb6 ho6 ⟨rfl, rfl, rfl, rfl⟩); clear ho6 hb6) | (go_at_call 43; refine (refText_ob w.heap.size v6 t (NB (numsR r) ++ PB (r.prs.take k) ++ txt s) _ ?_ ?_ ?_).mono ?_; (exact HS6.out.own.heap rfl); (have := hbd.out; have := hsz.out; rw [List.length_append, txt_length]; omega); (have := hsz.out; omega); rintro e w7 ⟨v7, rfl, ho7, hb7⟩; have HS7 := hid (HS6.out.hop hb7 ho7 ⟨rfl, rfl, rfl, rfl⟩); clear ho7 hb7))
          all_goals
            go_wp2
            go_roundw
            case rel => exact ⟨k + 1, by omega, by go_num, by have h := HS7.out; rw [PB_step HX.out, ← List.append_assoc, ← List.append_assoc]; exact h⟩
            case measure => simp [intOf]; omega
        · have hd : decide ((k : Int) < (r.prs.length : Int)) = false := by simp; omega
          have HS1 := hid (show TSt w4 w.heap.size u3 (bodyR r) wr by
            have h := HS.out
            rw [List.take_of_length_le (by omega)] at h
            rw [body_nums]
            exact h)
          clear HS
          go_wp2
          go_ret
          exact ⟨_, rfl, HS1.out.own, below_then HB4.out HS1.out.bel hlow⟩
end Go.Proofs.Ytpkobobandcclaa
