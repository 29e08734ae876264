/- The document's own stage: Take, Drop. -/
import Derived.Test.YtejkboahjfcdcaaSfIs
import Derived.Test.YtejkboahjfcdcaaStStep
import Derived.Test.YtejkboahjfcdcaaLis
namespace Go.Proofs.Ytejkboahjfcdcaa
open Go.RowKit
set_option linter.unusedVariables false

set_option maxHeartbeats 1000000 in
theorem rtake_no (B q : Nat) (v : Value) (Y : List ((Int × Int) × Pay)) (k : Int × Int) (count : Int) (w : World) (h : Sf B q v Y w) (ho : OkS (chS Y)) (hc : count ≠ ((getS (chS Y) k).length : Nat)) :
    Calls Try.prog 17 #[.pointer (some ⟨q, 0, none⟩), .int .i64 k.1, .int .i64 k.2, .int .i64 count] w fun e w' => e = .returned (.tuple #[.slice none 0 0, .bool false]) ∧ w = w' := by
  have H := hid h
  have HO := hid ho
  clear h ho
  obtain ⟨n, hn⟩ : ∃ n, (getS (chS Y) k).length = n := ⟨_, rfl⟩
  rw [hn] at hc
  have HN := hid hn
  clear hn
  by_cases h0 : count < 0
  · go_enter Try.func17, Try.ntmps17
    go_wp2
    go_ret2
    exact ⟨rfl, rfl⟩
  · have hc2 : ¬ (n : Int) = count := fun e => hc e.symm
    go_enter Try.func17, Try.ntmps17
    go_wp2_with fail
    refine (rnext_any B q v Y k w H.out HO.out).mono ?_
    rintro e w1 ⟨rfl, rfl⟩
    rw [HN.out]
    go_wp2
    go_ret2
    exact ⟨rfl, rfl⟩

set_option maxHeartbeats 2000000 in
theorem rtake_yes (B q : Nat) (v : Value) (Y : List ((Int × Int) × Pay)) (k : Int × Int) (n : Nat) (w : World) (h : Sf B q v Y w) (ho : OkS (chS Y)) (hn : (getS (chS Y) k).length = n) (hf : (getS (chS Y) k).flatten.length ≤ 1000) :
    Calls Try.prog 17 #[.pointer (some ⟨q, 0, none⟩), .int .i64 k.1, .int .i64 k.2, .int .i64 n] w fun e w' => ∃ u, e = .returned (.tuple #[u, .bool true]) ∧ w'.ownsRow w.heap.size 53 2 u (getS (chS Y) k).flatten.length (fl encP (getS (chS Y) k).flatten) ∧ Below w.heap.size w w' := by
  have H := hid h
  have HO := hid ho
  have HN := hid hn
  have HC := hid (Eq.refl (getS (chS Y) k))
  have hn40 : n ≤ 40 := by
    rw [← hn]
    by_cases e : getS (chS Y) k = []
    · rw [e]; simp
    · exact ho.few _ (getS_mem e)
  have hfew := h.few
  clear h ho hn
  obtain ⟨i0, hi0, hz0, hz1, hz2⟩ := info_parts Try.infoP
  obtain ⟨cs, hcs⟩ : ∃ cs, getS (chS Y) k = cs := ⟨_, rfl⟩
  rw [hcs] at HN hf ⊢
  replace HC := hid hcs
  clear hcs
  have hd0 : decide ((n : Int) < 0) = false := by simp
  go_enter Try.func17, Try.ntmps17
  go_wp2_with fail
  refine (rnext_any B q v Y k w H.out HO.out).mono ?_
  rintro e w1 ⟨rfl, rfl⟩
  rw [HC.out, HN.out]
  go_wp2_with fail
  refine (at_any B q v Y k w H.out).mono ?_
  rintro e w1 ⟨⟨i, rfl, hi⟩, rfl⟩
  have HI := hid hi
  clear hi
  go_wp2
  go_loopw [11, 12] (fun u z wr => ∃ m : Nat, m ≤ n ∧ z = .int .i64 m ∧ wr.ownsRow w.heap.size 53 2 u (cs.take m).flatten.length (fl encP (cs.take m).flatten) ∧ Below w.heap.size w wr) (fun _ z _ => n - (intOf z).toNat)
  case atStart => exact ⟨0, by omega, rfl, by simpa [fl] using World.ownsRow_nil _ _ _ _, Below.refl _ _⟩
  case round =>
    obtain ⟨m, hm, rfl, ho, hbel⟩ := hrel
    have HOW := hid ho
    have hsz := hbel.size
    clear ho
    have hml3 := flat_take_le cs m
    by_cases hlt : m < n
    · have hne : getS (chS Y) k ≠ [] := by rw [HC.out]; intro e; have := HN.out; rw [e] at this; simp at this; omega
      obtain ⟨j, rfl, hj, hjk⟩ := HI.out.some hne
      have HY := hid (H.out.below hbel)
      obtain ⟨p, c, uo, un, rfl, h1, h2, hu, -, -, q2⟩ := HY.out.cell hj
      have c0 := HY.out.c0
      have hpc : Y[j].2.cs = cs := by rw [← (get_at HY.out.pays hj hjk).1, HC.out]
      have hL := (HY.out.pays.is _ (List.getElem_mem hj)).lis
      rw [hu, hpc] at hL
      rw [hpc, HN.out] at q2
      obtain ⟨b, off, l, xo, xc, hl, huo, hb, c1, hp⟩ := hL.cell (j := m) (by rw [HN.out]; exact hlt)
      subst huo
      have HF := hid (flat_take hl)
      have hml2 : (cs.take m).flatten.length + l.length ≤ 1000 := by have := flat_take_le cs (m + 1); rw [flat_take hl, List.length_append] at this; omega
      have HP := hid hp
      obtain ⟨-, -, -, hx1, -, hx3, -⟩ := id hp
      unfold maxLen at h2
      have HJ := hid hjk
      clear hl hp hpc hL hu hne hjk
      have d4 : decide ((m : Int) < (n : Int)) = true := by simp; omega
      generalize (cs.take m).flatten = ks at HOW HF hml2 hml3
      go_wp2_with (at_builtin; refine wpList_append_own_any _ rfl _ _ 31 rfl w.heap.size 53 i0 (.agg #[.string ⟨#[]⟩, .string ⟨#[]⟩]) 2 32 Try.underlying31 hi0 hz0 hz1 hz2 rfl (by decide) _ ks.length _ rfl HOW.out xo l.length xc (fl encP l) rfl (fl_length encP_len l) (fun e => by obtain ⟨ao2, c2, e2, _, _, h3, _⟩ := HP.out; cases e2; obtain ⟨h4, h5⟩ := h3 e; exact ⟨by rw [h4]; rfl, h5⟩) (HP.out.news encP_len (by decide) (Below.refl _ _)) (fl_one encP_one l) (by unfold maxLen; omega) (by omega) (by omega) ?_; intro v3 w3 ho3 hg3)
      have HB3 := hid (hbel.grown hg3 (by omega) (by intro q hq; exact owns_base HOW.out hq))
      have HO3 := hid (show w3.ownsRow w.heap.size 53 2 v3 (cs.take (m + 1)).flatten.length (fl encP (cs.take (m + 1)).flatten) by rw [HF.out, fl_append, List.length_append]; exact ho3)
      clear ho3 hg3 HF HOW hbel c1 HP c0 q2
      go_wp2
      go_roundw
      case rel => exact ⟨m + 1, by omega, by go_num, HO3.out, HB3.out⟩
      case measure => simp [intOf]; omega
    · obtain rfl : m = n := by omega
      have d4 : decide ((m : Int) < (m : Int)) = false := by simp
      have ht : cs.take m = cs := List.take_of_length_le (by rw [HN.out]; exact Nat.le_refl _)
      rw [ht] at HOW
      clear ht
      go_wp2
      go_ret2
      exact ⟨_, rfl, HOW.out, hbel⟩
theorem dropN_take (Y : List ((Int × Int) × Pay)) (s : Int) {j : Nat} (hj : j < Y.length) :
    (Y.take (j + 1)).filter (fun r => !decide (r.1.1 = s)) = (Y.take j).filter (fun r => !decide (r.1.1 = s)) ++ (if Y[j].1.1 = s then [] else [Y[j]]) ∧ ((Y.take (j + 1)).filter (fun r => decide (r.1.1 = s))).length = ((Y.take j).filter (fun r => decide (r.1.1 = s))).length + (if Y[j].1.1 = s then 1 else 0) := by
  rw [List.take_succ_eq_append_getElem hj, List.filter_append, List.filter_append, List.length_append]
  by_cases e : Y[j].1.1 = s
  · simp [e]
  · simp [e]
/-- Another row is put in the place of the elder one. -/
theorem Sf.dropped {B q : Nat} {v u : Value} {Y : List ((Int × Int) × Pay)} {w w1 : World} (h : Sf B q v Y w) (s : Int) (hb : Below w.heap.size w w1) (hr : w1.ownsRow w.heap.size 61 3 u (Y.filter (fun r => !decide (r.1.1 = s))).length (fl encW (Y.filter (fun r => !decide (r.1.1 = s))))) :
    ∃ Y', Sf B q u Y' (w1.setCell ⟨q, 0, none⟩ u) ∧ chS Y' = dropS (chS Y) s ∧ Sav (InF q v Y) w (w1.setCell ⟨q, 0, none⟩ u) ∧ NextF w q v Y u Y' := by
  have h1 := h.below hb
  have hs : Sav (Just q) w1 (w1.setCell ⟨q, 0, none⟩ u) := (Sav.refl _ _).setCell (just q) 0 _
  have hqX : ¬ InX Y q := h1.pays.off h1.obj (fun cs t r e => by cases e; exact ⟨by decide, by decide⟩)
  refine ⟨Y.filter (fun r => !decide (r.1.1 = s)), ⟨by have := set_same (j := 0) (v := u) h1.obj; simpa using this, owns_sav (owns_mono hr h.low) hs (fun g hg e => owns_ne hr h1.obj (by decide) (by rw [hg]; exact congrArg some (show q = g from e.symm))), (h1.pays.sav hs (fun g hg e => hqX (by rw [← show g = q from e]; exact hg))).filter _, Nat.le_trans (List.length_filter_le _ _) h.few, h.far, Nat.le_trans h1.low hs.size⟩, chS_keys Y (fun k => !decide (k.1 = s)), (Sav.of_below hb).trans (hs.mono (fun g _ e => .inl e)), fun g hg => ?_⟩
  rcases hg with e | e | e
  · exact .inl (.inl e)
  · exact .inr (hr.lt g e).1
  · exact .inl (.inr (.inr (inX_filter e)))
set_option maxHeartbeats 2000000 in
theorem rdrop_any (B q : Nat) (v : Value) (Y : List ((Int × Int) × Pay)) (s : Int) (w : World) (h : Sf B q v Y w) :
    Calls Try.prog 20 #[.pointer (some ⟨q, 0, none⟩), .int .i64 s] w fun e w' => e = .returned (.int .i64 (dropN (chS Y) s : Nat)) ∧ ∃ v' Y', Sf B q v' Y' w' ∧ chS Y' = dropS (chS Y) s ∧ Sav (InF q v Y) w w' ∧ NextF w q v Y v' Y' := by
  have H := hid h
  obtain ⟨vo, vc, rfl⟩ := h.slice
  have hfew := h.few
  have hN : dropN (chS Y) s = (Y.filter (fun r => decide (r.1.1 = s))).length := by
    unfold dropN chS
    rw [List.filter_map, List.length_map]
    rfl
  rw [hN]
  clear h hN
  obtain ⟨r0, hri, hr0, hr1, hr2⟩ := info_parts Try.infoR
  go_enter Try.func20, Try.ntmps20
  go_wp2
  go_loopw [5, 6, 7] (fun u n z wr => ∃ j m : Nat, j ≤ Y.length ∧ z = .int .i64 j ∧ n = .int .i64 m ∧ Hid (m = ((Y.take j).filter (fun r => decide (r.1.1 = s))).length) ∧ Hid (wr.ownsRow w.heap.size 61 3 u ((Y.take j).filter (fun r => !decide (r.1.1 = s))).length (fl encW ((Y.take j).filter (fun r => !decide (r.1.1 = s))))) ∧ Below w.heap.size w wr) (fun _ _ z _ => Y.length - (intOf z).toNat)
  case atStart => exact ⟨0, 0, by omega, rfl, rfl, hid rfl, hid (World.ownsRow_nil _ _ _ _), Below.refl _ _⟩
  case round =>
    obtain ⟨j, m, hj, rfl, rfl, HM, HOW, hbel⟩ := hrel
    have HY := hid (H.out.below hbel)
    have c0 := HY.out.c0
    have hmj : m ≤ 20 := by rw [HM.out]; have := List.length_filter_le (fun r : (Int × Int) × Pay => decide (r.1.1 = s)) (Y.take j); rw [List.length_take] at this; omega
    by_cases hlt : j < Y.length
    · obtain ⟨p, c, uo, un, e, h1, h2, hu, q0, q1, q2⟩ := HY.out.cell hlt
      cases e
      unfold maxLen at h2
      have hd : decide ((j : Int) < (Y.length : Int)) = true := by simp; omega
      have hst := dropN_take Y s hlt
      have HX := hid (show encW Y[j] = [.int .i64 Y[j].1.1, .int .i64 Y[j].1.2, .slice uo Y[j].2.cs.length un] by unfold encW; rw [hu])
      clear hu
      by_cases hs : Y[j].1.1 = s
      · rw [if_pos hs, if_pos hs, List.append_nil] at hst
        have HA := hid (hst.1)
        have HC := hid (show m + 1 = ((Y.take (j + 1)).filter (fun r => decide (r.1.1 = s))).length by rw [hst.2, ← HM.out])
        rw [hs] at q0
        clear hst hs HX q1 q2
        go_wp2
        go_roundw
        case rel => exact ⟨j + 1, m + 1, by omega, by go_num, by go_num, HC, hid (by rw [HA.out]; exact HOW.out), hbel⟩
        case measure => simp [intOf]; omega
      · rw [if_neg hs, if_neg hs] at hst
        have HA := hid (hst.1)
        have HC := hid (show m = ((Y.take (j + 1)).filter (fun r => decide (r.1.1 = s))).length by rw [hst.2, ← HM.out]; rfl)
        have HE := hid (show fl encW ((Y.take (j + 1)).filter (fun r => !decide (r.1.1 = s))) = fl encW ((Y.take j).filter (fun r => !decide (r.1.1 = s))) ++ [.int .i64 Y[j].1.1, .int .i64 Y[j].1.2, .slice uo Y[j].2.cs.length un] by
          rw [HA.out, fl_append]
          refine congrArg (_ ++ ·) ?_
          rw [← HX.out]
          simp [fl])
        have hrl : ((Y.take j).filter (fun r => !decide (r.1.1 = s))).length ≤ 20 := by have := List.length_filter_le (fun r : (Int × Int) × Pay => !decide (r.1.1 = s)) (Y.take j); rw [List.length_take] at this; omega
        have HLN := hid (show ((Y.take (j + 1)).filter (fun r => !decide (r.1.1 = s))).length = ((Y.take j).filter (fun r => !decide (r.1.1 = s))).length + 1 by rw [HA.out]; simp)
        generalize Y[j].1.1 = x at hs q0 HE
        generalize Y[j].1.2 = y at q1 HE
        generalize Y[j].2.cs.length = cn at q2 HE
        generalize ((Y.take j).filter (fun r => !decide (r.1.1 = s))) = ks at HOW HE hrl HLN
        clear hst HX HA
        have hbA := alloc_one wr (.cells #[.int .i64 x, .int .i64 y, .slice uo cn un] 61)
        have HOA := hid (owns_below HOW.out hbA)
        have HBA := hid (below_then hbel hbA hbel.size)
        go_wp2_with (at_builtin; refine wpList_append_own_any _ rfl _ _ 28 rfl w.heap.size 61 r0 (.agg #[.int .i64 0, .int .i64 0, .slice none 0 0]) 3 40 Try.underlying28 hri hr0 hr1 hr2 rfl (by decide) _ ks.length _ rfl HOA.out (some ⟨wr.heap.size, 0, none⟩) 1 1 [.int .i64 x, .int .i64 y, .slice uo cn un] rfl rfl (fun e => by cases e) (fun ad had => by cases had; exact new_cells wr #[.int .i64 x, .int .i64 y, .slice uo cn un] 61) (by simp [Value.oneCell']) (by unfold maxLen; omega) (by omega) HBA.out.size ?_; intro v3 w3 ho3 hg3)
        have HO3 := hid (show w3.ownsRow w.heap.size 61 3 v3 ((Y.take (j + 1)).filter (fun r => !decide (r.1.1 = s))).length (fl encW ((Y.take (j + 1)).filter (fun r => !decide (r.1.1 = s)))) by rw [HE.out, HLN.out]; exact ho3)
        have HB3 := hid (HBA.out.grown hg3 HBA.out.size (fun r hr => owns_base HOA.out hr))
        clear ho3 hg3 HE HOW HOA HBA hbA hbel q0 q1 q2 c0 HLN
        go_wp2
        go_roundw
        case rel => exact ⟨j + 1, m, by omega, by go_num, rfl, HC, HO3, HB3.out⟩
        case measure => simp [intOf]; omega
    · obtain rfl : j = Y.length := by omega
      have hd : decide ((Y.length : Int) < (Y.length : Int)) = false := by simp
      have f0 := HY.out.free
      rw [List.take_length] at HM HOW
      obtain ⟨ua, uk, rfl⟩ := owns_slice HOW.out
      obtain ⟨Y', f1, f2, f3, f4⟩ := H.out.dropped s hbel HOW.out
      have HF := hid (And.intro f1 (And.intro f2 (And.intro f3 f4)))
      clear f1 f2 f3 f4
      generalize ((Y.filter (fun r => !decide (r.1.1 = s))).length) = L at HF HOW ⊢
      go_wp2
      go_ret
      exact ⟨by rw [← HM.out]; rfl, _, Y', HF.out.1, HF.out.2.1, HF.out.2.2.1, HF.out.2.2.2⟩
end Go.Proofs.Ytejkboahjfcdcaa
