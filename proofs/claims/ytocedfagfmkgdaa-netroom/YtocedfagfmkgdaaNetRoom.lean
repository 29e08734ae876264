/- NetRoom: as many as there is room for. -/
import Derived.Test.YtocedfagfmkgdaaLtAwake
import Derived.Test.YtocedfagfmkgdaaLtRefTake
import Derived.Test.YtocedfagfmkgdaaLowC
import Derived.Deep.Cut
namespace Go.Proofs.Ytocedfagfmkgdaa
open Go.RowKit
set_option linter.unusedVariables false

theorem LetsX.save {S : Nat → Prop} {w w' : World} {ao : Option Addr} {m cap : Nat} {xs : List LetX} (h : LetsX w (.slice ao m cap) xs) (hs : Sav S w w') (hn : ∀ p off, ao = some ⟨p, off, none⟩ → p < w.heap.size ∧ ¬ S p) (hi : ∀ x ∈ xs, x.Is w') : LetsX w' (.slice ao m cap) xs := by
  refine ⟨?_, hi⟩
  obtain ⟨ao', cap', hv, h1, h2, h3, h4⟩ := h.1
  cases hv
  refine ⟨_, cap, rfl, h1, h2, h3, fun hl => ?_⟩
  obtain ⟨b, o, e, hlt, hc⟩ := h4 hl
  obtain ⟨n1, n2⟩ := hn b o e
  exact ⟨b, o, e, Nat.lt_of_lt_of_le hlt hs.size, fun j x hj k u hu => (hs.cell (a := ⟨b, o + j * 12 + k, none⟩) hlt n2).trans (hc j x hj k u hu)⟩
/-- Letters from 0, 1, .. to 3. -/
def lsN (n : Nat) : List LetX := (List.range n).map (fun (i : Nat) => plainX (i : Int) 3)
theorem lsN_len (n : Nat) : (lsN n).length = n := by simp [lsN]
theorem lsN_succ (n : Nat) : lsN (n + 1) = lsN n ++ [plainX (n : Int) 3] := by simp [lsN, List.range_succ]
theorem lsN_at {n i : Nat} (h : i < n) : (lsN n)[i]? = some (plainX (i : Int) 3) := by simp [lsN, h]
theorem lsN_mem {n : Nat} {x : LetX} (h : x ∈ lsN n) : ∃ i : Int, x = plainX i 3 := by
  obtain ⟨i, _, rfl⟩ := List.mem_map.1 h
  exact ⟨i, rfl⟩
theorem out_mem {n a : Nat} {x : LetX} (h : x ∈ outN (lsN n) a) : ∃ i : Int, x = plainX i 3 := by
  unfold outN at h
  rcases List.mem_append.1 h with e | e
  · exact lsN_mem (List.mem_of_mem_take e)
  · exact lsN_mem (List.mem_of_mem_drop e)
theorem plain_outN (xs : List LetX) (a : Nat) : plain (outN xs a) = outN (plain xs) a := map_outN _ _ _
theorem lsN_take {n k : Nat} (h : k ≤ n) : (lsN n).take k = lsN k := by
  unfold lsN
  rw [← List.map_take, List.take_range, Nat.min_eq_left h]
set_option maxHeartbeats 16000000 in
set_option maxRecDepth 100000 in
theorem netRoom_walk (w : World) (many : Int) (wm : (Lit.int .i64 many).wf = true) (at_ : Int) (wa : (Lit.int .i64 at_).wf = true) :
    Calls Try.prog 4 #[.int .i64 many, .int .i64 at_] w fun e w' => e = .returned (.bool true) ∧ Below w.heap.size w w' := by
  obtain ⟨i0, hi, hz0, hz1, hz2⟩ := info_parts Try.infoL
  obtain ⟨m, hm, hm2⟩ := low_nat many 200 (by omega)
  have HM := hid hm
  clear hm wm
  have HWA := hid wa
  clear wa
  go_enter Try.func4, Try.ntmps4
  go_wp2_with fail
  refine (low_calls many 200 (by omega) (by omega) w).mono ?_
  rintro e w0 ⟨rfl, rfl⟩
  rw [show low many 200 = (m : Int) from HM.out]
  go_wp2_with fail
  refine (new_net w).mono ?_
  rintro e w1 ⟨rfl, hw1⟩
  have hb1 : Below w.heap.size w w1 := by rw [hw1]; exact alloc_one w _
  have HN1 := hid (show Nt w.heap.size w.heap.size (.slice none 0 0) [] w1 from by rw [hw1]; exact Nt.new w w.heap.size (Nat.le_refl _))
  have HB1 := hid hb1
  have hz1' : w1.heap.size = w.heap.size + 1 := by rw [hw1]; simp
  clear hw1 hb1
  go_wp2
  go_loopw [6, 7] (fun u i wr => ∃ j : Nat, i = .int .i64 j ∧ j ≤ m ∧ wr.ownsRow w1.heap.size 36 12 u j (fl encL (lsN j)) ∧ Below w1.heap.size w1 wr) (fun _ i _ => m - (intOf i).toNat)
  case atStart => exact ⟨0, rfl, by omega, World.ownsRow_nil _ _ _ _, Below.refl _ _⟩
  case round =>
    obtain ⟨j, rfl, hj, ho, hb⟩ := hrel
    have HO := hid ho
    have HB := hid hb
    have hlow := hb.size
    obtain ⟨ao, cc, rfl⟩ := owns_slice ho
    clear ho hb
    by_cases hlt : j < m
    · have d5 : decide ((j : Int) < (m : Int)) = true := by simp; omega
      have ho4 := HO.out.alloc (.cells #[.int .i64 j, .int .i64 3, .int .i64 0, .int .i64 0, .int .i64 0, .int .i64 0, .int .i64 0, .int .i64 0, .int .i64 0, .int .i64 0, .slice none 0 0, .slice none 0 0] 36)
      have hb4 : w1.heap.size ≤ (wr.alloc (.cells #[.int .i64 j, .int .i64 3, .int .i64 0, .int .i64 0, .int .i64 0, .int .i64 0, .int .i64 0, .int .i64 0, .int .i64 0, .int .i64 0, .slice none 0 0, .slice none 0 0] 36)).heap.size := by simp; omega
      have HB4 := hid (below_then HB.out (alloc_one wr (.cells #[.int .i64 j, .int .i64 3, .int .i64 0, .int .i64 0, .int .i64 0, .int .i64 0, .int .i64 0, .int .i64 0, .int .i64 0, .int .i64 0, .slice none 0 0, .slice none 0 0] 36)) hlow)
      go_wp2_with (at_builtin; refine wpList_append_own _ rfl _ _ 28 rfl w1.heap.size 36 i0 _ 12 128 Try.underlying28 hi hz0 hz1 hz2 rfl (by decide) _ j (fl encL (lsN j)) rfl ho4 ⟨wr.heap.size, 0, none⟩ 1 1 (encL (plainX j 3)) rfl rfl (new_cells wr #[.int .i64 j, .int .i64 3, .int .i64 0, .int .i64 0, .int .i64 0, .int .i64 0, .int .i64 0, .int .i64 0, .int .i64 0, .int .i64 0, .slice none 0 0, .slice none 0 0] 36) (encL_one (plainX j 3)) (by unfold maxLen; omega) (by omega) hb4 ?_; intro v5 w5 ho5 hg5 _)
      have HO5 := hid (show w5.ownsRow w1.heap.size 36 12 v5 (j + 1) (fl encL (lsN (j + 1))) from by rw [lsN_succ, fl_append, fl_single]; exact ho5)
      have HB5 := hid (HB4.out.grown hg5 HB4.out.size (fun q hq => (ho4.lt q hq).1))
      clear ho5 hg5 ho4
      go_wp2
      go_roundw
      case rel => exact ⟨j + 1, by go_num, by omega, HO5.out, HB5.out⟩
      case measure => simp [intOf]; omega
    · obtain rfl : j = m := by omega
      have d5 : decide ((j : Int) < (j : Int)) = false := by simp
      have HN2 := hid (HN1.out.below HB.out)
      have hbb := below_then HB1.out HB.out HB1.out.size
      have HBB := hid hbb
      have hcc : j ≤ cc ∧ cc ≤ 9223372036854775807 := by
        rcases HO.out.2 with ⟨e, h0⟩ | ⟨g, cap, cur, e, _, _, h4, h5, _⟩
        · cases e
          omega
        · cases e
          unfold maxLen at h5
          exact ⟨h4, h5⟩
      obtain ⟨hcap, hcm⟩ := hcc
      have HAO := hid (show ∀ p off, ao = some ⟨p, off, none⟩ → off = 0 ∧ w1.heap.size ≤ p ∧ p < wr.heap.size from by
        intro p off e
        rcases HO.out.2 with ⟨e2, _⟩ | ⟨g, cap, cur, e2, h1, h2, _⟩
        · cases e2
          cases e
        · cases e2
          cases e
          exact ⟨rfl, h1, lt_of_block h2⟩)
      have HPL := hid (show ∀ w', ∀ x ∈ lsN j, x.Is w' from fun w' x hx => by obtain ⟨i, rfl⟩ := lsN_mem hx; exact plainX_is _ _ _)
      have HL := hid (show LetsX wr (.slice ao j cc) (lsN j) from ⟨Reads.own encL_len (by decide) HO.out, HPL.out wr⟩)
      have HV := hid (fun w' (hs : Sav (Ow w.heap.size (.slice none 0 0)) wr w') => HL.out.save hs (fun p off e => ⟨(HAO.out p off e).2.2, fun e2 => by
        have h1 := (HAO.out p off e).2.1
        rcases e2 with e2 | e2
        · omega
        · cases e2⟩) (HPL.out w'))
      go_wp2_with fail
      refine (send_net w.heap.size w.heap.size _ _ [] (lsN j) wr HN2.out HV.out (fun x hx => by obtain ⟨i, rfl⟩ := lsN_mem hx; exact Sm.plain _ _) (by rw [lsN_len]; omega)).mono ?_
      rintro e w4 ⟨rfl, u1, ys1, hp1, hn1, hs1, hx1⟩
      obtain ⟨k, hk⟩ : ∃ k, min j 128 = k := ⟨_, rfl⟩
      have hk1 : k ≤ j ∧ k ≤ 128 := by omega
      have hlost : lostN (plain ([] : List LetX)) (plain (lsN j)) = j - k := by unfold lostN; rw [plain_len, plain_len, lsN_len]; simp; omega
      have hsent : sendN (plain ([] : List LetX)) (plain (lsN j)) = plain (lsN k) := by
        unfold sendN plain
        rw [← List.map_take, ← List.map_append, List.map_nil, List.length_nil, Nat.sub_zero, List.nil_append]
        by_cases h128 : j ≤ 128
        · rw [List.take_of_length_le (by rw [lsN_len]; omega), show k = j by omega]
        · rw [lsN_take (by omega), show k = 128 by omega]
      obtain ⟨lo, hlo⟩ : ∃ lo, j - k = lo := ⟨_, rfl⟩
      rw [hlost, hlo]
      rw [hsent] at hp1
      have hmin : (if (128 : Int) < (j : Int) then (128 : Int) else (j : Int)) = (k : Int) := by split <;> omega
      have hwr : IntKind.i64.wrap ((j : Int) - (k : Int)) = (lo : Int) := by rw [IntKind.wrap_i64]; omega
      have e1 : ((lo : Int) != (lo : Int)) = false := by simp
      have e2 : ((k : Int) != (k : Int)) = false := by simp
      have HN4 := hid hn1
      have HP4 := hid hp1
      have HYL := hid (show ys1.length = k from by rw [← plain_len ys1, hp1, plain_len, lsN_len])
      have HL4 := hid (HV.out w4 hs1)
      have hs4 := hs1.size
      have HX1 := hid (fun q (hq : u1.ownBlock = some q) => Nxt.none hx1 hq)
      have HB4 := hid (hbb.trans (hs1.below (B := w.heap.size) (fun q hq => by
        rcases hq with hq | hq
        · omega
        · cases hq) hbb.size))
      obtain ⟨hkj, hk128⟩ := hk1
      have hkc : k ≤ cc := by omega
      clear hlost hsent hn1 hp1 hs1 hx1 hbb hk hlo d5
      go_upto_region 12 with fail
      have HND := hid (HN4.out.below (below_drew1 w4))
      have HLD := hid (HL4.out.below (below_drew1 w4))
      go_region_held3 (fun _ => True) (trivial)
        (first | (go_at_call 17; refine (len_net w.heap.size w.heap.size u1 ys1 w4.drew HND.out).mono ?_; rintro e w5 ⟨rfl, rfl⟩; rw [HYL.out]) | (go_at_call 16; refine (list_net w.heap.size w.heap.size u1 ys1 w4.drew HND.out).mono ?_; rintro e w6 ⟨v6, ys6, rfl, hp6, hr6, hb6⟩; have HP6 := hid hp6; have HR6 := hid hr6; have HB6 := hid hb6; clear hp6 hr6 hb6) | (go_at_call 13; refine (sameLetters_dec v6 (.slice ao k cc) ys6 (lsN k) w6 HR6.out.row.lets (by have := (HLD.out.below HB6.out).take (k := k) (by rw [lsN_len]; exact hkj); rw [lsN_take hkj] at this; exact this)).mono ?_; rintro e w7 ⟨rfl, hb7⟩; have HB7 := hid hb7; rw [show sameL (plain ys6) (plain (lsN k)) = true from by rw [HP6.out, HP4.out]; exact sameL_self _]; clear hb7))
      have HBW7 := hid (below_then (below_then (below_drew1 w4) HB6.out (below_drew1 w4).size) HB7.out (Nat.le_trans (below_drew1 w4).size HB6.out.size))
      have HN7 := hid (HN4.out.below HBW7.out)
      have HB7w := hid (below_then HB4.out HBW7.out HB4.out.size)
      rcases Nat.eq_zero_or_pos k with h0 | hkpos
      · have H0 := hid h0
        have HPK := hid (show plain ys1 = [] from by rw [HP4.out, h0]; rfl)
        have e3 : ((k : Int) == 0) = true := by rw [h0]; rfl
        clear h0
        go_wp2_with fail
        refine (take_net w.heap.size w.heap.size u1 ys1 0 w7 HN7.out).mono ?_
        rintro e w8 ⟨⟨x, rfl, hx, hxi⟩, u2, ys2, hp2, hn2, hs2, hx2⟩
        rw [show placeN (plain ys1) 0 = false from by rw [HPK.out]; rfl]
        have HN8 := hid (hn2.below (alloc_one w8 (.cells #[.int .i64 x.r.from_, .int .i64 x.r.to_, .int .i64 x.r.kind, .int .i64 x.r.split, .int .i64 x.r.attempt, .int .i64 x.r.part, .int .i64 x.r.seq, .int .i64 x.r.next, .int .i64 x.r.epoch, .int .i64 x.r.reason, .slice x.so x.r.set.length x.sc, .slice x.po x.r.prs.length x.pc] 36)))
        have HP8 := hid (show plain ys2 = [] from by rw [hp2, HPK.out]; rfl)
        have HB8 := hid (below_then (HB7w.out.trans (hs2.below (B := w.heap.size) (fun q hq => by
          rcases hq with hq | hq
          · omega
          · exact (HN7.out.row.row.lt q hq).1) HB7w.out.size)) (alloc_one w8 (.cells #[.int .i64 x.r.from_, .int .i64 x.r.to_, .int .i64 x.r.kind, .int .i64 x.r.split, .int .i64 x.r.attempt, .int .i64 x.r.part, .int .i64 x.r.seq, .int .i64 x.r.next, .int .i64 x.r.epoch, .int .i64 x.r.reason, .slice x.so x.r.set.length x.sc, .slice x.po x.r.prs.length x.pc] 36)) (Nat.le_trans HB7w.out.size hs2.size))
        clear hx hxi hp2 hn2 hs2 hx2
        go_wp2_with fail
        refine (double_net w.heap.size w.heap.size u2 ys2 0 _ HN8.out).mono ?_
        rintro e w9 ⟨rfl, u3, ys3, hp3, hn3, hs3, hx3⟩
        rw [show okD (plain ys2) 0 = false from by rw [HP8.out]; rfl]
        have HB9 := hid (HB8.out.trans (hs3.below (B := w.heap.size) (fun q hq => by
          rcases hq with hq | hq
          · omega
          · exact (HN8.out.row.row.lt q hq).1) HB8.out.size))
        clear hp3 hn3 hs3 hx3
        go_wp2_with fail
        refine (awake_calls w9).mono ?_
        rintro e w10 ⟨rfl, hb10⟩
        have HB10 := hid (below_then HB9.out hb10 HB9.out.size)
        clear hb10
        go_wp2
        go_ret
        exact ⟨rfl, HB10.out⟩
      · have e3 : ((k : Int) == 0) = false := by simp; omega
        obtain ⟨g, rfl⟩ : ∃ g, ao = some ⟨g, 0, none⟩ := by
          rcases HO.out.2 with ⟨_, h0⟩ | ⟨g, cap, cur, e, _⟩
          · omega
          · cases e
            exact ⟨g, rfl⟩
        have hg1 := (HAO.out _ _ rfl).2.1
        have hg2 := (HAO.out _ _ rfl).2.2
        go_wp2_with fail
        have HL7 := hid (HL4.out.below HBW7.out)
        have hz7 := HBW7.out.size
        obtain ⟨a, ha, hak⟩ := low_nat at_ k hkpos
        have HA := hid ha
        clear ha HND HLD HR6 HP6 HB6 HB7
        refine (low_calls at_ k (by omega) (by omega) w7).mono ?_
        rintro e w8 ⟨rfl, rfl⟩
        rw [HA.out]
        go_wp2_with fail
        refine (take_net w.heap.size w.heap.size u1 ys1 a w7 HN7.out).mono ?_
        rintro e w8 ⟨⟨x, rfl, hx, hxi⟩, u2, ys2, hp2, hn2, hs2, hx2⟩
        have hat : (plain ys1)[a]? = some (plainX a 3).r := by rw [HP4.out]; exact plain_at (lsN_at hak)
        have hty := tookN_yes (d := zeroL) hat
        rw [hty.1]
        rw [hty.2.1] at hx
        rw [hty.2.2] at hp2
        have HP2 := hid (show plain ys2 = outN (plain (lsN k)) a from by rw [hp2, HP4.out])
        have HN2' := hid hn2
        have hxa : x.r.from_ = (a : Int) := by rw [hx]; rfl
        have hxa2 : (x.r.from_ == (a : Int)) = true := by rw [hxa]; simp
        clear hxa
        have HL8 := hid (HL7.out.sav hs2 (Nat.lt_of_lt_of_le hg2 (Nat.le_trans hs4 hz7)) (fun e => by
          rcases e with e | e
          · omega
          · have := HX1.out _ e
            omega) (fun z hz => by obtain ⟨i, rfl⟩ := lsN_mem hz; exact plainX_is _ _ _))
        have HB8 := hid (HB7w.out.trans (hs2.below (B := w.heap.size) (fun q hq => by
          rcases hq with hq | hq
          · omega
          · have := HX1.out _ hq
            omega) HB7w.out.size))
        have HX := hid hxi.is
        clear hat hty hx hxi hp2 hn2 hs2 hx2 HN7 HL7 HB7w HBW7
        go_upto_region 19 with fail
        have hb9 := below_then (alloc_one w8 (.cells #[.int .i64 x.r.from_, .int .i64 x.r.to_, .int .i64 x.r.kind, .int .i64 x.r.split, .int .i64 x.r.attempt, .int .i64 x.r.part, .int .i64 x.r.seq, .int .i64 x.r.next, .int .i64 x.r.epoch, .int .i64 x.r.reason, .slice x.so x.r.set.length x.sc, .slice x.po x.r.prs.length x.pc] 36)) (below_drew1 (w8.alloc (.cells #[.int .i64 x.r.from_, .int .i64 x.r.to_, .int .i64 x.r.kind, .int .i64 x.r.split, .int .i64 x.r.attempt, .int .i64 x.r.part, .int .i64 x.r.seq, .int .i64 x.r.next, .int .i64 x.r.epoch, .int .i64 x.r.reason, .slice x.so x.r.set.length x.sc, .slice x.po x.r.prs.length x.pc] 36))) (alloc_one w8 (.cells #[.int .i64 x.r.from_, .int .i64 x.r.to_, .int .i64 x.r.kind, .int .i64 x.r.split, .int .i64 x.r.attempt, .int .i64 x.r.part, .int .i64 x.r.seq, .int .i64 x.r.next, .int .i64 x.r.epoch, .int .i64 x.r.reason, .slice x.so x.r.set.length x.sc, .slice x.po x.r.prs.length x.pc] 36)).size
        have HN9 := hid (HN2'.out.below hb9)
        have HLK := hid (show Reads 12 encL (w8.alloc (.cells #[.int .i64 x.r.from_, .int .i64 x.r.to_, .int .i64 x.r.kind, .int .i64 x.r.split, .int .i64 x.r.attempt, .int .i64 x.r.part, .int .i64 x.r.seq, .int .i64 x.r.next, .int .i64 x.r.epoch, .int .i64 x.r.reason, .slice x.so x.r.set.length x.sc, .slice x.po x.r.prs.length x.pc] 36)).drew (.slice (some ⟨g, 0, none⟩) k cc) (lsN k) from by
          have := (((HL8.out.below hb9).take (k := k) (by rw [lsN_len]; omega))).1
          rw [lsN_take hkj] at this
          exact this)
        have HXB := hid (show (w8.alloc (.cells #[.int .i64 x.r.from_, .int .i64 x.r.to_, .int .i64 x.r.kind, .int .i64 x.r.split, .int .i64 x.r.attempt, .int .i64 x.r.part, .int .i64 x.r.seq, .int .i64 x.r.next, .int .i64 x.r.epoch, .int .i64 x.r.reason, .slice x.so x.r.set.length x.sc, .slice x.po x.r.prs.length x.pc] 36)).drew.heap[w8.heap.size]? = some (.cells #[.int .i64 x.r.from_, .int .i64 x.r.to_, .int .i64 x.r.kind, .int .i64 x.r.split, .int .i64 x.r.attempt, .int .i64 x.r.part, .int .i64 x.r.seq, .int .i64 x.r.next, .int .i64 x.r.epoch, .int .i64 x.r.reason, .slice x.so x.r.set.length x.sc, .slice x.po x.r.prs.length x.pc] 36 (0, 0)) from new_block w8 _)
        have HB9 := hid (below_then HB8.out hb9 HB8.out.size)
        have hS0 : Any (w8.alloc (.cells #[.int .i64 x.r.from_, .int .i64 x.r.to_, .int .i64 x.r.kind, .int .i64 x.r.split, .int .i64 x.r.attempt, .int .i64 x.r.part, .int .i64 x.r.seq, .int .i64 x.r.next, .int .i64 x.r.epoch, .int .i64 x.r.reason, .slice x.so x.r.set.length x.sc, .slice x.po x.r.prs.length x.pc] 36)).drew := trivial
        clear hb9
        have xs14 : ∀ {q n : Nat} {v : Value} {w' : World}, w'.ownsRow q 36 12 v n (fl encL ((lsN k).take a ++ (lsN k).drop (a + 1))) → w'.ownsRow q 36 12 v n (fl encL (outN (lsN k) a)) := fun h => h
        obtain ⟨A, hA, HSh⟩ : ∃ A : Addr, (if cc = a + 1 then some (⟨g, 0, none⟩ : Addr) else some ⟨g, (a + 1) * 12, none⟩) = some A ∧ Hid (∀ w', Below (w8.alloc (.cells #[.int .i64 x.r.from_, .int .i64 x.r.to_, .int .i64 x.r.kind, .int .i64 x.r.split, .int .i64 x.r.attempt, .int .i64 x.r.part, .int .i64 x.r.seq, .int .i64 x.r.next, .int .i64 x.r.epoch, .int .i64 x.r.reason, .slice x.so x.r.set.length x.sc, .slice x.po x.r.prs.length x.pc] 36)).drew.heap.size (w8.alloc (.cells #[.int .i64 x.r.from_, .int .i64 x.r.to_, .int .i64 x.r.kind, .int .i64 x.r.split, .int .i64 x.r.attempt, .int .i64 x.r.part, .int .i64 x.r.seq, .int .i64 x.r.next, .int .i64 x.r.epoch, .int .i64 x.r.reason, .slice x.so x.r.set.length x.sc, .slice x.po x.r.prs.length x.pc] 36)).drew w' → ∀ ad, some A = some ad → ∀ i z, (fl encL ((lsN k).drop (a + 1)))[i]? = some z → w'.cell? (ad.add i) = some z) := by
          by_cases hcc : cc = a + 1
          · refine ⟨⟨g, 0, none⟩, by simp [hcc], fun w' hb ad e i z hz => ?_⟩
            have hl := (List.getElem?_eq_some_iff.1 hz).1
            rw [fl_length encL_len, List.length_drop, lsN_len] at hl
            omega
          · refine ⟨⟨g, (a + 1) * 12, none⟩, by simp [hcc], fun w' hb ad e i z hz => ?_⟩
            cases e
            rw [addr_add]
            have := Reads.shift encL_len (by decide) (HLK.out.below hb) i z hz
            rw [Nat.zero_add] at this
            exact this
        have hlen1 : (fl encL ((lsN k).take a)).length = a * 12 := by rw [fl_length encL_len, List.length_take, lsN_len]; omega
        have hlen2 : (fl encL ((lsN k).drop (a + 1))).length = (k - (a + 1)) * 12 := by rw [fl_length encL_len, List.length_drop, lsN_len]
        have ha1 : a ≤ cc := by omega
        have ha2 : a + 1 ≤ k := hak
        have ha3 : a ≤ j := by omega
        refine wp_region_held_drew (S := Any) (by kernel_rfl) hS0 (fun hHeld => ?_)
        generalize (w8.alloc (.cells #[.int .i64 x.r.from_, .int .i64 x.r.to_, .int .i64 x.r.kind, .int .i64 x.r.split, .int .i64 x.r.attempt, .int .i64 x.r.part, .int .i64 x.r.seq, .int .i64 x.r.next, .int .i64 x.r.epoch, .int .i64 x.r.reason, .slice x.so x.r.set.length x.sc, .slice x.po x.r.prs.length x.pc] 36)).drew = wd at HN9 HLK HXB HB9 hS0 HSh hHeld ⊢
        have HRF := hid (fun w' (hb : Below wd.heap.size wd w') => show Any w' from trivial)
        have HSF := HRF
        have HFF := HRF
        have HNW := hid (fun w' (hb : Below wd.heap.size wd w') => Reads.news (l := (lsN k).take a) (m := a) (cap := cc) encL_len (by decide) (by
          have hcut : Reads 12 encL wd (.slice (some ⟨g, 0, none⟩) ((lsN k).take a).length cc) ((lsN k).take a) := Reads.cut (r := (lsN k).drop a) (m := k) (by rw [List.take_append_drop]; exact HLK.out)
          rwa [List.length_take, lsN_len, Nat.min_eq_left (by omega)] at hcut) hb)
        have HNX := HSh
        have HB0 := hid (Below.refl wd.heap.size wd)
        refine takeH 0 81 (.slice (some ⟨g, 0, none⟩) j cc) rfl rfl (by kernel_rfl) (by kernel_rfl) (by kernel_rfl) (fun _ _ _ h => h) (by rfl) ?_ (by assumption) ?_
        · intro w' hSw
          go_simp
        try simp only [Act.put, List.setIfInBounds_toArray, List.set_cons_zero, List.set_cons_succ]
        refine takeH 1 82 (.int .i64 a) rfl rfl (by kernel_rfl) (by kernel_rfl) (by kernel_rfl) (fun _ _ _ h => h) (by rfl) ?_ (by assumption) ?_
        · intro w' hSw
          go_simp
        try simp only [Act.put, List.setIfInBounds_toArray, List.set_cons_zero, List.set_cons_succ]
        refine takeH 2 83 (.slice (some ⟨g, 0, none⟩) (a) (cc)) rfl rfl (by kernel_rfl) (by kernel_rfl) (by kernel_rfl) (fun _ _ _ h => h) (by rfl) ?_ (by assumption) ?_
        · intro w' hSw
          go_simp
        try simp only [Act.put, List.setIfInBounds_toArray, List.set_cons_zero, List.set_cons_succ]
        refine takeH 4 85 (.slice (some ⟨g, 0, none⟩) j cc) rfl rfl (by kernel_rfl) (by kernel_rfl) (by kernel_rfl) (fun _ _ _ h => h) (by rfl) ?_ (by assumption) ?_
        · intro w' hSw
          go_simp
        try simp only [Act.put, List.setIfInBounds_toArray, List.set_cons_zero, List.set_cons_succ]
        refine takeH 5 86 (.int .i64 a) rfl rfl (by kernel_rfl) (by kernel_rfl) (by kernel_rfl) (fun _ _ _ h => h) (by rfl) ?_ (by assumption) ?_
        · intro w' hSw
          go_simp
        try simp only [Act.put, List.setIfInBounds_toArray, List.set_cons_zero, List.set_cons_succ]
        refine takeH 6 87 (.int .i64 ((a : Int) + 1)) rfl rfl (by kernel_rfl) (by kernel_rfl) (by kernel_rfl) (fun _ _ _ h => h) (by rfl) ?_ (by assumption) ?_
        · intro w' hSw
          go_simp
          rw [IntKind.wrap_i64]
          omega
        try simp only [Act.put, List.setIfInBounds_toArray, List.set_cons_zero, List.set_cons_succ]
        refine takeH 7 88 (.int .i64 k) rfl rfl (by kernel_rfl) (by kernel_rfl) (by kernel_rfl) (fun _ _ _ h => h) (by rfl) ?_ (by assumption) ?_
        · intro w' hSw
          go_simp
        try simp only [Act.put, List.setIfInBounds_toArray, List.set_cons_zero, List.set_cons_succ]
        refine takeH 8 89 (.slice (some A) (k - (a + 1)) (cc - (a + 1))) rfl rfl (by kernel_rfl) (by kernel_rfl) (by kernel_rfl) (fun _ _ _ h => h) (by rfl) ?_ (by assumption) ?_
        · intro w' hSw
          go_simp
          intro hbad
          exact absurd (hbad (by omega)) (by omega)
        try simp only [Act.put, List.setIfInBounds_toArray, List.set_cons_zero, List.set_cons_succ]
        refine wpAnyH_ready (rs := [3]) (by kernel_rfl) (by simp) (AllReadyH.cons rfl (fun K hK => ?_) AllReadyH.nil)
        refine step_append_any_to 84 rfl rfl (.const (.slice none 0 0)) (.tmp 83) 28 rfl wd.heap.size 36 i0 _ 12 128 Try.underlying28 hi hz0 hz1 hz2 rfl (by decide) (.slice none 0 0) 0 [] (by simp [Act.eval]) (World.ownsRow_nil _ _ _ _) (some ⟨g, 0, none⟩) (a) cc (fl encL ((lsN k).take a)) (by simp [Act.eval]) hlen1 (fun e => by cases e) (HNW.out _ HB0.out) (fl_one encL_one _) (by unfold maxLen; omega) (by omega) HB0.out.size ?_
        intro v1 w1 ho1 hg1
        simp only [Nat.zero_add, List.nil_append] at ho1
        have hb1 := below_none hg1
        obtain ⟨a1, k1, rfl⟩ := owns_slice ho1
        have HB2 := hid (below_then HB0.out hb1 HB0.out.size)
        have x2 := HRF.out _ HB2.out
        have hS2 := HSF.out _ HB2.out
        refine hK.out _ _ (by assumption) (fun hHeld => ?_)
        clear hK K
        try simp only [Act.put, List.setIfInBounds_toArray, List.set_cons_zero, List.set_cons_succ]
        refine wpAnyH_ready (rs := [9]) (by kernel_rfl) (by simp) (AllReadyH.cons rfl (fun K hK => ?_) AllReadyH.nil)
        refine step_append_any_to 90 rfl rfl (.tmp 84) (.tmp 89) 28 rfl wd.heap.size 36 i0 _ 12 128 Try.underlying28 hi hz0 hz1 hz2 rfl (by decide) _ (a) (fl encL ((lsN k).take a)) (by simp [Act.eval]) ho1 (some A) (k - (a + 1)) (cc - (a + 1)) (fl encL ((lsN k).drop (a + 1))) (by simp [Act.eval]) hlen2 (fun e => by cases e) (HNX.out _ HB2.out) (fl_one encL_one _) (by unfold maxLen; omega) (by omega) HB2.out.size ?_
        intro v3 w3 ho3 hg3
        have HG3 := hid (HB2.out.grown hg3 HB2.out.size (fun r hr => (ho1.lt r hr).1))
        have x3 := HRF.out _ HG3.out
        have hS3 := HSF.out _ HG3.out
        have f3 := HFF.out _ HG3.out
        obtain ⟨a3, k3, rfl⟩ := owns_slice ho3
        have HO3 := hid ho3
        clear ho3 hg3
        refine hK.out _ _ (by assumption) (fun hHeld => ?_)
        clear hK K
        try simp only [Act.put, List.setIfInBounds_toArray, List.set_cons_zero, List.set_cons_succ]
        refine takeH 10 14 (.slice a3 (a + (k - (a + 1))) k3) rfl rfl (by kernel_rfl) (by kernel_rfl) (by kernel_rfl) (fun _ _ _ h => h) (by rfl) ?_ (by assumption) ?_
        · intro w' hSw
          go_simp
        try simp only [Act.put, List.setIfInBounds_toArray, List.set_cons_zero, List.set_cons_succ]
        refine wpAnyH_done (by kernel_rfl) ?_ _
        have ho14 := HO3.out
        rw [← fl_append] at ho14
        have HR14 := hid (show LetsX w3 (.slice a3 (a + (k - (a + 1))) k3) (outN (lsN k) a) from ⟨Reads.own encL_len (by decide) (xs14 ho14), fun z hz => by
          obtain ⟨i, rfl⟩ := out_mem hz
          exact plainX_is _ _ _⟩)
        have HNW14 := hid (HN9.out.below HG3.out)
        have hx14 := (HG3.out.block _ (lt_of_block HXB.out)).trans HXB.out
        have g0 : w3.cell? ⟨w8.heap.size, 0, none⟩ = _ := cell_of_cells (j := 0) hx14
        simp at g0
        have HB14 := hid (below_then HB9.out HG3.out HB9.out.size)
        clear hx14 ho14
        go_wp2_with fail
        refine (list_net w.heap.size w.heap.size u2 ys2 w3 HNW14.out).mono ?_
        rintro e w10 ⟨v10, ys10, rfl, hp10, hr10, hb10⟩
        have HP10 := hid hp10
        have HR10 := hid hr10
        have HB10 := hid (below_then HB14.out hb10 HB14.out.size)
        have HL10 := hid (HR14.out.below hb10)
        clear hp10 hr10 hb10
        go_wp2_with fail
        refine (sameLetters_dec v10 _ ys10 (outN (lsN k) a) w10 HR10.out.row.lets HL10.out).mono ?_
        rintro e w11 ⟨rfl, hb11⟩
        rw [show sameL (plain ys10) (plain (outN (lsN k) a)) = true from by rw [HP10.out, HP2.out, plain_outN]; exact sameL_self _]
        have HB11 := hid (below_then HB10.out hb11 HB10.out.size)
        clear hb11
        go_wp2_with fail
        refine (awake_calls w11).mono ?_
        rintro e w12 ⟨rfl, hb12⟩
        have HB12 := hid (below_then HB11.out hb12 HB11.out.size)
        clear hb12
        go_wp2
        go_ret
        exact ⟨rfl, HB12.out⟩
end Go.Proofs.Ytocedfagfmkgdaa
