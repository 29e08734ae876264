/- The program's readOne. -/
import Derived.Test.YtpkobobandcclaaRcOne
namespace Go.Proofs.Ytpkobobandcclaa
open Go.RowKit
set_option linter.unusedVariables false

set_option maxRecDepth 100000 in
set_option maxHeartbeats 16000000 in
theorem readOne_any (v : Value) (l : List Int) (at_ : Nat) (w : World) (hv : Bs w v l) (hB : Byt l) (ha : at_ ≤ l.length) (hl : l.length ≤ 1000000) :
    Calls Try.prog 35 #[v, .int .i64 at_] w (OneIs l at_ at_ w) := by
  have HB0 := hid (alloc_one w (.cells #[.int .i64 0, .int .i64 0, .int .i64 0, .int .i64 0, .int .i64 0, .slice none 0 0, .slice none 0 0] 33))
  have HR0 := hid (new_block w (.cells #[.int .i64 0, .int .i64 0, .int .i64 0, .int .i64 0, .int .i64 0, .slice none 0 0, .slice none 0 0] 33))
  have HV := hid (hv.below HB0.out)
  have HA := hid ha
  have HY := hid hB
  obtain ⟨vo, cap, rfl, v1, v2, v3, -⟩ := hv
  unfold maxLen at v2
  clear hB
  rcases hz : rdNum l at_ with ⟨x, y, z⟩
  have HZ := hid hz
  cases z with
  | false =>
    clear hz
    go_enter Try.func35, Try.ntmps35
    go_wp2_with fail
    refine (readnum_any _ l at_ _ HV.out HY.out).mono ?_
    rw [HZ.out]
    rintro e w1 ⟨rfl, rfl⟩
    go_wp2
    refine bodyPost_ret (results_cell3 rfl _ _ w.heap.size 33 _ (0, 0) _ (by rfl) HR0.out Try.underlying33 rfl (by kernel_rfl)) rfl ?_
    exact ⟨HB0.out, .inr ⟨rfl, none_num HA.out HZ.out⟩⟩
  | true =>
    obtain ⟨p1, rfl, p3, p4⟩ := rd_pre HY.out hz
    clear hz p4
    by_cases h0 : x < 0
    · have hd0 : decide (x < 0) = true := by simpa using h0
      have HN := hid (none_size HA.out HZ.out (.inl h0))
      clear h0
      go_enter Try.func35, Try.ntmps35
      go_wp2_with fail
      refine (readnum_any _ l at_ _ HV.out HY.out).mono ?_
      rw [HZ.out]
      rintro e w1 ⟨rfl, rfl⟩
      go_wp2
      refine bodyPost_ret (results_cell3 rfl _ _ w.heap.size 33 _ (0, 0) _ (by rfl) HR0.out Try.underlying33 rfl (by kernel_rfl)) rfl ?_
      exact ⟨HB0.out, .inr ⟨rfl, HN.out⟩⟩
    obtain ⟨n, rfl⟩ := Int.eq_ofNat_of_zero_le (show 0 ≤ x by omega)
    have hd0 : decide ((n : Int) < 0) = false := by simp
    clear h0
    by_cases h1 : (l.length : Int) - (at_ + 8) < n
    · have hd1 : decide ((l.length : Int) - (at_ + 8) < (n : Int)) = true := by simpa using h1
      have HN := hid (none_size HA.out HZ.out (.inr h1))
      clear h1
      go_enter Try.func35, Try.ntmps35
      go_wp2_with fail
      refine (readnum_any _ l at_ _ HV.out HY.out).mono ?_
      rw [HZ.out]
      rintro e w1 ⟨rfl, rfl⟩
      go_wp2
      refine bodyPost_ret (results_cell3 rfl _ _ w.heap.size 33 _ (0, 0) _ (by rfl) HR0.out Try.underlying33 rfl (by kernel_rfl)) rfl ?_
      exact ⟨HB0.out, .inr ⟨rfl, HN.out⟩⟩
    have hd1 : decide ((l.length : Int) - (at_ + 8) < (n : Int)) = false := by simpa using h1
    have hend : at_ + 8 + n ≤ l.length := by omega
    clear h1
    obtain ⟨b, off, rfl⟩ : ∃ b off, vo = some ⟨b, off, none⟩ := by
      obtain ⟨ao, cap', e, _, _, _, h4⟩ := HV.out
      cases e
      obtain ⟨b, off, e, _⟩ := h4 (by intro e; rw [e] at hend; simp at hend)
      exact ⟨b, off, e⟩
    go_enter Try.func35, Try.ntmps35
    go_wp2_with fail
    refine (readnum_any _ l at_ _ HV.out HY.out).mono ?_
    rw [HZ.out]
    rintro e w1 ⟨rfl, rfl⟩
    go_wp2_with fail
    have HB1 := hid (below_then HB0.out (alloc_one _ (.cells #[.slice (some ⟨b, off, none⟩) (at_ + 8 + n) cap, .int .i64 ((at_ : Int) + 8), .bool true] 68)) HB0.out.size)
    have D0 := hid (show Rdr (w.heap.size + 1) (.slice (some ⟨b, off, none⟩) (at_ + 8 + n) cap) (l.take (at_ + 8 + n)) (at_ + 8) true ((w.alloc (.cells #[.int .i64 0, .int .i64 0, .int .i64 0, .int .i64 0, .int .i64 0, .slice none 0 0, .slice none 0 0] 33)).alloc (.cells #[.slice (some ⟨b, off, none⟩) (at_ + 8 + n) cap, .int .i64 ((at_ : Int) + 8), .bool true] 68)) from
      ⟨(by have h := new_block (w.alloc (.cells #[.int .i64 0, .int .i64 0, .int .i64 0, .int .i64 0, .int .i64 0, .slice none 0 0, .slice none 0 0] 33)) (.cells #[.slice (some ⟨b, off, none⟩) (at_ + 8 + n) cap, .int .i64 ((at_ : Int) + 8), .bool true] 68); simp only [World.size_alloc] at h; exact h), (HV.out.take _ hend).below (alloc_one _ _), HY.out.take _, by rw [List.length_take]; omega⟩)
    have HR1 := hid (((alloc_one (w.alloc (.cells #[.int .i64 0, .int .i64 0, .int .i64 0, .int .i64 0, .int .i64 0, .slice none 0 0, .slice none 0 0] 33)) (.cells #[.slice (some ⟨b, off, none⟩) (at_ + 8 + n) cap, .int .i64 ((at_ : Int) + 8), .bool true] 68)).block _ (lt_of_block HR0.out)).trans HR0.out)
    refine (rdrRecord_any _ _ _ _ _ D0.out).mono ?_
    rintro e w2 ⟨f0, f1, f2, f3, f4, sv, pv, ys, ps, q, a, ok, rfl, hrd, hset, hprs, hsav, htold⟩
    have HT := hid htold
    obtain ⟨so, sc, hso⟩ := owns_slice hset
    obtain ⟨po, pc, hpo⟩ := owns_slice hprs
    subst hso hpo
    have HR2 := hid (hsav.at HR1.out (fun e => by unfold Just at e; omega))
    have HB2 := hid (HB1.out.trans (hsav.below (fun k hk => by unfold Just at hk; omega) HB1.out.size))
    have A3 := hid (alloc_one w2 (.cells #[.int .i64 f0, .int .i64 f1, .int .i64 f2, .int .i64 f3, .int .i64 f4, .slice so ys.length sc, .slice po ps.length pc] 33))
    have HB3 := hid (below_then HB2.out A3.out HB2.out.size)
    have HR3 := hid ((A3.out.block _ (lt_of_block HR2.out)).trans HR2.out)
    have HD3 := hid (hrd.below A3.out)
    have HX3 := hid (show RecX.Own w.heap.size ⟨⟨f0, f1, f2, f3, f4, ys, ps⟩, so, sc, po, pc⟩ (w2.alloc (.cells #[.int .i64 f0, .int .i64 f1, .int .i64 f2, .int .i64 f3, .int .i64 f4, .slice so ys.length sc, .slice po ps.length pc] 33)) from ⟨owns_low (owns_below hset A3.out) HB1.out.size, owns_low (owns_below hprs A3.out) HB1.out.size⟩)
    have HN3 := hid (new_block w2 (.cells #[.int .i64 f0, .int .i64 f1, .int .i64 f2, .int .i64 f3, .int .i64 f4, .slice so ys.length sc, .slice po ps.length pc] 33))
    have hlen := hid (show (l.take (at_ + 8 + n)).length = at_ + 8 + n by rw [List.length_take]; omega)
    clear hrd hset hprs hsav htold HR2 HB2 A3 HR1 D0 HB1 HV HB0 HR0
    have k1 : (w2.alloc (.cells #[.int .i64 f0, .int .i64 f1, .int .i64 f2, .int .i64 f3, .int .i64 f4, .slice so ys.length sc, .slice po ps.length pc] 33)).cell? ⟨w.heap.size + 1, 1, none⟩ = some (.int .i64 (a : Int)) := cell_of_cells HD3.out.blk
    have k2 : (w2.alloc (.cells #[.int .i64 f0, .int .i64 f1, .int .i64 f2, .int .i64 f3, .int .i64 f4, .slice so ys.length sc, .slice po ps.length pc] 33)).cell? ⟨w.heap.size + 1, 2, none⟩ = some (.bool ok) := cell_of_cells HD3.out.blk
    cases ok with
    | false =>
      have HN := hid (none_body HA.out HZ.out (HT.out.none (.inl rfl)))
      have z0 : (w2.alloc (.cells #[.int .i64 f0, .int .i64 f1, .int .i64 f2, .int .i64 f3, .int .i64 f4, .slice so ys.length sc, .slice po ps.length pc] 33)).cell? ⟨w.heap.size, 0, none⟩ = some (.int .i64 0) := cell_of_cells HR3.out
      have y0 : (w2.alloc (.cells #[.int .i64 f0, .int .i64 f1, .int .i64 f2, .int .i64 f3, .int .i64 f4, .slice so ys.length sc, .slice po ps.length pc] 33)).frozen? ⟨w.heap.size, 0, none⟩ = false := free_of_cells HR3.out
      have z1 : (w2.alloc (.cells #[.int .i64 f0, .int .i64 f1, .int .i64 f2, .int .i64 f3, .int .i64 f4, .slice so ys.length sc, .slice po ps.length pc] 33)).cell? ⟨w.heap.size, 1, none⟩ = some (.int .i64 0) := cell_of_cells HR3.out
      have y1 : (w2.alloc (.cells #[.int .i64 f0, .int .i64 f1, .int .i64 f2, .int .i64 f3, .int .i64 f4, .slice so ys.length sc, .slice po ps.length pc] 33)).frozen? ⟨w.heap.size, 1, none⟩ = false := free_of_cells HR3.out
      have z2 : (w2.alloc (.cells #[.int .i64 f0, .int .i64 f1, .int .i64 f2, .int .i64 f3, .int .i64 f4, .slice so ys.length sc, .slice po ps.length pc] 33)).cell? ⟨w.heap.size, 2, none⟩ = some (.int .i64 0) := cell_of_cells HR3.out
      have y2 : (w2.alloc (.cells #[.int .i64 f0, .int .i64 f1, .int .i64 f2, .int .i64 f3, .int .i64 f4, .slice so ys.length sc, .slice po ps.length pc] 33)).frozen? ⟨w.heap.size, 2, none⟩ = false := free_of_cells HR3.out
      have z3 : (w2.alloc (.cells #[.int .i64 f0, .int .i64 f1, .int .i64 f2, .int .i64 f3, .int .i64 f4, .slice so ys.length sc, .slice po ps.length pc] 33)).cell? ⟨w.heap.size, 3, none⟩ = some (.int .i64 0) := cell_of_cells HR3.out
      have y3 : (w2.alloc (.cells #[.int .i64 f0, .int .i64 f1, .int .i64 f2, .int .i64 f3, .int .i64 f4, .slice so ys.length sc, .slice po ps.length pc] 33)).frozen? ⟨w.heap.size, 3, none⟩ = false := free_of_cells HR3.out
      have z4 : (w2.alloc (.cells #[.int .i64 f0, .int .i64 f1, .int .i64 f2, .int .i64 f3, .int .i64 f4, .slice so ys.length sc, .slice po ps.length pc] 33)).cell? ⟨w.heap.size, 4, none⟩ = some (.int .i64 0) := cell_of_cells HR3.out
      have y4 : (w2.alloc (.cells #[.int .i64 f0, .int .i64 f1, .int .i64 f2, .int .i64 f3, .int .i64 f4, .slice so ys.length sc, .slice po ps.length pc] 33)).frozen? ⟨w.heap.size, 4, none⟩ = false := free_of_cells HR3.out
      have z5 : (w2.alloc (.cells #[.int .i64 f0, .int .i64 f1, .int .i64 f2, .int .i64 f3, .int .i64 f4, .slice so ys.length sc, .slice po ps.length pc] 33)).cell? ⟨w.heap.size, 5, none⟩ = some (.slice none 0 0) := cell_of_cells HR3.out
      have y5 : (w2.alloc (.cells #[.int .i64 f0, .int .i64 f1, .int .i64 f2, .int .i64 f3, .int .i64 f4, .slice so ys.length sc, .slice po ps.length pc] 33)).frozen? ⟨w.heap.size, 5, none⟩ = false := free_of_cells HR3.out
      have z6 : (w2.alloc (.cells #[.int .i64 f0, .int .i64 f1, .int .i64 f2, .int .i64 f3, .int .i64 f4, .slice so ys.length sc, .slice po ps.length pc] 33)).cell? ⟨w.heap.size, 6, none⟩ = some (.slice none 0 0) := cell_of_cells HR3.out
      have y6 : (w2.alloc (.cells #[.int .i64 f0, .int .i64 f1, .int .i64 f2, .int .i64 f3, .int .i64 f4, .slice so ys.length sc, .slice po ps.length pc] 33)).frozen? ⟨w.heap.size, 6, none⟩ = false := free_of_cells HR3.out
      go_wp2
      have hblk := seven_heap HR3.out (.int .i64 0) (.int .i64 0) (.int .i64 0) (.int .i64 0) (.int .i64 0) (.slice none 0 0) (.slice none 0 0)
      refine bodyPost_ret (results_cell3 rfl _ _ w.heap.size 33 _ (0, 0) _ (by rfl) hblk Try.underlying33 rfl (by kernel_rfl)) rfl ?_
      exact ⟨seven_below HB3.out (Nat.le_refl _) HR3.out (.int .i64 0) (.int .i64 0) (.int .i64 0) (.int .i64 0) (.int .i64 0) (.slice none 0 0) (.slice none 0 0), .inr ⟨rfl, HN.out⟩⟩
    | true =>
    by_cases hae : a = at_ + 8 + n
    rotate_left
    · have hne : ((a : Int) != (at_ : Int) + 8 + (n : Int)) = true := by simp; omega
      have HN := hid (none_body HA.out HZ.out (HT.out.none (.inr (.inl (by rw [hlen.out]; exact hae)))))
      clear hae
      have z0 : (w2.alloc (.cells #[.int .i64 f0, .int .i64 f1, .int .i64 f2, .int .i64 f3, .int .i64 f4, .slice so ys.length sc, .slice po ps.length pc] 33)).cell? ⟨w.heap.size, 0, none⟩ = some (.int .i64 0) := cell_of_cells HR3.out
      have y0 : (w2.alloc (.cells #[.int .i64 f0, .int .i64 f1, .int .i64 f2, .int .i64 f3, .int .i64 f4, .slice so ys.length sc, .slice po ps.length pc] 33)).frozen? ⟨w.heap.size, 0, none⟩ = false := free_of_cells HR3.out
      have z1 : (w2.alloc (.cells #[.int .i64 f0, .int .i64 f1, .int .i64 f2, .int .i64 f3, .int .i64 f4, .slice so ys.length sc, .slice po ps.length pc] 33)).cell? ⟨w.heap.size, 1, none⟩ = some (.int .i64 0) := cell_of_cells HR3.out
      have y1 : (w2.alloc (.cells #[.int .i64 f0, .int .i64 f1, .int .i64 f2, .int .i64 f3, .int .i64 f4, .slice so ys.length sc, .slice po ps.length pc] 33)).frozen? ⟨w.heap.size, 1, none⟩ = false := free_of_cells HR3.out
      have z2 : (w2.alloc (.cells #[.int .i64 f0, .int .i64 f1, .int .i64 f2, .int .i64 f3, .int .i64 f4, .slice so ys.length sc, .slice po ps.length pc] 33)).cell? ⟨w.heap.size, 2, none⟩ = some (.int .i64 0) := cell_of_cells HR3.out
      have y2 : (w2.alloc (.cells #[.int .i64 f0, .int .i64 f1, .int .i64 f2, .int .i64 f3, .int .i64 f4, .slice so ys.length sc, .slice po ps.length pc] 33)).frozen? ⟨w.heap.size, 2, none⟩ = false := free_of_cells HR3.out
      have z3 : (w2.alloc (.cells #[.int .i64 f0, .int .i64 f1, .int .i64 f2, .int .i64 f3, .int .i64 f4, .slice so ys.length sc, .slice po ps.length pc] 33)).cell? ⟨w.heap.size, 3, none⟩ = some (.int .i64 0) := cell_of_cells HR3.out
      have y3 : (w2.alloc (.cells #[.int .i64 f0, .int .i64 f1, .int .i64 f2, .int .i64 f3, .int .i64 f4, .slice so ys.length sc, .slice po ps.length pc] 33)).frozen? ⟨w.heap.size, 3, none⟩ = false := free_of_cells HR3.out
      have z4 : (w2.alloc (.cells #[.int .i64 f0, .int .i64 f1, .int .i64 f2, .int .i64 f3, .int .i64 f4, .slice so ys.length sc, .slice po ps.length pc] 33)).cell? ⟨w.heap.size, 4, none⟩ = some (.int .i64 0) := cell_of_cells HR3.out
      have y4 : (w2.alloc (.cells #[.int .i64 f0, .int .i64 f1, .int .i64 f2, .int .i64 f3, .int .i64 f4, .slice so ys.length sc, .slice po ps.length pc] 33)).frozen? ⟨w.heap.size, 4, none⟩ = false := free_of_cells HR3.out
      have z5 : (w2.alloc (.cells #[.int .i64 f0, .int .i64 f1, .int .i64 f2, .int .i64 f3, .int .i64 f4, .slice so ys.length sc, .slice po ps.length pc] 33)).cell? ⟨w.heap.size, 5, none⟩ = some (.slice none 0 0) := cell_of_cells HR3.out
      have y5 : (w2.alloc (.cells #[.int .i64 f0, .int .i64 f1, .int .i64 f2, .int .i64 f3, .int .i64 f4, .slice so ys.length sc, .slice po ps.length pc] 33)).frozen? ⟨w.heap.size, 5, none⟩ = false := free_of_cells HR3.out
      have z6 : (w2.alloc (.cells #[.int .i64 f0, .int .i64 f1, .int .i64 f2, .int .i64 f3, .int .i64 f4, .slice so ys.length sc, .slice po ps.length pc] 33)).cell? ⟨w.heap.size, 6, none⟩ = some (.slice none 0 0) := cell_of_cells HR3.out
      have y6 : (w2.alloc (.cells #[.int .i64 f0, .int .i64 f1, .int .i64 f2, .int .i64 f3, .int .i64 f4, .slice so ys.length sc, .slice po ps.length pc] 33)).frozen? ⟨w.heap.size, 6, none⟩ = false := free_of_cells HR3.out
      go_wp2
      have hblk := seven_heap HR3.out (.int .i64 0) (.int .i64 0) (.int .i64 0) (.int .i64 0) (.int .i64 0) (.slice none 0 0) (.slice none 0 0)
      refine bodyPost_ret (results_cell3 rfl _ _ w.heap.size 33 _ (0, 0) _ (by rfl) hblk Try.underlying33 rfl (by kernel_rfl)) rfl ?_
      exact ⟨seven_below HB3.out (Nat.le_refl _) HR3.out (.int .i64 0) (.int .i64 0) (.int .i64 0) (.int .i64 0) (.int .i64 0) (.slice none 0 0) (.slice none 0 0), .inr ⟨rfl, HN.out⟩⟩
    have hne : ((a : Int) != (at_ : Int) + 8 + (n : Int)) = false := by simp; omega
    have HT2 := hid (show Told (l.take (at_ + 8 + n)) (at_ + 8) f0 f1 f2 f3 f4 ys ps q (l.take (at_ + 8 + n)).length true by have h := HT.out; rw [hae] at h; rw [hlen.out]; exact h)
    clear hae HT
    go_wp2_with fail
    refine (recMay_any ⟨f0, f1, f2, f3, f4, ys, ps⟩ so sc po pc _ HX3.out.is).mono ?_
    rintro e w4 ⟨rfl, hb4⟩
    have HB4 := hid (below_then HB3.out hb4 HB3.out.size)
    have HR4 := hid ((hb4.block _ (lt_of_block HR3.out)).trans HR3.out)
    have HN4 := hid ((hb4.block _ (lt_of_block HN3.out)).trans HN3.out)
    have HX4 := hid (HX3.out.below hb4)
    clear hb4 k1 k2 HB3 HR3 HN3 HX3 HD3
    obtain ⟨g, hg⟩ : ∃ g, mayR ⟨f0, f1, f2, f3, f4, ys, ps⟩ = g := ⟨_, rfl⟩
    have HG := hid hg
    rw [hg]
    clear hg
    cases g
    · have HN := hid (none_body HA.out HZ.out (HT2.out.none (.inr (.inr HG.out))))
      have z0 : w4.cell? ⟨w.heap.size, 0, none⟩ = some (.int .i64 0) := cell_of_cells HR4.out
      have y0 : w4.frozen? ⟨w.heap.size, 0, none⟩ = false := free_of_cells HR4.out
      have z1 : w4.cell? ⟨w.heap.size, 1, none⟩ = some (.int .i64 0) := cell_of_cells HR4.out
      have y1 : w4.frozen? ⟨w.heap.size, 1, none⟩ = false := free_of_cells HR4.out
      have z2 : w4.cell? ⟨w.heap.size, 2, none⟩ = some (.int .i64 0) := cell_of_cells HR4.out
      have y2 : w4.frozen? ⟨w.heap.size, 2, none⟩ = false := free_of_cells HR4.out
      have z3 : w4.cell? ⟨w.heap.size, 3, none⟩ = some (.int .i64 0) := cell_of_cells HR4.out
      have y3 : w4.frozen? ⟨w.heap.size, 3, none⟩ = false := free_of_cells HR4.out
      have z4 : w4.cell? ⟨w.heap.size, 4, none⟩ = some (.int .i64 0) := cell_of_cells HR4.out
      have y4 : w4.frozen? ⟨w.heap.size, 4, none⟩ = false := free_of_cells HR4.out
      have z5 : w4.cell? ⟨w.heap.size, 5, none⟩ = some (.slice none 0 0) := cell_of_cells HR4.out
      have y5 : w4.frozen? ⟨w.heap.size, 5, none⟩ = false := free_of_cells HR4.out
      have z6 : w4.cell? ⟨w.heap.size, 6, none⟩ = some (.slice none 0 0) := cell_of_cells HR4.out
      have y6 : w4.frozen? ⟨w.heap.size, 6, none⟩ = false := free_of_cells HR4.out
      go_wp2
      have hblk := seven_heap HR4.out (.int .i64 0) (.int .i64 0) (.int .i64 0) (.int .i64 0) (.int .i64 0) (.slice none 0 0) (.slice none 0 0)
      refine bodyPost_ret (results_cell3 rfl _ _ w.heap.size 33 _ (0, 0) _ (by rfl) hblk Try.underlying33 rfl (by kernel_rfl)) rfl ?_
      exact ⟨seven_below HB4.out (Nat.le_refl _) HR4.out (.int .i64 0) (.int .i64 0) (.int .i64 0) (.int .i64 0) (.int .i64 0) (.slice none 0 0) (.slice none 0 0), .inr ⟨rfl, HN.out⟩⟩
    obtain ⟨hhas, hlay⟩ := one_back HY.out HA.out HZ.out hend (HT2.out.some HG.out)
    have HH := hid hhas
    have HL := hid hlay
    clear hhas hlay
    have c0 : w4.cell? ⟨w2.heap.size, 0, none⟩ = some (.int .i64 f0) := cell_of_cells HN4.out
    have c1 : w4.cell? ⟨w2.heap.size, 1, none⟩ = some (.int .i64 f1) := cell_of_cells HN4.out
    have c2 : w4.cell? ⟨w2.heap.size, 2, none⟩ = some (.int .i64 f2) := cell_of_cells HN4.out
    have c3 : w4.cell? ⟨w2.heap.size, 3, none⟩ = some (.int .i64 f3) := cell_of_cells HN4.out
    have c4 : w4.cell? ⟨w2.heap.size, 4, none⟩ = some (.int .i64 f4) := cell_of_cells HN4.out
    have c5 : w4.cell? ⟨w2.heap.size, 5, none⟩ = some (.slice so ys.length sc) := cell_of_cells HN4.out
    have c6 : w4.cell? ⟨w2.heap.size, 6, none⟩ = some (.slice po ps.length pc) := cell_of_cells HN4.out
    have z0 : w4.cell? ⟨w.heap.size, 0, none⟩ = some (.int .i64 0) := cell_of_cells HR4.out
    have y0 : w4.frozen? ⟨w.heap.size, 0, none⟩ = false := free_of_cells HR4.out
    have z1 : w4.cell? ⟨w.heap.size, 1, none⟩ = some (.int .i64 0) := cell_of_cells HR4.out
    have y1 : w4.frozen? ⟨w.heap.size, 1, none⟩ = false := free_of_cells HR4.out
    have z2 : w4.cell? ⟨w.heap.size, 2, none⟩ = some (.int .i64 0) := cell_of_cells HR4.out
    have y2 : w4.frozen? ⟨w.heap.size, 2, none⟩ = false := free_of_cells HR4.out
    have z3 : w4.cell? ⟨w.heap.size, 3, none⟩ = some (.int .i64 0) := cell_of_cells HR4.out
    have y3 : w4.frozen? ⟨w.heap.size, 3, none⟩ = false := free_of_cells HR4.out
    have z4 : w4.cell? ⟨w.heap.size, 4, none⟩ = some (.int .i64 0) := cell_of_cells HR4.out
    have y4 : w4.frozen? ⟨w.heap.size, 4, none⟩ = false := free_of_cells HR4.out
    have z5 : w4.cell? ⟨w.heap.size, 5, none⟩ = some (.slice none 0 0) := cell_of_cells HR4.out
    have y5 : w4.frozen? ⟨w.heap.size, 5, none⟩ = false := free_of_cells HR4.out
    have z6 : w4.cell? ⟨w.heap.size, 6, none⟩ = some (.slice none 0 0) := cell_of_cells HR4.out
    have y6 : w4.frozen? ⟨w.heap.size, 6, none⟩ = false := free_of_cells HR4.out
    go_wp2
    have hblk := seven_heap HR4.out (.int .i64 f0) (.int .i64 f1) (.int .i64 f2) (.int .i64 f3) (.int .i64 f4) (.slice so ys.length sc) (.slice po ps.length pc)
    have hs7 := (set_seven HR4.out (.int .i64 f0) (.int .i64 f1) (.int .i64 f2) (.int .i64 f3) (.int .i64 f4) (.slice so ys.length sc) (.slice po ps.length pc)).2
    refine bodyPost_ret (results_cell3 rfl _ _ w.heap.size 33 _ (0, 0) _ (by rfl) hblk Try.underlying33 rfl (by kernel_rfl)) rfl ?_
    refine ⟨seven_below HB4.out (Nat.le_refl _) HR4.out (.int .i64 f0) (.int .i64 f1) (.int .i64 f2) (.int .i64 f3) (.int .i64 f4) (.slice so ys.length sc) (.slice po ps.length pc), .inl ⟨⟨⟨f0, f1, f2, f3, f4, ys, ps⟩, so, sc, po, pc⟩, ?_, HH.out, owns_sav HX4.out.set hs7 (fun g hg e => owns_ne HX4.out.set HR4.out (by decide) (by rw [hg, e])), owns_sav HX4.out.prs hs7 (fun g hg e => owns_ne HX4.out.prs HR4.out (by decide) (by rw [hg, e]))⟩⟩
    have he : ((at_ : Int) + 8 + (n : Int)) = ((at_ + (layR ⟨f0, f1, f2, f3, f4, ys, ps⟩).length : Nat) : Int) := by rw [HL.out]; omega
    rw [← he]
    rfl
end Go.Proofs.Ytpkobobandcclaa
