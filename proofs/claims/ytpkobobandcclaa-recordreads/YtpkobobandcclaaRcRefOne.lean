/- The document's own reading of one record. -/
import Derived.Test.YtpkobobandcclaaRcQs
namespace Go.Proofs.Ytpkobobandcclaa
open Go.RowKit
set_option linter.unusedVariables false

set_option maxRecDepth 100000 in
set_option maxHeartbeats 16000000 in
theorem refOne_any (v : Value) (l : List Int) (w : World) (hv : Bs w v l) (hB : Byt l) (hl : l.length ≤ 1000000) :
    Calls Try.prog 36 #[v] w (OneIs l 0 0 w) := by
  have HB0 := hid (alloc_one w (.cells #[.int .i64 0, .int .i64 0, .int .i64 0, .int .i64 0, .int .i64 0, .slice none 0 0, .slice none 0 0] 33))
  have HR0 := hid (new_block w (.cells #[.int .i64 0, .int .i64 0, .int .i64 0, .int .i64 0, .int .i64 0, .slice none 0 0, .slice none 0 0] 33))
  have HV0 := hid hv
  have HV := hid (hv.below HB0.out)
  have HY := hid hB
  obtain ⟨vo, cap, rfl, v1, v2, v3, -⟩ := hv
  unfold maxLen at v2
  clear hB
  rcases hz : rdNum l 0 with ⟨x, y, z⟩
  have HZ := hid (show rdNum l ((0 : Nat) : Int) = (x, y, z) from hz)
  have HZ' := hid hz
  have HA := hid (Nat.zero_le l.length)
  cases z with
  | false =>
    clear hz
    go_enter Try.func36, Try.ntmps36
    go_wp2_with fail
    refine (rreadnum_any _ l 0 _ HV.out HY.out).mono ?_
    rw [HZ'.out]
    rintro e w1 ⟨rfl, rfl⟩
    go_wp2
    refine bodyPost_ret (results_cell3 rfl _ _ w.heap.size 33 _ (0, 0) _ (by rfl) HR0.out Try.underlying33 rfl (by kernel_rfl)) rfl ?_
    exact ⟨HB0.out, .inr ⟨rfl, none_num HA.out HZ.out⟩⟩
  | true =>
    obtain ⟨p1, rfl, p3, p4⟩ := rd_pre HY.out HZ.out
    clear hz p4
    by_cases h0 : x < 0
    · have hd0 : decide (x < 0) = true := by simpa using h0
      have HN := hid (none_size HA.out HZ.out (.inl h0))
      clear h0
      go_enter Try.func36, Try.ntmps36
      go_wp2_with fail
      refine (rreadnum_any _ l 0 _ HV.out HY.out).mono ?_
      rw [HZ'.out]
      rintro e w1 ⟨rfl, rfl⟩
      go_wp2
      refine bodyPost_ret (results_cell3 rfl _ _ w.heap.size 33 _ (0, 0) _ (by rfl) HR0.out Try.underlying33 rfl (by kernel_rfl)) rfl ?_
      exact ⟨HB0.out, .inr ⟨rfl, HN.out⟩⟩
    obtain ⟨n, rfl⟩ := Int.eq_ofNat_of_zero_le (show 0 ≤ x by omega)
    have hd0 : decide ((n : Int) < 0) = false := by simp
    clear h0
    by_cases h1 : (l.length : Int) - 8 < n
    · have hd1 : decide ((l.length : Int) - 8 < (n : Int)) = true := by simpa using h1
      have HN := hid (none_size HA.out HZ.out (.inr (by omega)))
      clear h1
      go_enter Try.func36, Try.ntmps36
      go_wp2_with fail
      refine (rreadnum_any _ l 0 _ HV.out HY.out).mono ?_
      rw [HZ'.out]
      rintro e w1 ⟨rfl, rfl⟩
      go_wp2
      refine bodyPost_ret (results_cell3 rfl _ _ w.heap.size 33 _ (0, 0) _ (by rfl) HR0.out Try.underlying33 rfl (by kernel_rfl)) rfl ?_
      exact ⟨HB0.out, .inr ⟨rfl, HN.out⟩⟩
    have hd1 : decide ((l.length : Int) - 8 < (n : Int)) = false := by simpa using h1
    have hend : 8 + n ≤ l.length := by omega
    clear h1
    obtain ⟨b, off, rfl⟩ : ∃ b off, vo = some ⟨b, off, none⟩ := by
      obtain ⟨ao, cap', e, _, _, _, h4⟩ := HV.out
      cases e
      obtain ⟨b, off, e, _⟩ := h4 (by intro e; rw [e] at hend; simp at hend)
      exact ⟨b, off, e⟩
    go_enter Try.func36, Try.ntmps36
    go_wp2_with fail
    refine (rreadnum_any _ l 0 _ HV.out HY.out).mono ?_
    rw [HZ'.out]
    rintro e w1 ⟨rfl, rfl⟩
    obtain ⟨c, hc⟩ : ∃ c, l.take (8 + n) = c := ⟨_, rfl⟩
    have HC := hid hc
    have hcl : c.length = 8 + n := by rw [← hc, List.length_take]; omega
    have HBC := hid (show Bs w (.slice (some ⟨b, off, none⟩) (8 + n) cap) c by rw [← hc]; exact HV0.out.take _ hend)
    have HYC := hid (show Byt c by rw [← hc]; exact HY.out.take _)
    have HN0 := hid (show (∀ r, ¬ Body c 8 r) → HasNone (l.drop 0) from fun h => none_body HA.out HZ.out (by rw [show 0 + 8 + n = 8 + n by omega, HC.out]; exact h))
    have HS0 := hid (show ∀ r, Body c 8 r → Has (l.drop 0) r ∧ (layR r).length = 8 + n from fun r h => one_back HY.out HA.out HZ.out (by omega) (by rw [show 0 + 8 + n = 8 + n by omega, HC.out]; exact h))
    have HB1 := hid (below_then HB0.out (alloc_one _ (.cells #[.int .i64 0, .int .i64 0, .int .i64 0, .int .i64 0, .int .i64 0, .int .i64 0] 58)) HB0.out.size)
    have HR1 := hid (((alloc_one (w.alloc (.cells #[.int .i64 0, .int .i64 0, .int .i64 0, .int .i64 0, .int .i64 0, .slice none 0 0, .slice none 0 0] 33)) (.cells #[.int .i64 0, .int .i64 0, .int .i64 0, .int .i64 0, .int .i64 0, .int .i64 0] 58)).block _ (lt_of_block HR0.out)).trans HR0.out)
    have HF1 := hid (show Arr (w.heap.size + 1) [] ((w.alloc (.cells #[.int .i64 0, .int .i64 0, .int .i64 0, .int .i64 0, .int .i64 0, .slice none 0 0, .slice none 0 0] 33)).alloc (.cells #[.int .i64 0, .int .i64 0, .int .i64 0, .int .i64 0, .int .i64 0, .int .i64 0] 58)) by
      have h := Arr.start (w.alloc (.cells #[.int .i64 0, .int .i64 0, .int .i64 0, .int .i64 0, .int .i64 0, .slice none 0 0, .slice none 0 0] 33)) #[.int .i64 0, .int .i64 0, .int .i64 0, .int .i64 0, .int .i64 0, .int .i64 0] rfl
      simp only [World.size_alloc] at h
      exact h)
    have HG0 := hid (Got.start c 8 (by omega))
    clear hc HV HV0
    go_wp2
    go_loopw [6, 7, 9] (fun pa po i wr => ∃ (k q : Nat) (xs : List Int), xs.length = k ∧ k ≤ 6 ∧ pa = .int .i64 q ∧ po = .bool true ∧ i = .int .i64 k ∧ Got c 8 xs q ∧ Arr (w.heap.size + 1) xs wr ∧ wr.heap[w.heap.size]? = some (.cells #[.int .i64 0, .int .i64 0, .int .i64 0, .int .i64 0, .int .i64 0, .slice none 0 0, .slice none 0 0] 33 (0, 0)) ∧ Below w.heap.size w wr) (fun _ _ i _ => 6 - (intOf i).toNat)
    case atStart => exact ⟨0, 8, [], rfl, by omega, rfl, rfl, rfl, HG0.out, HF1.out, HR1.out, HB1.out⟩
    case round =>
      obtain ⟨k, q, xs, hxl, hk, rfl, rfl, rfl, hg, harr, hres, hbw⟩ := hrel
      have HG := hid hg
      have HR := hid harr
      have HE := hid hres
      have HW := hid hbw
      have HL := hid hxl
      have hlow := hbw.size
      clear hg harr hres hbw HG0 HF1 HR1 HB1
      by_cases hlt : k < 6
      · have hd : decide ((k : Int) < 6) = true := by simp; omega
        rcases hz : rdNum c q with ⟨x, y, z⟩
        have HZ2 := hid hz
        clear hz hxl
        obtain ⟨fv, hfv⟩ := HR.out.some hlt
        have hff := HR.out.free k
        have hkk : (k : Int) < 6 := by omega
        have hs := (Sav.refl (Just (w.heap.size + 1)) wr).setCell (just (w.heap.size + 1)) k (.int .i64 x)
        have HE5 := hid (hs.at HE.out (fun e => by unfold Just at e; omega))
        have HW5 := hid (HW.out.trans (hs.below (fun j hj => by unfold Just at hj; omega) hlow))
        have HR5 := hid (show Arr (w.heap.size + 1) (xs ++ [x]) (wr.setCell ⟨(w.heap.size + 1), k, none⟩ (.int .i64 x)) by
          have h := HR.out.push x (by rw [HL.out]; exact hlt)
          rw [HL.out] at h
          exact h)
        clear hs
        cases z with
        | false =>
          have HN := hid (HN0.out (rd_lost HG.out HZ2.out (fun r _ => nums_lt r (by rw [HL.out]; omega))))
          go_wp2_with fail
          refine (rreadnum_any _ c q _ (HBC.out.below HW.out) HYC.out).mono ?_
          rw [HZ2.out]
          rintro e w1 ⟨rfl, rfl⟩
          have z0 : (wr.setCell ⟨(w.heap.size + 1), k, none⟩ (.int .i64 x)).cell? ⟨w.heap.size, 0, none⟩ = some (.int .i64 0) := cell_of_cells HE5.out
          have y0 : (wr.setCell ⟨(w.heap.size + 1), k, none⟩ (.int .i64 x)).frozen? ⟨w.heap.size, 0, none⟩ = false := free_of_cells HE5.out
          have z1 : (wr.setCell ⟨(w.heap.size + 1), k, none⟩ (.int .i64 x)).cell? ⟨w.heap.size, 1, none⟩ = some (.int .i64 0) := cell_of_cells HE5.out
          have y1 : (wr.setCell ⟨(w.heap.size + 1), k, none⟩ (.int .i64 x)).frozen? ⟨w.heap.size, 1, none⟩ = false := free_of_cells HE5.out
          have z2 : (wr.setCell ⟨(w.heap.size + 1), k, none⟩ (.int .i64 x)).cell? ⟨w.heap.size, 2, none⟩ = some (.int .i64 0) := cell_of_cells HE5.out
          have y2 : (wr.setCell ⟨(w.heap.size + 1), k, none⟩ (.int .i64 x)).frozen? ⟨w.heap.size, 2, none⟩ = false := free_of_cells HE5.out
          have z3 : (wr.setCell ⟨(w.heap.size + 1), k, none⟩ (.int .i64 x)).cell? ⟨w.heap.size, 3, none⟩ = some (.int .i64 0) := cell_of_cells HE5.out
          have y3 : (wr.setCell ⟨(w.heap.size + 1), k, none⟩ (.int .i64 x)).frozen? ⟨w.heap.size, 3, none⟩ = false := free_of_cells HE5.out
          have z4 : (wr.setCell ⟨(w.heap.size + 1), k, none⟩ (.int .i64 x)).cell? ⟨w.heap.size, 4, none⟩ = some (.int .i64 0) := cell_of_cells HE5.out
          have y4 : (wr.setCell ⟨(w.heap.size + 1), k, none⟩ (.int .i64 x)).frozen? ⟨w.heap.size, 4, none⟩ = false := free_of_cells HE5.out
          have z5 : (wr.setCell ⟨(w.heap.size + 1), k, none⟩ (.int .i64 x)).cell? ⟨w.heap.size, 5, none⟩ = some (.slice none 0 0) := cell_of_cells HE5.out
          have y5 : (wr.setCell ⟨(w.heap.size + 1), k, none⟩ (.int .i64 x)).frozen? ⟨w.heap.size, 5, none⟩ = false := free_of_cells HE5.out
          have z6 : (wr.setCell ⟨(w.heap.size + 1), k, none⟩ (.int .i64 x)).cell? ⟨w.heap.size, 6, none⟩ = some (.slice none 0 0) := cell_of_cells HE5.out
          have y6 : (wr.setCell ⟨(w.heap.size + 1), k, none⟩ (.int .i64 x)).frozen? ⟨w.heap.size, 6, none⟩ = false := free_of_cells HE5.out
          go_wp2
          have hblk := seven_heap HE5.out (.int .i64 0) (.int .i64 0) (.int .i64 0) (.int .i64 0) (.int .i64 0) (.slice none 0 0) (.slice none 0 0)
          try simp only [Exit.inBlock, Exit.then]
          refine bodyPost_ret (results_cell3 rfl _ _ w.heap.size 33 _ (0, 0) _ (by rfl) hblk Try.underlying33 rfl (by kernel_rfl)) rfl ?_
          exact ⟨seven_below HW5.out (Nat.le_refl _) HE5.out (.int .i64 0) (.int .i64 0) (.int .i64 0) (.int .i64 0) (.int .i64 0) (.slice none 0 0) (.slice none 0 0), .inr ⟨rfl, HN.out⟩⟩
        | true =>
          obtain ⟨hy, hg2⟩ := rd_got HYC.out HG.out HZ2.out
          have HG2 := hid hg2
          subst hy
          clear hg2
          go_wp2_with fail
          refine (rreadnum_any _ c q _ (HBC.out.below HW.out) HYC.out).mono ?_
          rw [HZ2.out]
          rintro e w1 ⟨rfl, rfl⟩
          go_wp2
          go_roundw
          case rel => exact ⟨k + 1, q + 8, xs ++ [x], by rw [List.length_append, HL.out]; rfl, by omega, rfl, rfl, by go_num, HG2.out, HR5.out, HE5.out, HW5.out⟩
          case measure => simp [intOf]; omega
      · have hd : decide ((k : Int) < 6) = false := by simp; omega
        rename World => wa
        obtain ⟨f0, f1, f2, f3, f4, f5, rfl⟩ : ∃ f0 f1 f2 f3 f4 f5, xs = [f0, f1, f2, f3, f4, f5] := by
          have h6 : xs.length = 6 := by omega
          match xs, h6 with
          | [a0, a1, a2, a3, a4, a5], _ => exact ⟨a0, a1, a2, a3, a4, a5, rfl⟩
        have e0 : wa.cell? ⟨(w.heap.size + 1), 0, none⟩ = some (.int .i64 f0) := HR.out.at rfl
        have e1 : wa.cell? ⟨(w.heap.size + 1), 1, none⟩ = some (.int .i64 f1) := HR.out.at rfl
        have e2 : wa.cell? ⟨(w.heap.size + 1), 2, none⟩ = some (.int .i64 f2) := HR.out.at rfl
        have e3 : wa.cell? ⟨(w.heap.size + 1), 3, none⟩ = some (.int .i64 f3) := HR.out.at rfl
        have e4 : wa.cell? ⟨(w.heap.size + 1), 4, none⟩ = some (.int .i64 f4) := HR.out.at rfl
        have hFlt := HR.out.lt
        have HQ1 := hid (show QS w (w.heap.size + 1) wa.heap.size [f0, f1, f2, f3, f4, f5] f0 f1 f2 f3 f4 (.slice none 0 0) (.slice none 0 0) [] [] (wa.alloc (.cells #[.int .i64 f0, .int .i64 f1, .int .i64 f2, .int .i64 f3, .int .i64 f4, .slice none 0 0, .slice none 0 0] 33)) from ⟨HR.out.on (alloc_one _ _), new_block _ _, World.ownsRow_nil _ _ _ _, World.ownsRow_nil _ _ _ _, ((alloc_one wa _).block _ (lt_of_block HE.out)).trans HE.out, below_then HW.out (alloc_one _ _) hlow, lt_of_block HE.out⟩)
        have e5 : (wa.alloc (.cells #[.int .i64 f0, .int .i64 f1, .int .i64 f2, .int .i64 f3, .int .i64 f4, .slice none 0 0, .slice none 0 0] 33)).cell? ⟨(w.heap.size + 1), 5, none⟩ = some (.int .i64 f5) := HQ1.out.arr.at rfl
        have HSIX := hid (fun r hb => (Got.six HG.out (r := r) hb).2.2.2.2.2)
        clear hxl HL HR HE HW
        by_cases h5 : f5 < 0
        · have hd5 : decide (f5 < 0) = true := by simpa using h5
          have HN := hid (HN0.out (fun r hb => by have := HSIX.out r hb; omega))
          clear h5
          have z0 : (wa.alloc (.cells #[.int .i64 f0, .int .i64 f1, .int .i64 f2, .int .i64 f3, .int .i64 f4, .slice none 0 0, .slice none 0 0] 33)).cell? ⟨w.heap.size, 0, none⟩ = some (.int .i64 0) := cell_of_cells HQ1.out.res
          have y0 : (wa.alloc (.cells #[.int .i64 f0, .int .i64 f1, .int .i64 f2, .int .i64 f3, .int .i64 f4, .slice none 0 0, .slice none 0 0] 33)).frozen? ⟨w.heap.size, 0, none⟩ = false := free_of_cells HQ1.out.res
          have z1 : (wa.alloc (.cells #[.int .i64 f0, .int .i64 f1, .int .i64 f2, .int .i64 f3, .int .i64 f4, .slice none 0 0, .slice none 0 0] 33)).cell? ⟨w.heap.size, 1, none⟩ = some (.int .i64 0) := cell_of_cells HQ1.out.res
          have y1 : (wa.alloc (.cells #[.int .i64 f0, .int .i64 f1, .int .i64 f2, .int .i64 f3, .int .i64 f4, .slice none 0 0, .slice none 0 0] 33)).frozen? ⟨w.heap.size, 1, none⟩ = false := free_of_cells HQ1.out.res
          have z2 : (wa.alloc (.cells #[.int .i64 f0, .int .i64 f1, .int .i64 f2, .int .i64 f3, .int .i64 f4, .slice none 0 0, .slice none 0 0] 33)).cell? ⟨w.heap.size, 2, none⟩ = some (.int .i64 0) := cell_of_cells HQ1.out.res
          have y2 : (wa.alloc (.cells #[.int .i64 f0, .int .i64 f1, .int .i64 f2, .int .i64 f3, .int .i64 f4, .slice none 0 0, .slice none 0 0] 33)).frozen? ⟨w.heap.size, 2, none⟩ = false := free_of_cells HQ1.out.res
          have z3 : (wa.alloc (.cells #[.int .i64 f0, .int .i64 f1, .int .i64 f2, .int .i64 f3, .int .i64 f4, .slice none 0 0, .slice none 0 0] 33)).cell? ⟨w.heap.size, 3, none⟩ = some (.int .i64 0) := cell_of_cells HQ1.out.res
          have y3 : (wa.alloc (.cells #[.int .i64 f0, .int .i64 f1, .int .i64 f2, .int .i64 f3, .int .i64 f4, .slice none 0 0, .slice none 0 0] 33)).frozen? ⟨w.heap.size, 3, none⟩ = false := free_of_cells HQ1.out.res
          have z4 : (wa.alloc (.cells #[.int .i64 f0, .int .i64 f1, .int .i64 f2, .int .i64 f3, .int .i64 f4, .slice none 0 0, .slice none 0 0] 33)).cell? ⟨w.heap.size, 4, none⟩ = some (.int .i64 0) := cell_of_cells HQ1.out.res
          have y4 : (wa.alloc (.cells #[.int .i64 f0, .int .i64 f1, .int .i64 f2, .int .i64 f3, .int .i64 f4, .slice none 0 0, .slice none 0 0] 33)).frozen? ⟨w.heap.size, 4, none⟩ = false := free_of_cells HQ1.out.res
          have z5 : (wa.alloc (.cells #[.int .i64 f0, .int .i64 f1, .int .i64 f2, .int .i64 f3, .int .i64 f4, .slice none 0 0, .slice none 0 0] 33)).cell? ⟨w.heap.size, 5, none⟩ = some (.slice none 0 0) := cell_of_cells HQ1.out.res
          have y5 : (wa.alloc (.cells #[.int .i64 f0, .int .i64 f1, .int .i64 f2, .int .i64 f3, .int .i64 f4, .slice none 0 0, .slice none 0 0] 33)).frozen? ⟨w.heap.size, 5, none⟩ = false := free_of_cells HQ1.out.res
          have z6 : (wa.alloc (.cells #[.int .i64 f0, .int .i64 f1, .int .i64 f2, .int .i64 f3, .int .i64 f4, .slice none 0 0, .slice none 0 0] 33)).cell? ⟨w.heap.size, 6, none⟩ = some (.slice none 0 0) := cell_of_cells HQ1.out.res
          have y6 : (wa.alloc (.cells #[.int .i64 f0, .int .i64 f1, .int .i64 f2, .int .i64 f3, .int .i64 f4, .slice none 0 0, .slice none 0 0] 33)).frozen? ⟨w.heap.size, 6, none⟩ = false := free_of_cells HQ1.out.res
          go_wp2
          have hblk := seven_heap HQ1.out.res (.int .i64 0) (.int .i64 0) (.int .i64 0) (.int .i64 0) (.int .i64 0) (.slice none 0 0) (.slice none 0 0)
          try simp only [Exit.inBlock, Exit.then]
          refine bodyPost_ret (results_cell3 rfl _ _ w.heap.size 33 _ (0, 0) _ (by rfl) hblk Try.underlying33 rfl (by kernel_rfl)) rfl ?_
          exact ⟨seven_below HQ1.out.bel (Nat.le_refl _) HQ1.out.res (.int .i64 0) (.int .i64 0) (.int .i64 0) (.int .i64 0) (.int .i64 0) (.slice none 0 0) (.slice none 0 0), .inr ⟨rfl, HN.out⟩⟩
        obtain ⟨m, rfl⟩ := Int.eq_ofNat_of_zero_le (show 0 ≤ f5 by omega)
        have hd5 : decide ((m : Int) < 0) = false := by simp
        clear h5
        by_cases h10 : 10 < m
        · have hd10 : decide ((10 : Int) < (m : Int)) = true := by simp; omega
          have HN := hid (HN0.out (fun r hb => by have := HSIX.out r hb; have := (may_fit hb.1).slen; omega))
          clear h10
          have z0 : (wa.alloc (.cells #[.int .i64 f0, .int .i64 f1, .int .i64 f2, .int .i64 f3, .int .i64 f4, .slice none 0 0, .slice none 0 0] 33)).cell? ⟨w.heap.size, 0, none⟩ = some (.int .i64 0) := cell_of_cells HQ1.out.res
          have y0 : (wa.alloc (.cells #[.int .i64 f0, .int .i64 f1, .int .i64 f2, .int .i64 f3, .int .i64 f4, .slice none 0 0, .slice none 0 0] 33)).frozen? ⟨w.heap.size, 0, none⟩ = false := free_of_cells HQ1.out.res
          have z1 : (wa.alloc (.cells #[.int .i64 f0, .int .i64 f1, .int .i64 f2, .int .i64 f3, .int .i64 f4, .slice none 0 0, .slice none 0 0] 33)).cell? ⟨w.heap.size, 1, none⟩ = some (.int .i64 0) := cell_of_cells HQ1.out.res
          have y1 : (wa.alloc (.cells #[.int .i64 f0, .int .i64 f1, .int .i64 f2, .int .i64 f3, .int .i64 f4, .slice none 0 0, .slice none 0 0] 33)).frozen? ⟨w.heap.size, 1, none⟩ = false := free_of_cells HQ1.out.res
          have z2 : (wa.alloc (.cells #[.int .i64 f0, .int .i64 f1, .int .i64 f2, .int .i64 f3, .int .i64 f4, .slice none 0 0, .slice none 0 0] 33)).cell? ⟨w.heap.size, 2, none⟩ = some (.int .i64 0) := cell_of_cells HQ1.out.res
          have y2 : (wa.alloc (.cells #[.int .i64 f0, .int .i64 f1, .int .i64 f2, .int .i64 f3, .int .i64 f4, .slice none 0 0, .slice none 0 0] 33)).frozen? ⟨w.heap.size, 2, none⟩ = false := free_of_cells HQ1.out.res
          have z3 : (wa.alloc (.cells #[.int .i64 f0, .int .i64 f1, .int .i64 f2, .int .i64 f3, .int .i64 f4, .slice none 0 0, .slice none 0 0] 33)).cell? ⟨w.heap.size, 3, none⟩ = some (.int .i64 0) := cell_of_cells HQ1.out.res
          have y3 : (wa.alloc (.cells #[.int .i64 f0, .int .i64 f1, .int .i64 f2, .int .i64 f3, .int .i64 f4, .slice none 0 0, .slice none 0 0] 33)).frozen? ⟨w.heap.size, 3, none⟩ = false := free_of_cells HQ1.out.res
          have z4 : (wa.alloc (.cells #[.int .i64 f0, .int .i64 f1, .int .i64 f2, .int .i64 f3, .int .i64 f4, .slice none 0 0, .slice none 0 0] 33)).cell? ⟨w.heap.size, 4, none⟩ = some (.int .i64 0) := cell_of_cells HQ1.out.res
          have y4 : (wa.alloc (.cells #[.int .i64 f0, .int .i64 f1, .int .i64 f2, .int .i64 f3, .int .i64 f4, .slice none 0 0, .slice none 0 0] 33)).frozen? ⟨w.heap.size, 4, none⟩ = false := free_of_cells HQ1.out.res
          have z5 : (wa.alloc (.cells #[.int .i64 f0, .int .i64 f1, .int .i64 f2, .int .i64 f3, .int .i64 f4, .slice none 0 0, .slice none 0 0] 33)).cell? ⟨w.heap.size, 5, none⟩ = some (.slice none 0 0) := cell_of_cells HQ1.out.res
          have y5 : (wa.alloc (.cells #[.int .i64 f0, .int .i64 f1, .int .i64 f2, .int .i64 f3, .int .i64 f4, .slice none 0 0, .slice none 0 0] 33)).frozen? ⟨w.heap.size, 5, none⟩ = false := free_of_cells HQ1.out.res
          have z6 : (wa.alloc (.cells #[.int .i64 f0, .int .i64 f1, .int .i64 f2, .int .i64 f3, .int .i64 f4, .slice none 0 0, .slice none 0 0] 33)).cell? ⟨w.heap.size, 6, none⟩ = some (.slice none 0 0) := cell_of_cells HQ1.out.res
          have y6 : (wa.alloc (.cells #[.int .i64 f0, .int .i64 f1, .int .i64 f2, .int .i64 f3, .int .i64 f4, .slice none 0 0, .slice none 0 0] 33)).frozen? ⟨w.heap.size, 6, none⟩ = false := free_of_cells HQ1.out.res
          go_wp2
          have hblk := seven_heap HQ1.out.res (.int .i64 0) (.int .i64 0) (.int .i64 0) (.int .i64 0) (.int .i64 0) (.slice none 0 0) (.slice none 0 0)
          try simp only [Exit.inBlock, Exit.then]
          refine bodyPost_ret (results_cell3 rfl _ _ w.heap.size 33 _ (0, 0) _ (by rfl) hblk Try.underlying33 rfl (by kernel_rfl)) rfl ?_
          exact ⟨seven_below HQ1.out.bel (Nat.le_refl _) HQ1.out.res (.int .i64 0) (.int .i64 0) (.int .i64 0) (.int .i64 0) (.int .i64 0) (.slice none 0 0) (.slice none 0 0), .inr ⟨rfl, HN.out⟩⟩
        have hd10 : decide ((10 : Int) < (m : Int)) = false := by simp; omega
        have hm10 : m ≤ 10 := by omega
        clear h10
        obtain ⟨i0, hi, hz0, hz1, hz2⟩ := info_parts Try.info3
        obtain ⟨i1, hj, hw0, hw1, hw2⟩ := info_parts Try.infoP
        go_wp2
        clear e0 e1 e2 e3 e4 e5
        go_loopw [6, 11] (fun pa i wr => ∃ (k q : Nat) (sv : Value) (ys : List Int), ys.length = k ∧ k ≤ m ∧ pa = .int .i64 q ∧ i = .int .i64 k ∧ Got c 8 ([f0, f1, f2, f3, f4, (m : Int)] ++ ys) q ∧ QS w (w.heap.size + 1) wa.heap.size [f0, f1, f2, f3, f4, (m : Int)] f0 f1 f2 f3 f4 sv (.slice none 0 0) ys [] wr) (fun _ i _ => m - (intOf i).toNat)
        case atStart => exact ⟨0, q, _, [], rfl, by omega, rfl, rfl, by rw [List.append_nil]; exact HG.out, HQ1.out⟩
        case round =>
          obtain ⟨k2, q2, sv, ys, hyl, hk2, rfl, rfl, hg, hq⟩ := hrel
          have HG2 := hid hg
          have HQ := hid hq
          have HL := hid hyl
          clear hg hq hyl HQ1 HG
          have e5 : wr.cell? ⟨(w.heap.size + 1), 5, none⟩ = some (.int .i64 (m : Int)) := HQ.out.arr.at rfl
          by_cases hlt : k2 < m
          · have hdk : decide ((k2 : Int) < (m : Int)) = true := by simp; omega
            rcases hz : rdNum c q2 with ⟨x, y, z⟩
            have HZ2 := hid hz
            clear hz
            cases z with
            | false =>
              have HN := hid (HN0.out (rd_lost HG2.out HZ2.out (fun r hb => by
                have h1 := HSIX.out r hb
                have h2 := HL.out
                rw [numsR_length, List.length_append]
                simp only [List.length_cons, List.length_nil]
                omega)))
              go_wp2_with fail
              refine (rreadnum_any _ c q2 _ (HBC.out.below HQ.out.bel) HYC.out).mono ?_
              rw [HZ2.out]
              rintro e w1 ⟨rfl, rfl⟩
              have z0 : wr.cell? ⟨w.heap.size, 0, none⟩ = some (.int .i64 0) := cell_of_cells HQ.out.res
              have y0 : wr.frozen? ⟨w.heap.size, 0, none⟩ = false := free_of_cells HQ.out.res
              have z1 : wr.cell? ⟨w.heap.size, 1, none⟩ = some (.int .i64 0) := cell_of_cells HQ.out.res
              have y1 : wr.frozen? ⟨w.heap.size, 1, none⟩ = false := free_of_cells HQ.out.res
              have z2 : wr.cell? ⟨w.heap.size, 2, none⟩ = some (.int .i64 0) := cell_of_cells HQ.out.res
              have y2 : wr.frozen? ⟨w.heap.size, 2, none⟩ = false := free_of_cells HQ.out.res
              have z3 : wr.cell? ⟨w.heap.size, 3, none⟩ = some (.int .i64 0) := cell_of_cells HQ.out.res
              have y3 : wr.frozen? ⟨w.heap.size, 3, none⟩ = false := free_of_cells HQ.out.res
              have z4 : wr.cell? ⟨w.heap.size, 4, none⟩ = some (.int .i64 0) := cell_of_cells HQ.out.res
              have y4 : wr.frozen? ⟨w.heap.size, 4, none⟩ = false := free_of_cells HQ.out.res
              have z5 : wr.cell? ⟨w.heap.size, 5, none⟩ = some (.slice none 0 0) := cell_of_cells HQ.out.res
              have y5 : wr.frozen? ⟨w.heap.size, 5, none⟩ = false := free_of_cells HQ.out.res
              have z6 : wr.cell? ⟨w.heap.size, 6, none⟩ = some (.slice none 0 0) := cell_of_cells HQ.out.res
              have y6 : wr.frozen? ⟨w.heap.size, 6, none⟩ = false := free_of_cells HQ.out.res
              go_wp2
              have hblk := seven_heap HQ.out.res (.int .i64 0) (.int .i64 0) (.int .i64 0) (.int .i64 0) (.int .i64 0) (.slice none 0 0) (.slice none 0 0)
              try simp only [Exit.inBlock, Exit.then]
              refine bodyPost_ret (results_cell3 rfl _ _ w.heap.size 33 _ (0, 0) _ (by rfl) hblk Try.underlying33 rfl (by kernel_rfl)) rfl ?_
              exact ⟨seven_below HQ.out.bel (Nat.le_refl _) HQ.out.res (.int .i64 0) (.int .i64 0) (.int .i64 0) (.int .i64 0) (.int .i64 0) (.slice none 0 0) (.slice none 0 0), .inr ⟨rfl, HN.out⟩⟩
            | true =>
              obtain ⟨hy, hg3⟩ := rd_got HYC.out HG2.out HZ2.out
              have HG3 := hid hg3
              subst hy
              clear hg3
              have c5 : wr.cell? ⟨wa.heap.size, 5, none⟩ = some sv := cell_of_cells HQ.out.rcd
              have HQA := hid (HQ.out.on (alloc_one wr (.cells #[.int .i64 x] 3)))
              have hlowA := HQA.out.low
              go_wp2_with fail
              refine (rreadnum_any _ c q2 _ (HBC.out.below HQ.out.bel) HYC.out).mono ?_
              rw [HZ2.out]
              rintro e w1 ⟨rfl, rfl⟩
              go_wp2_with (at_builtin; refine wpList_append_own _ rfl _ _ 30 rfl w.heap.size 3 i0 _ 1 8 Try.underlying30 hi hz0 hz1 hz2 rfl (by decide) sv ys.length (ict ys) rfl HQA.out.set ⟨wr.heap.size, 0, none⟩ 1 1 [.int .i64 x] rfl rfl (one_new wr _ _) (by intro u hu; simp at hu; subst hu; rfl) (by have := HL.out; unfold maxLen; omega) (by have := HL.out; omega) hlowA ?_; intro v5 w5 ho5 hg5 _; obtain ⟨ao5, cp5, rfl⟩ := owns_slice ho5; have HP := hid (HQA.out.pushSet ho5 hg5); have hq5 := grown_at HQA.out.set hg5 HQA.out.rcd (by decide); have s5 : w5.cell? ⟨wa.heap.size, 5, none⟩ = some sv := cell_of_cells hq5; have g5 : w5.frozen? ⟨wa.heap.size, 5, none⟩ = false := free_of_cells hq5; clear ho5 hg5 hq5)
              go_roundw
              case rel => exact ⟨k2 + 1, q2 + 8, _, ys ++ [x], by rw [List.length_append, HL.out]; rfl, by omega, rfl, by go_num, by rw [← List.append_assoc]; exact HG3.out, HP.out⟩
              case measure => simp [intOf]; omega
          · have hdk : decide ((k2 : Int) < (m : Int)) = false := by simp; omega
            rename World => wb
            have HM := hid (show (m : Int) = (ys.length : Int) by have := HL.out; omega)
            rcases hz : rdNum c q2 with ⟨x, y, z⟩
            have HZ2 := hid hz
            clear hz e5
            have e5 : wb.cell? ⟨(w.heap.size + 1), 5, none⟩ = some (.int .i64 (m : Int)) := HQ.out.arr.at rfl
            cases z with
            | false =>
              have HN := hid (HN0.out (rd_lost HG2.out HZ2.out (fun r hb => by
                have h1 := HSIX.out r hb
                have h2 := HL.out
                rw [numsR_length, List.length_append]
                simp only [List.length_cons, List.length_nil]
                omega)))
              go_wp2_with fail
              refine (rreadnum_any _ c q2 _ (HBC.out.below HQ.out.bel) HYC.out).mono ?_
              rw [HZ2.out]
              rintro e w1 ⟨rfl, rfl⟩
              have z0 : wb.cell? ⟨w.heap.size, 0, none⟩ = some (.int .i64 0) := cell_of_cells HQ.out.res
              have y0 : wb.frozen? ⟨w.heap.size, 0, none⟩ = false := free_of_cells HQ.out.res
              have z1 : wb.cell? ⟨w.heap.size, 1, none⟩ = some (.int .i64 0) := cell_of_cells HQ.out.res
              have y1 : wb.frozen? ⟨w.heap.size, 1, none⟩ = false := free_of_cells HQ.out.res
              have z2 : wb.cell? ⟨w.heap.size, 2, none⟩ = some (.int .i64 0) := cell_of_cells HQ.out.res
              have y2 : wb.frozen? ⟨w.heap.size, 2, none⟩ = false := free_of_cells HQ.out.res
              have z3 : wb.cell? ⟨w.heap.size, 3, none⟩ = some (.int .i64 0) := cell_of_cells HQ.out.res
              have y3 : wb.frozen? ⟨w.heap.size, 3, none⟩ = false := free_of_cells HQ.out.res
              have z4 : wb.cell? ⟨w.heap.size, 4, none⟩ = some (.int .i64 0) := cell_of_cells HQ.out.res
              have y4 : wb.frozen? ⟨w.heap.size, 4, none⟩ = false := free_of_cells HQ.out.res
              have z5 : wb.cell? ⟨w.heap.size, 5, none⟩ = some (.slice none 0 0) := cell_of_cells HQ.out.res
              have y5 : wb.frozen? ⟨w.heap.size, 5, none⟩ = false := free_of_cells HQ.out.res
              have z6 : wb.cell? ⟨w.heap.size, 6, none⟩ = some (.slice none 0 0) := cell_of_cells HQ.out.res
              have y6 : wb.frozen? ⟨w.heap.size, 6, none⟩ = false := free_of_cells HQ.out.res
              go_wp2
              have hblk := seven_heap HQ.out.res (.int .i64 0) (.int .i64 0) (.int .i64 0) (.int .i64 0) (.int .i64 0) (.slice none 0 0) (.slice none 0 0)
              try simp only [Exit.inBlock, Exit.then]
              refine bodyPost_ret (results_cell3 rfl _ _ w.heap.size 33 _ (0, 0) _ (by rfl) hblk Try.underlying33 rfl (by kernel_rfl)) rfl ?_
              exact ⟨seven_below HQ.out.bel (Nat.le_refl _) HQ.out.res (.int .i64 0) (.int .i64 0) (.int .i64 0) (.int .i64 0) (.int .i64 0) (.slice none 0 0) (.slice none 0 0), .inr ⟨rfl, HN.out⟩⟩
            | true =>
            obtain ⟨hy, hg3⟩ := rd_got HYC.out HG2.out HZ2.out
            have HG3 := hid (show Got c 8 ([f0, f1, f2, f3, f4, (ys.length : Int)] ++ (ys ++ [x])) (q2 + 8) by rw [← List.append_assoc, ← HM.out]; exact hg3)
            have HALL := hid (fun r hb => Got.all HG3.out (r := r) hb)
            subst hy
            clear hg3 HG2
            by_cases hx0 : x < 0
            · have hd5 : decide (x < 0) = true := by simpa using hx0
              have HN := hid (HN0.out (fun r hb => by have := (HALL.out r hb).2.2.2.2.2.2.1; omega))
              clear hx0
              go_wp2_with fail
              refine (rreadnum_any _ c q2 _ (HBC.out.below HQ.out.bel) HYC.out).mono ?_
              rw [HZ2.out]
              rintro e w1 ⟨rfl, rfl⟩
              have z0 : wb.cell? ⟨w.heap.size, 0, none⟩ = some (.int .i64 0) := cell_of_cells HQ.out.res
              have y0 : wb.frozen? ⟨w.heap.size, 0, none⟩ = false := free_of_cells HQ.out.res
              have z1 : wb.cell? ⟨w.heap.size, 1, none⟩ = some (.int .i64 0) := cell_of_cells HQ.out.res
              have y1 : wb.frozen? ⟨w.heap.size, 1, none⟩ = false := free_of_cells HQ.out.res
              have z2 : wb.cell? ⟨w.heap.size, 2, none⟩ = some (.int .i64 0) := cell_of_cells HQ.out.res
              have y2 : wb.frozen? ⟨w.heap.size, 2, none⟩ = false := free_of_cells HQ.out.res
              have z3 : wb.cell? ⟨w.heap.size, 3, none⟩ = some (.int .i64 0) := cell_of_cells HQ.out.res
              have y3 : wb.frozen? ⟨w.heap.size, 3, none⟩ = false := free_of_cells HQ.out.res
              have z4 : wb.cell? ⟨w.heap.size, 4, none⟩ = some (.int .i64 0) := cell_of_cells HQ.out.res
              have y4 : wb.frozen? ⟨w.heap.size, 4, none⟩ = false := free_of_cells HQ.out.res
              have z5 : wb.cell? ⟨w.heap.size, 5, none⟩ = some (.slice none 0 0) := cell_of_cells HQ.out.res
              have y5 : wb.frozen? ⟨w.heap.size, 5, none⟩ = false := free_of_cells HQ.out.res
              have z6 : wb.cell? ⟨w.heap.size, 6, none⟩ = some (.slice none 0 0) := cell_of_cells HQ.out.res
              have y6 : wb.frozen? ⟨w.heap.size, 6, none⟩ = false := free_of_cells HQ.out.res
              go_wp2
              have hblk := seven_heap HQ.out.res (.int .i64 0) (.int .i64 0) (.int .i64 0) (.int .i64 0) (.int .i64 0) (.slice none 0 0) (.slice none 0 0)
              try simp only [Exit.inBlock, Exit.then]
              refine bodyPost_ret (results_cell3 rfl _ _ w.heap.size 33 _ (0, 0) _ (by rfl) hblk Try.underlying33 rfl (by kernel_rfl)) rfl ?_
              exact ⟨seven_below HQ.out.bel (Nat.le_refl _) HQ.out.res (.int .i64 0) (.int .i64 0) (.int .i64 0) (.int .i64 0) (.int .i64 0) (.slice none 0 0) (.slice none 0 0), .inr ⟨rfl, HN.out⟩⟩
            obtain ⟨m2, rfl⟩ := Int.eq_ofNat_of_zero_le (show 0 ≤ x by omega)
            have hdx : decide ((m2 : Int) < 0) = false := by simp
            clear hx0
            by_cases hx40 : 40 < m2
            · have hd10 : decide ((40 : Int) < (m2 : Int)) = true := by simp; omega
              have HN := hid (HN0.out (fun r hb => by have h1 := (HALL.out r hb).2.2.2.2.2.2.1; have h2 := (may_fit hb.1).plen; omega))
              clear hx40
              go_wp2_with fail
              refine (rreadnum_any _ c q2 _ (HBC.out.below HQ.out.bel) HYC.out).mono ?_
              rw [HZ2.out]
              rintro e w1 ⟨rfl, rfl⟩
              have z0 : wb.cell? ⟨w.heap.size, 0, none⟩ = some (.int .i64 0) := cell_of_cells HQ.out.res
              have y0 : wb.frozen? ⟨w.heap.size, 0, none⟩ = false := free_of_cells HQ.out.res
              have z1 : wb.cell? ⟨w.heap.size, 1, none⟩ = some (.int .i64 0) := cell_of_cells HQ.out.res
              have y1 : wb.frozen? ⟨w.heap.size, 1, none⟩ = false := free_of_cells HQ.out.res
              have z2 : wb.cell? ⟨w.heap.size, 2, none⟩ = some (.int .i64 0) := cell_of_cells HQ.out.res
              have y2 : wb.frozen? ⟨w.heap.size, 2, none⟩ = false := free_of_cells HQ.out.res
              have z3 : wb.cell? ⟨w.heap.size, 3, none⟩ = some (.int .i64 0) := cell_of_cells HQ.out.res
              have y3 : wb.frozen? ⟨w.heap.size, 3, none⟩ = false := free_of_cells HQ.out.res
              have z4 : wb.cell? ⟨w.heap.size, 4, none⟩ = some (.int .i64 0) := cell_of_cells HQ.out.res
              have y4 : wb.frozen? ⟨w.heap.size, 4, none⟩ = false := free_of_cells HQ.out.res
              have z5 : wb.cell? ⟨w.heap.size, 5, none⟩ = some (.slice none 0 0) := cell_of_cells HQ.out.res
              have y5 : wb.frozen? ⟨w.heap.size, 5, none⟩ = false := free_of_cells HQ.out.res
              have z6 : wb.cell? ⟨w.heap.size, 6, none⟩ = some (.slice none 0 0) := cell_of_cells HQ.out.res
              have y6 : wb.frozen? ⟨w.heap.size, 6, none⟩ = false := free_of_cells HQ.out.res
              go_wp2
              have hblk := seven_heap HQ.out.res (.int .i64 0) (.int .i64 0) (.int .i64 0) (.int .i64 0) (.int .i64 0) (.slice none 0 0) (.slice none 0 0)
              try simp only [Exit.inBlock, Exit.then]
              refine bodyPost_ret (results_cell3 rfl _ _ w.heap.size 33 _ (0, 0) _ (by rfl) hblk Try.underlying33 rfl (by kernel_rfl)) rfl ?_
              exact ⟨seven_below HQ.out.bel (Nat.le_refl _) HQ.out.res (.int .i64 0) (.int .i64 0) (.int .i64 0) (.int .i64 0) (.int .i64 0) (.slice none 0 0) (.slice none 0 0), .inr ⟨rfl, HN.out⟩⟩
            have hdx40 : decide ((40 : Int) < (m2 : Int)) = false := by simp; omega
            have hm40 : m2 ≤ 40 := by omega
            clear hx40
            go_wp2_with fail
            refine (rreadnum_any _ c q2 _ (HBC.out.below HQ.out.bel) HYC.out).mono ?_
            rw [HZ2.out]
            rintro e w1 ⟨rfl, rfl⟩
            go_wp2
            have HP0 := hid (GotP.start c (q2 + 8) HG3.out.le)
            go_loopw [6, 16] (fun pa i wr => ∃ (k q : Nat) (pv : Value) (ps : List KV), ps.length = k ∧ k ≤ m2 ∧ pa = .int .i64 q ∧ i = .int .i64 k ∧ GotP c (q2 + 8) ps q ∧ QS w (w.heap.size + 1) wa.heap.size [f0, f1, f2, f3, f4, (m : Int)] f0 f1 f2 f3 f4 sv pv ys ps wr) (fun _ i _ => m2 - (intOf i).toNat)
            case atStart => exact ⟨0, q2 + 8, _, [], rfl, by omega, rfl, rfl, HP0.out, HQ.out⟩
            case round =>
              obtain ⟨k3, q3, pv, ps, hpl, hk3, rfl, rfl, hg, hq⟩ := hrel
              have HP := hid hg
              have HQ3 := hid hq
              have HL3 := hid hpl
              clear hg hq hpl HP0 e5
              by_cases hlt : k3 < m2
              · have hdk3 : decide ((k3 : Int) < (m2 : Int)) = true := by simp; omega
                have HLOST := hid (fun (hbad : (rdText c q3).2.2 = false ∨ ∃ s x, rdText c q3 = (s, x, true) ∧ (rdText c x).2.2 = false) r (hb : Body c 8 r) => by
                  obtain ⟨b0, b1, b2, b3, b4, b5, b6, b7⟩ := HALL.out r hb
                  have h1 := HL3.out
                  exact GotP.fail (x := 0) HP.out hbad (fitP_small (may_fit hb.1).prs) b7 (by omega))
                rcases hz1 : rdText c q3 with ⟨s, y1, z1⟩
                rcases hz2 : rdText c y1 with ⟨t, y2, z2⟩
                have HT1 := hid hz1
                have HT2 := hid hz2
                clear hz1 hz2
                cases z1 with
                | false =>
                  have HN := hid (HN0.out (HLOST.out (.inl (by rw [HT1.out]))))
                  go_wp2_with fail
                  refine (rreadtext_all _ c q3 _ (HBC.out.below HQ3.out.bel) HYC.out).mono ?_
                  rw [HT1.out]
                  rintro e w1 ⟨rfl, rfl⟩
                  go_wp2_with fail
                  refine (rreadtext_all _ c y1 _ (HBC.out.below HQ3.out.bel) HYC.out).mono ?_
                  rw [HT2.out]
                  rintro e w1 ⟨rfl, rfl⟩
                  have z0 : wr.cell? ⟨w.heap.size, 0, none⟩ = some (.int .i64 0) := cell_of_cells HQ3.out.res
                  have y0 : wr.frozen? ⟨w.heap.size, 0, none⟩ = false := free_of_cells HQ3.out.res
                  have z1 : wr.cell? ⟨w.heap.size, 1, none⟩ = some (.int .i64 0) := cell_of_cells HQ3.out.res
                  have y1 : wr.frozen? ⟨w.heap.size, 1, none⟩ = false := free_of_cells HQ3.out.res
                  have z2 : wr.cell? ⟨w.heap.size, 2, none⟩ = some (.int .i64 0) := cell_of_cells HQ3.out.res
                  have y2 : wr.frozen? ⟨w.heap.size, 2, none⟩ = false := free_of_cells HQ3.out.res
                  have z3 : wr.cell? ⟨w.heap.size, 3, none⟩ = some (.int .i64 0) := cell_of_cells HQ3.out.res
                  have y3 : wr.frozen? ⟨w.heap.size, 3, none⟩ = false := free_of_cells HQ3.out.res
                  have z4 : wr.cell? ⟨w.heap.size, 4, none⟩ = some (.int .i64 0) := cell_of_cells HQ3.out.res
                  have y4 : wr.frozen? ⟨w.heap.size, 4, none⟩ = false := free_of_cells HQ3.out.res
                  have z5 : wr.cell? ⟨w.heap.size, 5, none⟩ = some (.slice none 0 0) := cell_of_cells HQ3.out.res
                  have y5 : wr.frozen? ⟨w.heap.size, 5, none⟩ = false := free_of_cells HQ3.out.res
                  have z6 : wr.cell? ⟨w.heap.size, 6, none⟩ = some (.slice none 0 0) := cell_of_cells HQ3.out.res
                  have y6 : wr.frozen? ⟨w.heap.size, 6, none⟩ = false := free_of_cells HQ3.out.res
                  go_wp2
                  have hblk := seven_heap HQ3.out.res (.int .i64 0) (.int .i64 0) (.int .i64 0) (.int .i64 0) (.int .i64 0) (.slice none 0 0) (.slice none 0 0)
                  try simp only [Exit.inBlock, Exit.then]
                  refine bodyPost_ret (results_cell3 rfl _ _ w.heap.size 33 _ (0, 0) _ (by rfl) hblk Try.underlying33 rfl (by kernel_rfl)) rfl ?_
                  exact ⟨seven_below HQ3.out.bel (Nat.le_refl _) HQ3.out.res (.int .i64 0) (.int .i64 0) (.int .i64 0) (.int .i64 0) (.int .i64 0) (.slice none 0 0) (.slice none 0 0), .inr ⟨rfl, HN.out⟩⟩
                | true =>
                cases z2 with
                | false =>
                  have HN := hid (HN0.out (HLOST.out (.inr ⟨s, y1, HT1.out, by rw [HT2.out]⟩)))
                  go_wp2_with fail
                  refine (rreadtext_all _ c q3 _ (HBC.out.below HQ3.out.bel) HYC.out).mono ?_
                  rw [HT1.out]
                  rintro e w1 ⟨rfl, rfl⟩
                  go_wp2_with fail
                  refine (rreadtext_all _ c y1 _ (HBC.out.below HQ3.out.bel) HYC.out).mono ?_
                  rw [HT2.out]
                  rintro e w1 ⟨rfl, rfl⟩
                  have z0 : wr.cell? ⟨w.heap.size, 0, none⟩ = some (.int .i64 0) := cell_of_cells HQ3.out.res
                  have y0 : wr.frozen? ⟨w.heap.size, 0, none⟩ = false := free_of_cells HQ3.out.res
                  have z1 : wr.cell? ⟨w.heap.size, 1, none⟩ = some (.int .i64 0) := cell_of_cells HQ3.out.res
                  have y1 : wr.frozen? ⟨w.heap.size, 1, none⟩ = false := free_of_cells HQ3.out.res
                  have z2 : wr.cell? ⟨w.heap.size, 2, none⟩ = some (.int .i64 0) := cell_of_cells HQ3.out.res
                  have y2 : wr.frozen? ⟨w.heap.size, 2, none⟩ = false := free_of_cells HQ3.out.res
                  have z3 : wr.cell? ⟨w.heap.size, 3, none⟩ = some (.int .i64 0) := cell_of_cells HQ3.out.res
                  have y3 : wr.frozen? ⟨w.heap.size, 3, none⟩ = false := free_of_cells HQ3.out.res
                  have z4 : wr.cell? ⟨w.heap.size, 4, none⟩ = some (.int .i64 0) := cell_of_cells HQ3.out.res
                  have y4 : wr.frozen? ⟨w.heap.size, 4, none⟩ = false := free_of_cells HQ3.out.res
                  have z5 : wr.cell? ⟨w.heap.size, 5, none⟩ = some (.slice none 0 0) := cell_of_cells HQ3.out.res
                  have y5 : wr.frozen? ⟨w.heap.size, 5, none⟩ = false := free_of_cells HQ3.out.res
                  have z6 : wr.cell? ⟨w.heap.size, 6, none⟩ = some (.slice none 0 0) := cell_of_cells HQ3.out.res
                  have y6 : wr.frozen? ⟨w.heap.size, 6, none⟩ = false := free_of_cells HQ3.out.res
                  go_wp2
                  have hblk := seven_heap HQ3.out.res (.int .i64 0) (.int .i64 0) (.int .i64 0) (.int .i64 0) (.int .i64 0) (.slice none 0 0) (.slice none 0 0)
                  try simp only [Exit.inBlock, Exit.then]
                  refine bodyPost_ret (results_cell3 rfl _ _ w.heap.size 33 _ (0, 0) _ (by rfl) hblk Try.underlying33 rfl (by kernel_rfl)) rfl ?_
                  exact ⟨seven_below HQ3.out.bel (Nat.le_refl _) HQ3.out.res (.int .i64 0) (.int .i64 0) (.int .i64 0) (.int .i64 0) (.int .i64 0) (.slice none 0 0) (.slice none 0 0), .inr ⟨rfl, HN.out⟩⟩
                | true =>
                  obtain ⟨hy1, hy2, hg3⟩ := HP.out.step HYC.out HT1.out HT2.out
                  have HG4 := hid hg3
                  have HY2 := hid hy2
                  clear hg3 hy1 hy2
                  have c6 : wr.cell? ⟨wa.heap.size, 6, none⟩ = some pv := cell_of_cells HQ3.out.rcd
                  have HQA := hid (HQ3.out.on (alloc_one wr (.cells #[.string s, .string t] 57)))
                  have hlowA := HQA.out.low
                  go_wp2_with fail
                  refine (rreadtext_all _ c q3 _ (HBC.out.below HQ3.out.bel) HYC.out).mono ?_
                  rw [HT1.out]
                  rintro e w1 ⟨rfl, rfl⟩
                  go_wp2_with fail
                  refine (rreadtext_all _ c y1 _ (HBC.out.below HQ3.out.bel) HYC.out).mono ?_
                  rw [HT2.out]
                  rintro e w1 ⟨rfl, rfl⟩
                  go_wp2_with (at_builtin; refine wpList_append_own _ rfl _ _ 31 rfl w.heap.size 57 i1 _ 2 32 Try.underlying31 hj hw0 hw1 hw2 rfl (by decide) pv ps.length (fl encP ps) rfl HQA.out.prs ⟨wr.heap.size, 0, none⟩ 1 1 [.string s, .string t] rfl rfl (two_new wr _ _ _) (by intro u hu; simp at hu; rcases hu with rfl | rfl <;> rfl) (by have := HL3.out; unfold maxLen; omega) (by have := HL3.out; omega) hlowA ?_; intro v5 w5 ho5 hg5 _; obtain ⟨ao5, cp5, rfl⟩ := owns_slice ho5; have HPP := hid (HQA.out.pushPair (x := (s, t)) ho5 hg5); have hq5 := grown_at HQA.out.prs hg5 HQA.out.rcd (by decide); have s5 : w5.cell? ⟨wa.heap.size, 6, none⟩ = some pv := cell_of_cells hq5; have g5 : w5.frozen? ⟨wa.heap.size, 6, none⟩ = false := free_of_cells hq5; clear ho5 hg5 hq5)
                  go_roundw
                  case rel => exact ⟨k3 + 1, q3 + 8 + s.size + 8 + t.size, _, ps ++ [(s, t)], by rw [List.length_append, HL3.out]; rfl, by omega, by rw [HY2.out], by go_num, HG4.out, HPP.out⟩
                  case measure => simp [intOf]; omega
              · have hdk3 : decide ((k3 : Int) < (m2 : Int)) = false := by simp; omega
                have HM2 := hid (show (m2 : Int) = (ps.length : Int) by have := HL3.out; omega)
                have HG5 := hid (show Got c 8 ([f0, f1, f2, f3, f4, (ys.length : Int)] ++ (ys ++ [(ps.length : Int)])) (q2 + 8) by rw [← HM2.out]; exact HG3.out)
                obtain ⟨so, sc, hso⟩ := owns_slice HQ3.out.set
                obtain ⟨po, pc, hpo⟩ := owns_slice HQ3.out.prs
                subst hso hpo
                by_cases hqe : q3 = 8 + n
                rotate_left
                · have hne : ((q3 : Int) != 8 + (n : Int)) = true := by simp; omega
                  have HN := hid (HN0.out (fun r hb => by have := (body_no HG5.out HP.out hb).1; omega))
                  clear hqe
                  have z0 : wr.cell? ⟨w.heap.size, 0, none⟩ = some (.int .i64 0) := cell_of_cells HQ3.out.res
                  have y0 : wr.frozen? ⟨w.heap.size, 0, none⟩ = false := free_of_cells HQ3.out.res
                  have z1 : wr.cell? ⟨w.heap.size, 1, none⟩ = some (.int .i64 0) := cell_of_cells HQ3.out.res
                  have y1 : wr.frozen? ⟨w.heap.size, 1, none⟩ = false := free_of_cells HQ3.out.res
                  have z2 : wr.cell? ⟨w.heap.size, 2, none⟩ = some (.int .i64 0) := cell_of_cells HQ3.out.res
                  have y2 : wr.frozen? ⟨w.heap.size, 2, none⟩ = false := free_of_cells HQ3.out.res
                  have z3 : wr.cell? ⟨w.heap.size, 3, none⟩ = some (.int .i64 0) := cell_of_cells HQ3.out.res
                  have y3 : wr.frozen? ⟨w.heap.size, 3, none⟩ = false := free_of_cells HQ3.out.res
                  have z4 : wr.cell? ⟨w.heap.size, 4, none⟩ = some (.int .i64 0) := cell_of_cells HQ3.out.res
                  have y4 : wr.frozen? ⟨w.heap.size, 4, none⟩ = false := free_of_cells HQ3.out.res
                  have z5 : wr.cell? ⟨w.heap.size, 5, none⟩ = some (.slice none 0 0) := cell_of_cells HQ3.out.res
                  have y5 : wr.frozen? ⟨w.heap.size, 5, none⟩ = false := free_of_cells HQ3.out.res
                  have z6 : wr.cell? ⟨w.heap.size, 6, none⟩ = some (.slice none 0 0) := cell_of_cells HQ3.out.res
                  have y6 : wr.frozen? ⟨w.heap.size, 6, none⟩ = false := free_of_cells HQ3.out.res
                  go_wp2
                  have hblk := seven_heap HQ3.out.res (.int .i64 0) (.int .i64 0) (.int .i64 0) (.int .i64 0) (.int .i64 0) (.slice none 0 0) (.slice none 0 0)
                  try simp only [Exit.inBlock, Exit.then]
                  refine bodyPost_ret (results_cell3 rfl _ _ w.heap.size 33 _ (0, 0) _ (by rfl) hblk Try.underlying33 rfl (by kernel_rfl)) rfl ?_
                  exact ⟨seven_below HQ3.out.bel (Nat.le_refl _) HQ3.out.res (.int .i64 0) (.int .i64 0) (.int .i64 0) (.int .i64 0) (.int .i64 0) (.slice none 0 0) (.slice none 0 0), .inr ⟨rfl, HN.out⟩⟩
                have hne : ((q3 : Int) != 8 + (n : Int)) = false := by simp; omega
                have HQE := hid hqe
                have HX3 := hid (show RecX.Own w.heap.size ⟨⟨f0, f1, f2, f3, f4, ys, ps⟩, so, sc, po, pc⟩ wr from ⟨HQ3.out.set, HQ3.out.prs⟩)
                clear hqe
                have c0 : wr.cell? ⟨wa.heap.size, 0, none⟩ = some (.int .i64 f0) := cell_of_cells HQ3.out.rcd
                have c1 : wr.cell? ⟨wa.heap.size, 1, none⟩ = some (.int .i64 f1) := cell_of_cells HQ3.out.rcd
                have c2 : wr.cell? ⟨wa.heap.size, 2, none⟩ = some (.int .i64 f2) := cell_of_cells HQ3.out.rcd
                have c3 : wr.cell? ⟨wa.heap.size, 3, none⟩ = some (.int .i64 f3) := cell_of_cells HQ3.out.rcd
                have c4 : wr.cell? ⟨wa.heap.size, 4, none⟩ = some (.int .i64 f4) := cell_of_cells HQ3.out.rcd
                have c5 : wr.cell? ⟨wa.heap.size, 5, none⟩ = some (.slice so ys.length sc) := cell_of_cells HQ3.out.rcd
                have c6 : wr.cell? ⟨wa.heap.size, 6, none⟩ = some (.slice po ps.length pc) := cell_of_cells HQ3.out.rcd
                go_wp2_with fail
                refine (refRMay_any ⟨f0, f1, f2, f3, f4, ys, ps⟩ so sc po pc _ HX3.out.is).mono ?_
                rintro e w4 ⟨rfl, hb4⟩
                have HQ4 := hid (HQ3.out.on hb4)
                clear hb4 c0 c1 c2 c3 c4 c5 c6
                obtain ⟨g, hg⟩ : ∃ g, mayR ⟨f0, f1, f2, f3, f4, ys, ps⟩ = g := ⟨_, rfl⟩
                have HG := hid hg
                rw [hg]
                clear hg
                cases g
                · have HN := hid (HN0.out (fun r hb => by
                    have h1 := (body_no HG5.out HP.out hb).2
                    have h2 := hb.1
                    rw [h1, HG.out] at h2
                    cases h2))
                  have z0 : w4.cell? ⟨w.heap.size, 0, none⟩ = some (.int .i64 0) := cell_of_cells HQ4.out.res
                  have y0 : w4.frozen? ⟨w.heap.size, 0, none⟩ = false := free_of_cells HQ4.out.res
                  have z1 : w4.cell? ⟨w.heap.size, 1, none⟩ = some (.int .i64 0) := cell_of_cells HQ4.out.res
                  have y1 : w4.frozen? ⟨w.heap.size, 1, none⟩ = false := free_of_cells HQ4.out.res
                  have z2 : w4.cell? ⟨w.heap.size, 2, none⟩ = some (.int .i64 0) := cell_of_cells HQ4.out.res
                  have y2 : w4.frozen? ⟨w.heap.size, 2, none⟩ = false := free_of_cells HQ4.out.res
                  have z3 : w4.cell? ⟨w.heap.size, 3, none⟩ = some (.int .i64 0) := cell_of_cells HQ4.out.res
                  have y3 : w4.frozen? ⟨w.heap.size, 3, none⟩ = false := free_of_cells HQ4.out.res
                  have z4 : w4.cell? ⟨w.heap.size, 4, none⟩ = some (.int .i64 0) := cell_of_cells HQ4.out.res
                  have y4 : w4.frozen? ⟨w.heap.size, 4, none⟩ = false := free_of_cells HQ4.out.res
                  have z5 : w4.cell? ⟨w.heap.size, 5, none⟩ = some (.slice none 0 0) := cell_of_cells HQ4.out.res
                  have y5 : w4.frozen? ⟨w.heap.size, 5, none⟩ = false := free_of_cells HQ4.out.res
                  have z6 : w4.cell? ⟨w.heap.size, 6, none⟩ = some (.slice none 0 0) := cell_of_cells HQ4.out.res
                  have y6 : w4.frozen? ⟨w.heap.size, 6, none⟩ = false := free_of_cells HQ4.out.res
                  go_wp2
                  have hblk := seven_heap HQ4.out.res (.int .i64 0) (.int .i64 0) (.int .i64 0) (.int .i64 0) (.int .i64 0) (.slice none 0 0) (.slice none 0 0)
                  try simp only [Exit.inBlock, Exit.then]
                  refine bodyPost_ret (results_cell3 rfl _ _ w.heap.size 33 _ (0, 0) _ (by rfl) hblk Try.underlying33 rfl (by kernel_rfl)) rfl ?_
                  exact ⟨seven_below HQ4.out.bel (Nat.le_refl _) HQ4.out.res (.int .i64 0) (.int .i64 0) (.int .i64 0) (.int .i64 0) (.int .i64 0) (.slice none 0 0) (.slice none 0 0), .inr ⟨rfl, HN.out⟩⟩
                obtain ⟨hhas, hlay⟩ := HS0.out ⟨f0, f1, f2, f3, f4, ys, ps⟩ (body_yes HG5.out (by rw [hcl, ← HQE.out]; exact HP.out) HG.out)
                have HH := hid hhas
                have HLY := hid hlay
                clear hhas hlay
                have c0 : w4.cell? ⟨wa.heap.size, 0, none⟩ = some (.int .i64 f0) := cell_of_cells HQ4.out.rcd
                have c1 : w4.cell? ⟨wa.heap.size, 1, none⟩ = some (.int .i64 f1) := cell_of_cells HQ4.out.rcd
                have c2 : w4.cell? ⟨wa.heap.size, 2, none⟩ = some (.int .i64 f2) := cell_of_cells HQ4.out.rcd
                have c3 : w4.cell? ⟨wa.heap.size, 3, none⟩ = some (.int .i64 f3) := cell_of_cells HQ4.out.rcd
                have c4 : w4.cell? ⟨wa.heap.size, 4, none⟩ = some (.int .i64 f4) := cell_of_cells HQ4.out.rcd
                have c5 : w4.cell? ⟨wa.heap.size, 5, none⟩ = some (.slice so ys.length sc) := cell_of_cells HQ4.out.rcd
                have c6 : w4.cell? ⟨wa.heap.size, 6, none⟩ = some (.slice po ps.length pc) := cell_of_cells HQ4.out.rcd
                have z0 : w4.cell? ⟨w.heap.size, 0, none⟩ = some (.int .i64 0) := cell_of_cells HQ4.out.res
                have y0 : w4.frozen? ⟨w.heap.size, 0, none⟩ = false := free_of_cells HQ4.out.res
                have z1 : w4.cell? ⟨w.heap.size, 1, none⟩ = some (.int .i64 0) := cell_of_cells HQ4.out.res
                have y1 : w4.frozen? ⟨w.heap.size, 1, none⟩ = false := free_of_cells HQ4.out.res
                have z2 : w4.cell? ⟨w.heap.size, 2, none⟩ = some (.int .i64 0) := cell_of_cells HQ4.out.res
                have y2 : w4.frozen? ⟨w.heap.size, 2, none⟩ = false := free_of_cells HQ4.out.res
                have z3 : w4.cell? ⟨w.heap.size, 3, none⟩ = some (.int .i64 0) := cell_of_cells HQ4.out.res
                have y3 : w4.frozen? ⟨w.heap.size, 3, none⟩ = false := free_of_cells HQ4.out.res
                have z4 : w4.cell? ⟨w.heap.size, 4, none⟩ = some (.int .i64 0) := cell_of_cells HQ4.out.res
                have y4 : w4.frozen? ⟨w.heap.size, 4, none⟩ = false := free_of_cells HQ4.out.res
                have z5 : w4.cell? ⟨w.heap.size, 5, none⟩ = some (.slice none 0 0) := cell_of_cells HQ4.out.res
                have y5 : w4.frozen? ⟨w.heap.size, 5, none⟩ = false := free_of_cells HQ4.out.res
                have z6 : w4.cell? ⟨w.heap.size, 6, none⟩ = some (.slice none 0 0) := cell_of_cells HQ4.out.res
                have y6 : w4.frozen? ⟨w.heap.size, 6, none⟩ = false := free_of_cells HQ4.out.res
                go_wp2
                have hblk := seven_heap HQ4.out.res (.int .i64 f0) (.int .i64 f1) (.int .i64 f2) (.int .i64 f3) (.int .i64 f4) (.slice so ys.length sc) (.slice po ps.length pc)
                have hs7 := (set_seven HQ4.out.res (.int .i64 f0) (.int .i64 f1) (.int .i64 f2) (.int .i64 f3) (.int .i64 f4) (.slice so ys.length sc) (.slice po ps.length pc)).2
                try simp only [Exit.inBlock, Exit.then]
                refine bodyPost_ret (results_cell3 rfl _ _ w.heap.size 33 _ (0, 0) _ (by rfl) hblk Try.underlying33 rfl (by kernel_rfl)) rfl ?_
                refine ⟨seven_below HQ4.out.bel (Nat.le_refl _) HQ4.out.res (.int .i64 f0) (.int .i64 f1) (.int .i64 f2) (.int .i64 f3) (.int .i64 f4) (.slice so ys.length sc) (.slice po ps.length pc), .inl ⟨⟨⟨f0, f1, f2, f3, f4, ys, ps⟩, so, sc, po, pc⟩, ?_, HH.out, owns_sav HQ4.out.set hs7 (fun g hg e => owns_ne HQ4.out.set HQ4.out.res (by decide) (by rw [hg, e])), owns_sav HQ4.out.prs hs7 (fun g hg e => owns_ne HQ4.out.prs HQ4.out.res (by decide) (by rw [hg, e]))⟩⟩
                have he : (8 + (n : Int)) = ((0 + (layR ⟨f0, f1, f2, f3, f4, ys, ps⟩).length : Nat) : Int) := by rw [HLY.out]; omega
                rw [← he]
                rfl
end Go.Proofs.Ytpkobobandcclaa
