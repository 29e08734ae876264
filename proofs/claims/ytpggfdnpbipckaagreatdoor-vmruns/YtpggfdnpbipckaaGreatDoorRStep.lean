/- step of chapter 6's own answer. -/
import Derived.Test.YtpggfdnpbipckaaGreatDoorRStepL
namespace Go.Proofs.YtpggfdnpbipckaaGreatDoor
open Go.RowKit Go.Lib
set_option linter.unusedVariables false
set_option maxRecDepth 100000

variable {w0 : World} {b : Nat} {key : ByteArray} {vv vs vt : Value} {m : St} {w : World} {vals : List ByteArray}
set_option maxHeartbeats 8000000 in
set_option maxRecDepth 100000 in
theorem rstep_any (h : Mac w0 b key vv vs vt m w) (ok : Ok vals m) (hvv : Txs w0 vv vals) (hfew : vals.length ≤ 100) (x : Inst) (n : Int) (hg : good x n = true) (h0 : ¬ x.1 = 0) :
    Calls Tryz.prog 37 #[.pointer (some ⟨b, 0, none⟩), .agg #[.int .i64 x.1, .int .i64 x.2.1, .string x.2.2]] w (SDid w0 b key vv (step key vals x m)) := by
  have hop := good_op hg
  obtain ⟨xo, A, S⟩ := x
  simp only at hop h0
  obtain ⟨o, rfl⟩ : ∃ o : Nat, xo = o := ⟨xo.toNat, by omega⟩
  have ho2 : (o : Int).toNat = o := by omega
  have ho3 : o < 24 := by omega
  rw [step_needs ok.high (by simp only; omega) (by simp only; omega)]
  simp only [ho2]
  have HK := hid (kinds_calls o ho3)
  rw [kindsOf_ks o ho3] at HK
  have hL := ksOf_len o ho3
  have HS := hid (ksOf_some o ho3)
  have HD := hid (fun (m1 : St) (ok1 : Ok vals m1) (vs1 vt1 : Value) (w1 : World) (h1 : Mac w0 b key vv vs1 vt1 m1 w1) (hj : ¬ (o : Int) = 19) (v : Value) (av : List Val) => does_all (w := w1) h1 ok1 hvv hfew ((o : Int), A, S) n hg h0 hj v av)
  simp only [ho2] at HD
  have HJ := hid (show (o = 19 → ksOf o = []) ∧ (o = 20 → ksOf o = [1]) from ⟨fun e => by rw [e]; rfl, fun e => by rw [e]; rfl⟩)
  generalize hgg : (fun (av : List Val) (s : List Val) => actL key vals ((o : Int), A, S) av { m with stack := s }) = g
  have HGG := hid hgg
  clear hgg
  obtain ⟨so, sc, rfl⟩ := own_slice h.st
  have H1 := alloc1 w (Obj.cells #[.int .i64 (o : Int), .int .i64 A, .string S] 43)
  have hin := new_block w (Obj.cells #[.int .i64 (o : Int), .int .i64 A, .string S] 43)
  have i0 : (w.alloc (Obj.cells #[.int .i64 (o : Int), .int .i64 A, .string S] 43)).cell? ⟨w.heap.size, 0, none⟩ = some (.int .i64 (o : Int)) := by rw [cell_of_cells hin]; rfl
  have HM := hid (h.on H1)
  have HIN := hid hin
  have hwb : w.heap.size ≠ b := by have := h.lt; omega
  have c0 := HM.out.cS
  have OK := hid ok
  have hst := ok.high
  clear h ok hg h0 hop ho2 hvv H1 hin
  go_enter Tryz.func37, Tryz.ntmps37
  go_wp2_with fail
  refine (HK.out _).mono ?_
  rintro e w1 ⟨rfl, rfl⟩
  clear HK
  generalize w.alloc (Obj.cells #[.int .i64 (o : Int), .int .i64 A, .string S] 43) = W at HM HIN i0 c0 ⊢
  generalize w.heap.size = q at hwb HIN i0 ⊢
  generalize ksOf o = ks at *
  have hKs := kb_size ks
  have HKA := hid (fun k h => @kb_at ks k h)
  generalize tx (ks.map kb) = K at hKs HKA ⊢
  by_cases hk : m.stack.length < ks.length
  · have hd : decide (((m.stack.length : Nat) : Int) - ((ks.length : Nat) : Int) < 0) = true := by simp; omega
    have HP := hid (show needs ks m g = .stop 1 from needs_short hk)
    go_wp2
    go_ret2
    rw [HP.out]
    exact ⟨rfl, by decide, HM.out.bel⟩
  obtain ⟨N, hN⟩ : ∃ N, m.stack.length = N + ks.length := ⟨m.stack.length - ks.length, by omega⟩
  have hsub : ((m.stack.length : Nat) : Int) - ((ks.length : Nat) : Int) = (N : Int) := by omega
  obtain ⟨i0V, hiV, hz0, hz1, hz2⟩ := info_parts Tryz.infoV
  obtain ⟨ao, hao⟩ : ∃ ao, (if sc = N then so else Option.map (fun x => x.add (N * 3)) so) = ao := ⟨_, rfl⟩
  have HA := hid (cut_high HM.out.st hN hao)
  have hcap := hid hao
  have hrev := tops_rev m hk
  go_wp2_with (at_builtin; refine wpList_append_own_any _ rfl _ _ 55 rfl w0.heap.size 57 i0V _ 3 32 Tryz.underlying55 hiV hz0 hz1 hz2 rfl (by decide) (.slice none 0 0) 0 [] rfl (World.ownsRow_nil _ _ _ _) ao ks.length (sc - N) (fl encV (tops m ks.length)) rfl HA.out.1 HA.out.2.1 HA.out.2.2 (fl_one encV_one _) (by unfold maxLen; omega) (by omega) HM.out.bel.size ?_; intro v1 w2 ho1 hg1)
  have HB := hid (show Below W.heap.size W w2 from ⟨hg1.os, hg1.tape, hg1.output, hg1.size, fun k hk => hg1.block k hk (by simp [Value.ownBlock])⟩)
  have HM2 := hid (HM.out.on HB.out)
  have HO := hid ho1
  have HV := hid (show Vls w2 v1 (tops m ks.length) from Reads.own encV_len (by decide) ho1)
  obtain ⟨lo, lc, rfl⟩ := own_slice ho1
  obtain ⟨av, hav⟩ : ∃ av, tops m ks.length = av := ⟨_, rfl⟩
  have HAV := hid hav.symm
  rw [hav] at HV HO
  have hal : av.length = ks.length := by rw [← hav]; exact tops_len m hk
  have c0' := HM2.out.cS
  have i0' : w2.cell? ⟨q, 0, none⟩ = some (.int .i64 (o : Int)) := stays_cell HB.out (lt_of_block HIN.out) i0
  clear ho1 hg1 hav HA hcap hao hrev c0 i0 HM
  rw [Nat.zero_add] at HO
  go_loop [4, 5, 9] (fun _ _ i => ∃ k : Nat, k ≤ ks.length ∧ i = .int .i64 k ∧ Hid (∀ j, j < k → fitsT (ks.getD j 0) (tri (av.getD j zV)).1 = true)) (fun _ _ i => ks.length - (Go.RowKit.intOf i).toNat)
  case atStart => exact ⟨0, by omega, rfl, fun j hj => by omega⟩
  case round =>
    obtain ⟨k, hkn, rfl, HF⟩ := hrel
    by_cases hkl : k < ks.length
    · have hd4 : decide ((k : Int) < (ks.length : Int)) = true := by simp; omega
      have hkK : k < K.size := by omega
      have hKk := HKA.out k hkK
      obtain ⟨ab, aoff, rfl, habl, hac⟩ := HV.out.cells (j := k) (by omega)
      have ca := hac 0 _ (by rw [encV_tri]; rfl)
      simp only [Nat.add_zero] at ca
      have hgd : av[k]'(by omega) = av.getD k zV := by rw [List.getD_eq_getElem?_getD, List.getElem?_eq_getElem (by omega)]; rfl
      rw [hgd] at ca
      have hcs := HS.out k hkl
      clear hac hgd
      rcases hcs with hc | hc | hc
      · cases ht : (tri (av.getD k zV)).1
        · rw [ht] at ca
          have hb : ((K[k]'hkK).toNat : Int) = 63 := by rw [hKk, hc]; rfl
          have HF2 := hid (show ∀ j, j < k + 1 → fitsT (ks.getD j 0) (tri (av.getD j zV)).1 = true from upto_step HF.out (by rw [hc, ht]; rfl))
          clear hKk hc ht
          go_wp2
          go_round
          case rel => exact ⟨k + 1, by omega, by go_num, HF2⟩
          case measure => simp [Go.RowKit.intOf]; omega
        · rw [ht] at ca
          have hb : ((K[k]'hkK).toNat : Int) = 63 := by rw [hKk, hc]; rfl
          have HF2 := hid (show ∀ j, j < k + 1 → fitsT (ks.getD j 0) (tri (av.getD j zV)).1 = true from upto_step HF.out (by rw [hc, ht]; rfl))
          clear hKk hc ht
          go_wp2
          go_round
          case rel => exact ⟨k + 1, by omega, by go_num, HF2⟩
          case measure => simp [Go.RowKit.intOf]; omega
      · cases ht : (tri (av.getD k zV)).1
        · rw [ht] at ca
          have hb : ((K[k]'hkK).toNat : Int) = 110 := by rw [hKk, hc]; rfl
          have HF2 := hid (show ∀ j, j < k + 1 → fitsT (ks.getD j 0) (tri (av.getD j zV)).1 = true from upto_step HF.out (by rw [hc, ht]; rfl))
          clear hKk hc ht
          go_wp2
          go_round
          case rel => exact ⟨k + 1, by omega, by go_num, HF2⟩
          case measure => simp [Go.RowKit.intOf]; omega
        · rw [ht] at ca
          have hb : ((K[k]'hkK).toNat : Int) = 110 := by rw [hKk, hc]; rfl
          have HP := hid (show needs ks m g = .stop 2 from needs_unfit hk (by rw [← HAV.out]; exact fit_not hkl (by rw [hc, ht]; rfl)))
          clear hKk hc ht
          go_wp2
          go_ret2
          rw [HP.out]
          exact ⟨rfl, by decide, HM2.out.bel⟩
      · cases ht : (tri (av.getD k zV)).1
        · rw [ht] at ca
          have hb : ((K[k]'hkK).toNat : Int) = 116 := by rw [hKk, hc]; rfl
          have HP := hid (show needs ks m g = .stop 2 from needs_unfit hk (by rw [← HAV.out]; exact fit_not hkl (by rw [hc, ht]; rfl)))
          clear hKk hc ht
          go_wp2
          go_ret2
          rw [HP.out]
          exact ⟨rfl, by decide, HM2.out.bel⟩
        · rw [ht] at ca
          have hb : ((K[k]'hkK).toNat : Int) = 116 := by rw [hKk, hc]; rfl
          have HF2 := hid (show ∀ j, j < k + 1 → fitsT (ks.getD j 0) (tri (av.getD j zV)).1 = true from upto_step HF.out (by rw [hc, ht]; rfl))
          clear hKk hc ht
          go_wp2
          go_round
          case rel => exact ⟨k + 1, by omega, by go_num, HF2⟩
          case measure => simp [Go.RowKit.intOf]; omega
    have hd4 : decide ((k : Int) < (ks.length : Int)) = false := by simp; omega
    obtain rfl : k = ks.length := by omega
    have HFT := hid (show allFit ks av = true from List.all_eq_true.2 (fun j hj => HF.out j (List.mem_range.1 hj)))
    have HL := hid (cut_low HM2.out.st hN)
    have hNsc : (N : Int) ≤ (sc : Int) := by have := HL.out.1; omega
    have f0 := HM2.out.free 0
    have hq2 : q < w2.heap.size := by have := HB.out.size; have := lt_of_block HIN.out; omega
    have i1' : w2.cell? ⟨q, 1, none⟩ = some (.int .i64 A) := stays_cell HB.out (lt_of_block HIN.out) (by rw [cell_of_cells HIN.out]; rfl)
    have i2' : w2.cell? ⟨q, 2, none⟩ = some (.string S) := stays_cell HB.out (lt_of_block HIN.out) (by rw [cell_of_cells HIN.out]; rfl)
    have HFIT := hid (show needs ks m g = actL key vals ((o : Int), A, S) av { m with stack := m.stack.drop ks.length } from by
      rw [needs_fit hk (by rw [← HAV.out]; exact HFT.out), ← HAV.out, ← HGG.out])
    by_cases h19 : (o : Int) = 19
    · have HP := hid (HFIT.out.trans (if_pos (.inl (by simp only; omega))))
      go_wp2_with (at_builtin; refine wpList_append_own_any _ rfl _ _ 55 rfl w0.heap.size 57 i0V _ 3 32 Tryz.underlying55 hiV hz0 hz1 hz2 rfl (by decide) (.slice none 0 0) 0 [] rfl (World.ownsRow_nil _ _ _ _) so N sc (fl encV (m.stack.drop ks.length).reverse) rfl HL.out.2.1 HL.out.2.2.1 HL.out.2.2.2 (fl_one encV_one _) (by unfold maxLen; omega) (by omega) HM2.out.bel.size ?_; (intro v3 w3 ho3 hg3); (have HB3 := hid (show Below w2.heap.size w2 w3 from ⟨hg3.os, hg3.tape, hg3.output, hg3.size, fun k hk => hg3.block k hk (by simp [Value.ownBlock])⟩)); (obtain ⟨ao3, ac3, rfl⟩ := own_slice ho3); (have HO3 := hid ho3); (have d0 := (HM2.out.on HB3.out).cS); (have g0 := (HM2.out.on HB3.out).free 0); (have j0 : (w3.setCell ⟨b, 0, none⟩ (.slice ao3 N ac3)).cell? ⟨q, 0, none⟩ = some (.int .i64 (o : Int)) := (set_cell_off hwb).trans (stays_cell HB3.out hq2 i0')); (have j1 : (w3.setCell ⟨b, 0, none⟩ (.slice ao3 N ac3)).cell? ⟨q, 1, none⟩ = some (.int .i64 A) := (set_cell_off hwb).trans (stays_cell HB3.out hq2 i1')); (have j2 : (w3.setCell ⟨b, 0, none⟩ (.slice ao3 N ac3)).cell? ⟨q, 2, none⟩ = some (.string S) := (set_cell_off hwb).trans (stays_cell HB3.out hq2 i2')); clear ho3 hg3)
      have HM4 := hid (show Mac w0 b key vv (.slice ao3 N ac3) vt { m with stack := m.stack.drop ks.length } (w3.setCell ⟨b, 0, none⟩ (.slice ao3 N ac3)) from Mac.stack (l := m.stack.drop ks.length) (HM2.out.on HB3.out) (by rw [List.length_drop, show m.stack.length - ks.length = N by omega]; simpa using HO3.out))
      go_quiet (fail)
      go_wp2
      go_ret2
      rw [HP.out]
      exact ⟨rfl, _, _, HM4.out.on (below_drew _ _)⟩
    by_cases h20 : (o : Int) = 20
    · obtain ⟨n1, hn1⟩ : ∃ n1, av = [.num n1] := one_num (HJ.out.2 (by omega)) hal HFT.out
      obtain ⟨ab, aoff, rfl, habl, hac⟩ := HV.out.cells (j := 0) (by rw [hn1]; simp)
      have ca1 : w2.cell? ⟨ab, aoff + 1, none⟩ = some (.int .i64 n1) := by
        have := hac 1 (.int .i64 n1) (by simp only [hn1, List.getElem_cons_zero]; rfl)
        simpa using this
      obtain ⟨cs2, hcs2⟩ := HM2.out.heap
      have hab : ab ≠ b := fun e => owns_off HO.out hcs2 (by decide) (by rw [e]; rfl)
      have hks2 : (0 : Int) < (ks.length : Int) := by rw [HJ.out.2 (by omega)]; decide
      have HN1 := hid hn1
      clear hac hn1
      by_cases hz : n1 = 0
      · have HACT := hid (HFIT.out.trans (if_neg (by rintro (h | ⟨_, h⟩); (simp only at h; omega); (rw [HN1.out] at h; exact h hz))))
        subst hz
        go_wp2_with (at_builtin; refine wpList_append_own_any _ rfl _ _ 55 rfl w0.heap.size 57 i0V _ 3 32 Tryz.underlying55 hiV hz0 hz1 hz2 rfl (by decide) (.slice none 0 0) 0 [] rfl (World.ownsRow_nil _ _ _ _) so N sc (fl encV (m.stack.drop ks.length).reverse) rfl HL.out.2.1 HL.out.2.2.1 HL.out.2.2.2 (fl_one encV_one _) (by unfold maxLen; omega) (by omega) HM2.out.bel.size ?_; (intro v3 w3 ho3 hg3); (have HB3 := hid (show Below w2.heap.size w2 w3 from ⟨hg3.os, hg3.tape, hg3.output, hg3.size, fun k hk => hg3.block k hk (by simp [Value.ownBlock])⟩)); (obtain ⟨ao3, ac3, rfl⟩ := own_slice ho3); (have HO3 := hid ho3); (have d0 := (HM2.out.on HB3.out).cS); (have g0 := (HM2.out.on HB3.out).free 0); (have j0 : (w3.setCell ⟨b, 0, none⟩ (.slice ao3 N ac3)).cell? ⟨q, 0, none⟩ = some (.int .i64 (o : Int)) := (set_cell_off hwb).trans (stays_cell HB3.out hq2 i0')); (have j1 : (w3.setCell ⟨b, 0, none⟩ (.slice ao3 N ac3)).cell? ⟨q, 1, none⟩ = some (.int .i64 A) := (set_cell_off hwb).trans (stays_cell HB3.out hq2 i1')); (have j2 : (w3.setCell ⟨b, 0, none⟩ (.slice ao3 N ac3)).cell? ⟨q, 2, none⟩ = some (.string S) := (set_cell_off hwb).trans (stays_cell HB3.out hq2 i2')); (have j3 : (w3.setCell ⟨b, 0, none⟩ (.slice ao3 N ac3)).cell? ⟨ab, aoff + 1, none⟩ = some (.int .i64 0) := (set_cell_off hab).trans (stays_cell HB3.out habl ca1)); clear ho3 hg3)
        have HM4 := hid (show Mac w0 b key vv (.slice ao3 N ac3) vt { m with stack := m.stack.drop ks.length } (w3.setCell ⟨b, 0, none⟩ (.slice ao3 N ac3)) from Mac.stack (l := m.stack.drop ks.length) (HM2.out.on HB3.out) (by rw [List.length_drop, show m.stack.length - ks.length = N by omega]; simpa using HO3.out))
        obtain ⟨cs3, hcs3⟩ := (HM2.out.on HB3.out).heap
        have HO4 := hid (show (w3.setCell ⟨b, 0, none⟩ (.slice ao3 N ac3)).ownsRow w0.heap.size 57 3 (.slice (some ⟨ab, aoff, none⟩) ks.length lc) ks.length (fl encV av) from by simpa using owns_set (owns_below HO.out HB3.out) hcs3 (by decide) 0 (.slice ao3 N ac3))
        clear hcs3
        have HV4 := hid (show Vls (w3.setCell ⟨b, 0, none⟩ (.slice ao3 N ac3)) (.slice (some ⟨ab, aoff, none⟩) ks.length lc) av from Reads.own encV_len (by decide) HO4.out)
        obtain ⟨cs4, hcs4⟩ := HM4.out.heap
        have HNE := hid (owns_off HO4.out hcs4 (by decide))
        have HNE2 := hid (owns_apart HO4.out HM4.out.tl (by decide))
        clear hcs4
        generalize w3.setCell ⟨b, 0, none⟩ (.slice ao3 N ac3) = W4 at HM4 HO4 HV4 HNE HNE2 j0 j1 j2 j3 ⊢
        have HC := hid (HD.out { m with stack := m.stack.drop ks.length } (ok_drop OK.out _) _ _ W4 HM4.out h19 _ av HV4.out hal HFT.out (by rw [HAV.out]; exact ok_tops OK.out _) HNE.out HNE2.out)
        rw [show (Value.agg #[.int .i64 (o : Int), .int .i64 A, .string S]) = .agg #[.int .i64 20, .int .i64 A, .string S] by rw [h20]] at HC
        refine HC.out.mono ?_
        clear HC
        rintro e w5 hd5
        clear j0 j1 j2 j3 HNE HNE2 HV4 HO4
        cases hD : doesL key vals ((o : Int), A, S) av { m with stack := m.stack.drop ks.length } with
        | fail r =>
          rw [hD] at hd5
          obtain ⟨vo, rfl, hr, hb5⟩ := hd5
          have HP := hid (show needs ks m g = .stop r from HACT.out.trans (by rw [hD]; rfl))
          have HB5 := hid hb5
          have HR := hid hr
          have hrz : (r != 0) = true := by simpa using hr
          clear hb5 hD
          go_wp2
          go_ret2
          rw [HP.out]
          exact ⟨rfl, HR.out, HB5.out⟩
        | give out m5 =>
          rw [hD] at hd5
          obtain ⟨vo, vs5, vt5, rfl, hvo, hm5⟩ := hd5
          obtain ⟨hout, hst5⟩ := doesL_short hD
          have HP := hid (show needs ks m g = push m5 m5.stack out from HACT.out.trans (by rw [hD]; rfl))
          have HM5 := hid hm5
          have HVO := hid hvo
          have hl5 : m5.stack.length ≤ 16 := by rw [hst5]; simp; omega
          obtain ⟨oo, oc, rfl, ho1, ho2, ho3, ho4⟩ := hvo
          obtain ⟨s5, sc5, rfl⟩ := own_slice hm5.st
          clear hm5 hD hst5 ho1 ho2 ho3 ho4 HACT HD
          have hzz : ((0 : Int) != 0) = false := rfl
          go_wp2
          go_loop [4, 5, 12] (fun _ _ i => ∃ k : Nat, k ≤ out.length ∧ i = .int .i64 k ∧ Hid (∀ j, j < k → (out.getD j zV).big = false)) (fun _ _ i => out.length - (Go.RowKit.intOf i).toNat)
          case atStart => exact ⟨0, by omega, rfl, fun j hj => by omega⟩
          case round =>
            obtain ⟨k, hkn, rfl, HF2⟩ := hrel
            by_cases hko : k < out.length
            · have hd4 : decide ((k : Int) < (out.length : Int)) = true := by simp; omega
              obtain ⟨ob, ooff, rfl, hobl, hoc⟩ := HVO.out.cells (j := k) hko
              have hgd : out[k]'hko = out.getD k zV := by rw [List.getD_eq_getElem?_getD, List.getElem?_eq_getElem hko]; rfl
              have ca := hoc 0 _ (by rw [encV_tri]; rfl)
              have cb := hoc 2 _ (by rw [encV_tri]; rfl)
              simp only [Nat.add_zero] at ca
              rw [hgd] at ca cb
              have hbt := big_tri (out.getD k zV)
              clear hoc hgd
              generalize hy : out.getD k zV = y at ca cb hbt
              have HY := hid hy
              clear hy
              generalize (tri y).2.2 = ys at cb hbt
              cases ht : (tri y).1
              · rw [ht] at ca hbt
                have HF3 := hid (upto_big HF2.out (by rw [HY.out]; exact hbt))
                clear hbt ht
                go_wp2
                go_round
                case rel => exact ⟨k + 1, by omega, by go_num, HF3⟩
                case measure => simp [Go.RowKit.intOf]; omega
              · rw [ht] at ca hbt
                by_cases hys : 64 < ys.size
                · have hd5 : decide ((64 : Int) < (ys.size : Int)) = true := by simp; omega
                  have HP2 := hid (show push m5 m5.stack out = .stop 4 from if_pos (some_big hko (by rw [HY.out, hbt]; simpa using hys)))
                  clear hbt ht hys
                  go_wp2
                  go_ret2
                  rw [HP.out, HP2.out]
                  exact ⟨rfl, by decide, HM5.out.bel⟩
                · have hd5 : decide ((64 : Int) < (ys.size : Int)) = false := by simp; omega
                  have HF3 := hid (upto_big HF2.out (by rw [HY.out, hbt]; simpa using hys))
                  clear hbt ht hys
                  go_wp2
                  go_round
                  case rel => exact ⟨k + 1, by omega, by go_num, HF3⟩
                  case measure => simp [Go.RowKit.intOf]; omega
            have hd4 : decide ((k : Int) < (out.length : Int)) = false := by simp; omega
            obtain rfl : k = out.length := by omega
            have HNB := hid (nobig_all HF2.out)
            have c0 := HM5.out.cS
            by_cases hroom : 16 < m5.stack.length + out.length
            · have hd5 : decide ((16 : Int) < (m5.stack.length : Int) + (out.length : Int)) = true := by simp; omega
              have HP2 := hid (show push m5 m5.stack out = .stop 1 from (if_neg (by rw [HNB.out]; simp)).trans (if_pos hroom))
              go_wp2
              go_ret2
              rw [HP.out, HP2.out]
              exact ⟨rfl, by decide, HM5.out.bel⟩
            have hd5 : decide ((16 : Int) < (m5.stack.length : Int) + (out.length : Int)) = false := by simp; omega
            have HP2 := hid (show push m5 m5.stack out = .next { m5 with stack := out.reverse ++ m5.stack } from (if_neg (by rw [HNB.out]; simp)).trans (if_neg hroom))
            have HNO := hid (show oo = none → out.length = 0 ∧ oc = 0 from fun e => by obtain ⟨a1, a2, e1, e2, e3, e4, e5⟩ := HVO.out; cases e1; exact ⟨by rw [(e4 e).1]; rfl, (e4 e).2⟩)
            go_wp2_with (at_builtin; refine wpList_append_own_any _ rfl _ _ 55 rfl w0.heap.size 57 i0V _ 3 32 Tryz.underlying55 hiV hz0 hz1 hz2 rfl (by decide) (.slice s5 m5.stack.length sc5) m5.stack.length (fl encV m5.stack.reverse) rfl HM5.out.st oo out.length oc (fl encV out) rfl (fl_length encV_len out) HNO.out (HVO.out.news encV_len (by decide) (Below.refl _ _)) (fl_one encV_one _) (by unfold maxLen; omega) (by omega) HM5.out.bel.size ?_; (intro v6 w6 ho6 hg6); (obtain ⟨ao6, ac6, rfl⟩ := own_slice ho6); (have HO6 := hid ho6); (have HG6 := hid hg6); (have d6 : w6.cell? ⟨b, 0, none⟩ = some (.slice s5 m5.stack.length sc5) := (World.cell?_of_block (a := ⟨b, 0, none⟩) (HM5.out.heldS hg6)).trans HM5.out.cS); (have g6 : w6.frozen? ⟨b, 0, none⟩ = false := HM5.out.freeAt (HM5.out.heldS hg6) 0); clear ho6 hg6)
            go_ret2
            rw [HP.out, HP2.out]
            refine ⟨rfl, _, _, Mac.pushed (l := out.reverse ++ m5.stack) HM5.out ?_ HG6.out⟩
            rw [List.reverse_append, List.reverse_reverse, fl_append, List.length_append, List.length_reverse, Nat.add_comm out.length]
            exact HO6.out
      · have HP := hid (HFIT.out.trans (if_pos (.inr ⟨by simp only; omega, by rw [HN1.out]; exact hz⟩)))
        go_wp2_with (at_builtin; refine wpList_append_own_any _ rfl _ _ 55 rfl w0.heap.size 57 i0V _ 3 32 Tryz.underlying55 hiV hz0 hz1 hz2 rfl (by decide) (.slice none 0 0) 0 [] rfl (World.ownsRow_nil _ _ _ _) so N sc (fl encV (m.stack.drop ks.length).reverse) rfl HL.out.2.1 HL.out.2.2.1 HL.out.2.2.2 (fl_one encV_one _) (by unfold maxLen; omega) (by omega) HM2.out.bel.size ?_; (intro v3 w3 ho3 hg3); (have HB3 := hid (show Below w2.heap.size w2 w3 from ⟨hg3.os, hg3.tape, hg3.output, hg3.size, fun k hk => hg3.block k hk (by simp [Value.ownBlock])⟩)); (obtain ⟨ao3, ac3, rfl⟩ := own_slice ho3); (have HO3 := hid ho3); (have d0 := (HM2.out.on HB3.out).cS); (have g0 := (HM2.out.on HB3.out).free 0); (have j0 : (w3.setCell ⟨b, 0, none⟩ (.slice ao3 N ac3)).cell? ⟨q, 0, none⟩ = some (.int .i64 (o : Int)) := (set_cell_off hwb).trans (stays_cell HB3.out hq2 i0')); (have j1 : (w3.setCell ⟨b, 0, none⟩ (.slice ao3 N ac3)).cell? ⟨q, 1, none⟩ = some (.int .i64 A) := (set_cell_off hwb).trans (stays_cell HB3.out hq2 i1')); (have j2 : (w3.setCell ⟨b, 0, none⟩ (.slice ao3 N ac3)).cell? ⟨q, 2, none⟩ = some (.string S) := (set_cell_off hwb).trans (stays_cell HB3.out hq2 i2')); (have j3 : (w3.setCell ⟨b, 0, none⟩ (.slice ao3 N ac3)).cell? ⟨ab, aoff + 1, none⟩ = some (.int .i64 n1) := (set_cell_off hab).trans (stays_cell HB3.out habl ca1)); clear ho3 hg3)
        have HM4 := hid (show Mac w0 b key vv (.slice ao3 N ac3) vt { m with stack := m.stack.drop ks.length } (w3.setCell ⟨b, 0, none⟩ (.slice ao3 N ac3)) from Mac.stack (l := m.stack.drop ks.length) (HM2.out.on HB3.out) (by rw [List.length_drop, show m.stack.length - ks.length = N by omega]; simpa using HO3.out))
        go_quiet (fail)
        go_wp2
        go_ret2
        rw [HP.out]
        exact ⟨rfl, _, _, HM4.out.on (below_drew _ _)⟩
    have HACT := hid (HFIT.out.trans (if_neg (by rintro (h | ⟨h, _⟩) <;> (simp only at h; omega))))
    go_wp2_with (at_builtin; refine wpList_append_own_any _ rfl _ _ 55 rfl w0.heap.size 57 i0V _ 3 32 Tryz.underlying55 hiV hz0 hz1 hz2 rfl (by decide) (.slice none 0 0) 0 [] rfl (World.ownsRow_nil _ _ _ _) so N sc (fl encV (m.stack.drop ks.length).reverse) rfl HL.out.2.1 HL.out.2.2.1 HL.out.2.2.2 (fl_one encV_one _) (by unfold maxLen; omega) (by omega) HM2.out.bel.size ?_; (intro v3 w3 ho3 hg3); (have HB3 := hid (show Below w2.heap.size w2 w3 from ⟨hg3.os, hg3.tape, hg3.output, hg3.size, fun k hk => hg3.block k hk (by simp [Value.ownBlock])⟩)); (obtain ⟨ao3, ac3, rfl⟩ := own_slice ho3); (have HO3 := hid ho3); (have d0 := (HM2.out.on HB3.out).cS); (have g0 := (HM2.out.on HB3.out).free 0); (have j0 : (w3.setCell ⟨b, 0, none⟩ (.slice ao3 N ac3)).cell? ⟨q, 0, none⟩ = some (.int .i64 (o : Int)) := (set_cell_off hwb).trans (stays_cell HB3.out hq2 i0')); (have j1 : (w3.setCell ⟨b, 0, none⟩ (.slice ao3 N ac3)).cell? ⟨q, 1, none⟩ = some (.int .i64 A) := (set_cell_off hwb).trans (stays_cell HB3.out hq2 i1')); (have j2 : (w3.setCell ⟨b, 0, none⟩ (.slice ao3 N ac3)).cell? ⟨q, 2, none⟩ = some (.string S) := (set_cell_off hwb).trans (stays_cell HB3.out hq2 i2')); clear ho3 hg3)
    have HM4 := hid (show Mac w0 b key vv (.slice ao3 N ac3) vt { m with stack := m.stack.drop ks.length } (w3.setCell ⟨b, 0, none⟩ (.slice ao3 N ac3)) from Mac.stack (l := m.stack.drop ks.length) (HM2.out.on HB3.out) (by rw [List.length_drop, show m.stack.length - ks.length = N by omega]; simpa using HO3.out))
    obtain ⟨cs3, hcs3⟩ := (HM2.out.on HB3.out).heap
    have HO4 := hid (show (w3.setCell ⟨b, 0, none⟩ (.slice ao3 N ac3)).ownsRow w0.heap.size 57 3 (.slice lo ks.length lc) ks.length (fl encV av) from by simpa using owns_set (owns_below HO.out HB3.out) hcs3 (by decide) 0 (.slice ao3 N ac3))
    clear hcs3
    have HV4 := hid (show Vls (w3.setCell ⟨b, 0, none⟩ (.slice ao3 N ac3)) (.slice lo ks.length lc) av from Reads.own encV_len (by decide) HO4.out)
    obtain ⟨cs4, hcs4⟩ := HM4.out.heap
    have HNE := hid (owns_off HO4.out hcs4 (by decide))
    have HNE2 := hid (owns_apart HO4.out HM4.out.tl (by decide))
    clear hcs4
    generalize w3.setCell ⟨b, 0, none⟩ (.slice ao3 N ac3) = W4 at HM4 HO4 HV4 HNE HNE2 j0 j1 j2 ⊢
    refine (HD.out { m with stack := m.stack.drop ks.length } (ok_drop OK.out _) _ _ W4 HM4.out h19 _ av HV4.out hal HFT.out (by rw [HAV.out]; exact ok_tops OK.out _) HNE.out HNE2.out).mono ?_
    rintro e w5 hd5
    clear j0 j1 j2 HNE HNE2 HV4 HO4
    cases hD : doesL key vals ((o : Int), A, S) av { m with stack := m.stack.drop ks.length } with
    | fail r =>
      rw [hD] at hd5
      obtain ⟨vo, rfl, hr, hb5⟩ := hd5
      have HP := hid (show needs ks m g = .stop r from HACT.out.trans (by rw [hD]; rfl))
      have HB5 := hid hb5
      have HR := hid hr
      have hrz : (r != 0) = true := by simpa using hr
      clear hb5 hD
      go_wp2
      go_ret2
      rw [HP.out]
      exact ⟨rfl, HR.out, HB5.out⟩
    | give out m5 =>
      rw [hD] at hd5
      obtain ⟨vo, vs5, vt5, rfl, hvo, hm5⟩ := hd5
      obtain ⟨hout, hst5⟩ := doesL_short hD
      have HP := hid (show needs ks m g = push m5 m5.stack out from HACT.out.trans (by rw [hD]; rfl))
      have HM5 := hid hm5
      have HVO := hid hvo
      have hl5 : m5.stack.length ≤ 16 := by rw [hst5]; simp; omega
      obtain ⟨oo, oc, rfl, ho1, ho2, ho3, ho4⟩ := hvo
      obtain ⟨s5, sc5, rfl⟩ := own_slice hm5.st
      clear hm5 hD hst5 ho1 ho2 ho3 ho4 HACT HD
      have hzz : ((0 : Int) != 0) = false := rfl
      go_wp2
      go_loop [4, 5, 12] (fun _ _ i => ∃ k : Nat, k ≤ out.length ∧ i = .int .i64 k ∧ Hid (∀ j, j < k → (out.getD j zV).big = false)) (fun _ _ i => out.length - (Go.RowKit.intOf i).toNat)
      case atStart => exact ⟨0, by omega, rfl, fun j hj => by omega⟩
      case round =>
        obtain ⟨k, hkn, rfl, HF2⟩ := hrel
        by_cases hko : k < out.length
        · have hd4 : decide ((k : Int) < (out.length : Int)) = true := by simp; omega
          obtain ⟨ob, ooff, rfl, hobl, hoc⟩ := HVO.out.cells (j := k) hko
          have hgd : out[k]'hko = out.getD k zV := by rw [List.getD_eq_getElem?_getD, List.getElem?_eq_getElem hko]; rfl
          have ca := hoc 0 _ (by rw [encV_tri]; rfl)
          have cb := hoc 2 _ (by rw [encV_tri]; rfl)
          simp only [Nat.add_zero] at ca
          rw [hgd] at ca cb
          have hbt := big_tri (out.getD k zV)
          clear hoc hgd
          generalize hy : out.getD k zV = y at ca cb hbt
          have HY := hid hy
          clear hy
          generalize (tri y).2.2 = ys at cb hbt
          cases ht : (tri y).1
          · rw [ht] at ca hbt
            have HF3 := hid (upto_big HF2.out (by rw [HY.out]; exact hbt))
            clear hbt ht
            go_wp2
            go_round
            case rel => exact ⟨k + 1, by omega, by go_num, HF3⟩
            case measure => simp [Go.RowKit.intOf]; omega
          · rw [ht] at ca hbt
            by_cases hys : 64 < ys.size
            · have hd5 : decide ((64 : Int) < (ys.size : Int)) = true := by simp; omega
              have HP2 := hid (show push m5 m5.stack out = .stop 4 from if_pos (some_big hko (by rw [HY.out, hbt]; simpa using hys)))
              clear hbt ht hys
              go_wp2
              go_ret2
              rw [HP.out, HP2.out]
              exact ⟨rfl, by decide, HM5.out.bel⟩
            · have hd5 : decide ((64 : Int) < (ys.size : Int)) = false := by simp; omega
              have HF3 := hid (upto_big HF2.out (by rw [HY.out, hbt]; simpa using hys))
              clear hbt ht hys
              go_wp2
              go_round
              case rel => exact ⟨k + 1, by omega, by go_num, HF3⟩
              case measure => simp [Go.RowKit.intOf]; omega
        have hd4 : decide ((k : Int) < (out.length : Int)) = false := by simp; omega
        obtain rfl : k = out.length := by omega
        have HNB := hid (nobig_all HF2.out)
        have c0 := HM5.out.cS
        by_cases hroom : 16 < m5.stack.length + out.length
        · have hd5 : decide ((16 : Int) < (m5.stack.length : Int) + (out.length : Int)) = true := by simp; omega
          have HP2 := hid (show push m5 m5.stack out = .stop 1 from (if_neg (by rw [HNB.out]; simp)).trans (if_pos hroom))
          go_wp2
          go_ret2
          rw [HP.out, HP2.out]
          exact ⟨rfl, by decide, HM5.out.bel⟩
        have hd5 : decide ((16 : Int) < (m5.stack.length : Int) + (out.length : Int)) = false := by simp; omega
        have HP2 := hid (show push m5 m5.stack out = .next { m5 with stack := out.reverse ++ m5.stack } from (if_neg (by rw [HNB.out]; simp)).trans (if_neg hroom))
        have HNO := hid (show oo = none → out.length = 0 ∧ oc = 0 from fun e => by obtain ⟨a1, a2, e1, e2, e3, e4, e5⟩ := HVO.out; cases e1; exact ⟨by rw [(e4 e).1]; rfl, (e4 e).2⟩)
        go_wp2_with (at_builtin; refine wpList_append_own_any _ rfl _ _ 55 rfl w0.heap.size 57 i0V _ 3 32 Tryz.underlying55 hiV hz0 hz1 hz2 rfl (by decide) (.slice s5 m5.stack.length sc5) m5.stack.length (fl encV m5.stack.reverse) rfl HM5.out.st oo out.length oc (fl encV out) rfl (fl_length encV_len out) HNO.out (HVO.out.news encV_len (by decide) (Below.refl _ _)) (fl_one encV_one _) (by unfold maxLen; omega) (by omega) HM5.out.bel.size ?_; (intro v6 w6 ho6 hg6); (obtain ⟨ao6, ac6, rfl⟩ := own_slice ho6); (have HO6 := hid ho6); (have HG6 := hid hg6); (have d6 : w6.cell? ⟨b, 0, none⟩ = some (.slice s5 m5.stack.length sc5) := (World.cell?_of_block (a := ⟨b, 0, none⟩) (HM5.out.heldS hg6)).trans HM5.out.cS); (have g6 : w6.frozen? ⟨b, 0, none⟩ = false := HM5.out.freeAt (HM5.out.heldS hg6) 0); clear ho6 hg6)
        go_ret2
        rw [HP.out, HP2.out]
        refine ⟨rfl, _, _, Mac.pushed (l := out.reverse ++ m5.stack) HM5.out ?_ HG6.out⟩
        rw [List.reverse_append, List.reverse_reverse, fl_append, List.length_append, List.length_reverse, Nat.add_comm out.length]
        exact HO6.out
end Go.Proofs.YtpggfdnpbipckaaGreatDoor
