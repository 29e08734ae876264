/- MapperPushes: no more of a part are pushed than the window, none that were acked in the present epoch, each with its own pairs. -/
import Derived.Test.YtfimoobgbodbmaaGreatDoorGMpE
namespace Go.Proofs.YtfimoobgbodbmaaGreatDoor
open Go.RowKit Go.Lib
set_option linter.unusedVariables false
set_option maxRecDepth 100000

theorem low_q (x n : Int) {k : Int} (h1 : 1 ≤ n) (h2 : n ≤ 4611686018427387904) (h : low x n = k) (w : World) (m : Nat) : Calls Tryz.prog 30 #[.int .i64 x, .int .i64 n] (w.drewN m) fun e w' => e = .returned (.int .i64 k) ∧ ∃ t, w' = w.drewN t :=
  (low_calls x n h1 h2 (w.drewN m)).mono fun e w' ⟨he, hw⟩ => ⟨by rw [he, h], m, hw.symm⟩
set_option maxRecDepth 100000 in
set_option maxHeartbeats 24000000 in
theorem mapperPushes_main (w : World) (T : Tabs w) (s : SlJ) (c : CfgV) (hj : JobIs w s.so s.mo s.co s.ro s.ko s.sc s.mc s.cc s.rc s.kc c.job) (fit : JobFit c.job) (split a : Int) (lo : Option Addr) (lc : Nat) (l : List ActV) (hln : lo = none → l = [] ∧ lc = 0) (hla : l ≠ [] → ∃ lb loff, lo = some ⟨lb, loff, none⟩ ∧ lb < w.heap.size ∧ Acts w lb loff l) (hll : l.length ≤ 9223372036854775807) :
    Calls Tryz.prog 5 #[cfgV s c, .int .i64 split, .int .i64 a, .slice lo l.length lc] w fun e w' => e = .returned (.bool true) ∧ Below w.heap.size w w' := by
  have HF := hid (Cf.new w s c)
  have HJ := hid hj
  have HT := hid T
  have HFit := hid fit
  have HLN := hid hln
  have HLA := hid hla
  have hnot : ∀ (x : Bool) (w : World), (Op.unary .not (.bool x)).run Tryz.prog w = .ok (.bool (!x)) w := fun _ _ => rfl
  clear T hj fit hln hla
  go_enter Tryz.func5, Tryz.ntmps5
  go_wp2_with fail
  refine (greatJob_any c.job s.so s.mo s.co s.ro s.ko s.sc s.mc s.cc s.rc s.kc _ (HJ.out.below HF.out.bel)).mono ?_
  rintro e w1 ⟨⟨g, rfl⟩, hb1⟩
  replace HF := hid (HF.out.on hb1)
  clear hb1
  cases g
  case' true =>
    go_wp2_with fail
    refine (awake19 _ (HT.out.on HF.out.bel)).mono ?_
    rintro e w2 ⟨rfl, hb2⟩
    replace HF := hid (HF.out.on hb2)
    clear hb2
    go_wp2
    go_ret
    exact ⟨rfl, HF.out.bel⟩
  obtain ⟨c0, c1, c2, c3, c4, c5, c6, c7, c8, c9, c10, c11⟩ := HF.out.eqs
  go_wp2_with fail
  refine (mayConfig_any c s.so s.mo s.co s.ro s.ko s.sc s.mc s.cc s.rc s.kc _ (HJ.out.below HF.out.bel)).mono ?_
  rintro e w2 ⟨rfl, hb2⟩
  replace HF := hid (HF.out.on hb2)
  clear hb2 c0 c1 c2 c3 c4 c5 c6 c7 c8 c9 c10 c11
  obtain ⟨gm, hgm⟩ : ∃ g, mayC c = g := ⟨_, rfl⟩
  have HM := hid hgm
  rw [hgm]
  clear hgm
  cases gm
  case' false =>
    go_wp2_with fail
    refine (awake19 _ (HT.out.on HF.out.bel)).mono ?_
    rintro e w3 ⟨rfl, hb3⟩
    replace HF := hid (HF.out.on hb3)
    clear hb3
    go_wp2
    go_ret
    exact ⟨rfl, HF.out.bel⟩
  by_cases hl60 : l.length ≤ 60
  case neg =>
    have d60 : decide ((60 : Int) < (l.length : Int)) = true := by simp; omega
    go_wp2_with fail
    refine (awake19 _ (HT.out.on HF.out.bel)).mono ?_
    rintro e w3 ⟨rfl, hb3⟩
    replace HF := hid (HF.out.on hb3)
    clear hb3
    go_wp2
    go_ret
    exact ⟨rfl, HF.out.bel⟩
  have d60 : decide ((60 : Int) < (l.length : Int)) = false := by simp; omega
  have hnums := mayJ_nums (mayC_job HM.out)
  have htr := mayC_tries HM.out
  obtain ⟨K, hK, hK6⟩ := low_nat split c.job.splits.length (by omega)
  obtain ⟨A1, hA1, hA13⟩ := low_nat a c.tries.toNat (by omega)
  rw [show ((c.tries.toNat : Nat) : Int) = c.tries by omega] at hA1
  have HK := hid hK
  have HA1 := hid hA1
  have hA3 : A1 ≤ 2 := by omega
  have HBm := hid (show Base w c K (1 + (A1 : Int)) from ⟨HM.out, HFit.out, HT.out, hK6, by omega, by omega⟩)
  have HWa := hid (show IntKind.i64.wrap (1 + (A1 : Int)) = 1 + (A1 : Int) by rw [IntKind.wrap_i64]; omega)
  have HNums := hid hnums
  have HTr := hid htr
  have hsl := hnums.2.2.2
  clear hK hA1 hnums
  obtain ⟨c0, c1, c2, c3, c4, c5, c6, c7, c8, c9, c10, c11⟩ := HF.out.eqs
  clear c0 c1 c2 c3 c4 c5 c6 c7 c8 c9 c10 c11
  have k0 := HF.out.eqs.1
  have k10 : w2.cell? ⟨w.heap.size, 10, none⟩ = some (.int .i64 c.tries) := cell_of_cells HF.out.obj
  have HQ1 := hid (fun m => low_q split (c.job.splits.length : Nat) (by omega) (by omega) HK.out w2 m)
  have HQ2 := hid (fun m => low_q a c.tries (by omega) (by omega) HA1.out w2 m)
  go_upto_region 3 with fail
  go_quiet ((first | (go_at_call 30; with_reducible exact HQ1.out _) | (go_at_call 30; with_reducible exact HQ2.out _)))
  have HF3 := hid (HF.out.on (below_drew w2 nq))
  try rw [HWa.out]
  clear k0 k10 HF HK HA1 HWa HQ1 HQ2
  generalize w2.drewN nq = w3 at *
  obtain ⟨c0, c1, c2, c3, c4, c5, c6, c7, c8, c9, c10, c11⟩ := HF3.out.eqs
  go_wp2_with fail
  refine (mpNew_any HBm.out HF3.out.bel (HJ.out.below HF3.out.bel)).mono ?_
  rintro e w5 ⟨bm, sm, I1, rfl, hm5, hi5, hb5⟩
  have HF5 := hid (HF3.out.on hb5)
  have HM5 := hid hm5
  have HI5 := hid (show ∀ g, I1 g → w.heap.size < g from fr_above HF3.out hi5 hm5)
  clear hm5 hi5 hb5 c0 c1 c2 c3 c4 c5 c6 c7 c8 c9 c10 c11 HF3
  have hE6 := ArI.new w5
  have hX7 := ArI.new (w5.alloc (.cells #[.int .i64 0, .int .i64 0, .int .i64 0, .int .i64 0] 68))
  have hb6 := alloc_one w5 (.cells #[.int .i64 0, .int .i64 0, .int .i64 0, .int .i64 0] 68)
  have hb7 := alloc_one (w5.alloc (.cells #[.int .i64 0, .int .i64 0, .int .i64 0, .int .i64 0] 68)) (.cells #[.int .i64 0, .int .i64 0, .int .i64 0, .int .i64 0] 68)
  have hsz6 : (w5.alloc (.cells #[.int .i64 0, .int .i64 0, .int .i64 0, .int .i64 0] 68)).heap.size = w5.heap.size + 1 := by simp
  rw [hsz6] at hX7
  have HE7 := hid (hE6.below hb7)
  have HX7 := hid hX7
  have HF7 := hid ((HF5.out.on hb6).on hb7)
  have HM7 := hid ((HM5.out.below hb6).below hb7)
  have HZ := hid (show ∀ g, I1 g → g < w5.heap.size from fun g hg => (HM5.out.bd g hg).2)
  have HW := hid (show w.heap.size < w5.heap.size from HF5.out.lt)
  clear hE6 hX7 hb6 hb7 HF5 HM5
  go_wp2_with fail
  refine (counts_first _ HBm.out HM7.out).mono ?_
  rintro e w9 ⟨w8, Z, v, I3, ao, cc, ⟨rfl, hs8⟩, hm8, hb9, rfl, ho9⟩
  have hz7 : w5.heap.size < ((w5.alloc (.cells #[.int .i64 0, .int .i64 0, .int .i64 0, .int .i64 0] 68)).alloc (.cells #[.int .i64 0, .int .i64 0, .int .i64 0, .int .i64 0] 68)).heap.size := by simp; omega
  have hz7b : w5.heap.size + 1 < ((w5.alloc (.cells #[.int .i64 0, .int .i64 0, .int .i64 0, .int .i64 0] 68)).alloc (.cells #[.int .i64 0, .int .i64 0, .int .i64 0, .int .i64 0] 68)).heap.size := by simp
  have hbm := HZ.out bm HM7.out.inb
  have HP9 := hid (show Pv w s c (attV c K (1 + (A1 : Int))) bm w5.heap.size (w5.heap.size + 1) ao cc [0, 0, 0, 0] [0, 0, 0, 0] (attV c K (1 + (A1 : Int))).ws0 Z v _ w9 from
    (show Pv w s c (attV c K (1 + (A1 : Int))) bm w5.heap.size (w5.heap.size + 1) ao cc [0, 0, 0, 0] [0, 0, 0, 0] (attV c K (1 + (A1 : Int))).ws0 Z v _ w9 from
    ⟨(HF7.out.sav hs8 (fun g hg => by rw [show g = bm from hg]; exact HI5.out bm HM7.out.inb)).on hb9, hm8.below hb9, (HE7.out.sav hs8 (fun e => by have : w5.heap.size = bm := e; omega)).below hb9, (HX7.out.sav hs8 (fun e => by have : w5.heap.size + 1 = bm := e; omega)).below hb9, owns_mono ho9 (Nat.le_of_lt (Nat.lt_of_lt_of_le HW.out (Nat.le_trans (Nat.le_of_lt hz7) hs8.size))),
      (fun hg => hg.elim (fun hg => Nat.lt_irrefl _ (HZ.out _ hg)) (fun hg => by omega)), (fun hg => hg.elim (fun hg => by have := HZ.out _ hg; omega) (fun hg => by omega)), by omega, (fun g hg hi => by
        have h1 := (ho9.lt g hg).1
        have h2 := (hm8.bd g hi).2
        omega), (fun g hg => by
        rcases hg with hg | hg
        · exact HI5.out g hg
        · have := HW.out
          omega), HW.out, by have := HW.out; omega⟩))
  have HA := hid HBm.out.at
  have HR := hid (rel_start HBm.out.at)
  have hAS : (attV c K (1 + (A1 : Int))).split = K := rfl
  have hAA : (attV c K (1 + (A1 : Int))).att = 1 + (A1 : Int) := rfl
  have hAW : (attV c K (1 + (A1 : Int))).win = c.job.window := rfl
  generalize attV c K (1 + (A1 : Int)) = A at *
  clear hs8 hm8 hb9 ho9 hz7 hz7b hbm HE7 HX7 HF7 HM7 HZ HW HI5 hsz6
  generalize Grow I1 _ w8 = I at *
  generalize A.ws0 = ws0 at *
  generalize w5.heap.size + 1 = X at *
  generalize w5.heap.size = E at *
  go_wp2
  go_loopw [8, 14] (fun _ i wr => ∃ (k : Nat) (ws : List WinV) (es ns : List Int), i = .int .i64 k ∧ k ≤ l.length ∧ Pv w s c A bm E X ao cc es ns ws Z v I wr ∧ Rel ws es ns) (fun _ i _ => l.length - (intOf i).toNat)
  case atStart => exact ⟨0, ws0, _, _, rfl, by omega, HP9.out, HR.out⟩
  case round =>
    clear HP9 HR
    obtain ⟨k, ws, es, ns, rfl, hk, hpv, hrel⟩ := hrel
    have HP := hid hpv
    have HR := hid hrel
    clear hpv hrel
    by_cases hlt : k < l.length
    · have d4 : decide ((k : Int) < (l.length : Int)) = true := by simp; omega
      obtain ⟨lb, loff, rfl, hlb, hacts⟩ := HLA.out (by intro e; rw [e] at hlt; simp at hlt)
      obtain ⟨x0, x1, x2⟩ := hacts.at hlt
      obtain ⟨p, hp⟩ : ∃ p, (l[k]'hlt).1 = p := ⟨_, rfl⟩
      obtain ⟨e, he⟩ : ∃ e, (l[k]'hlt).2.1 = e := ⟨_, rfl⟩
      obtain ⟨n, hn⟩ : ∃ n, (l[k]'hlt).2.2 = n := ⟨_, rfl⟩
      rw [hp] at x0
      rw [he] at x1
      rw [hn] at x2
      replace x0 := (HP.out.cf.bel.cell (p := ⟨lb, loff + k * 3, none⟩) hlb).trans x0
      replace x1 := (HP.out.cf.bel.cell (p := ⟨lb, loff + k * 3 + 1, none⟩) hlb).trans x1
      replace x2 := (HP.out.cf.bel.cell (p := ⟨lb, loff + k * 3 + 2, none⟩) hlb).trans x2
      have hk0 : (0 : Int) ≤ (k : Int) := by omega
      have hkn : (k : Int) < (l.length : Int) := by omega
      have HP1 := hid (HP.out.on (alloc_one wr (.cells #[.int .i64 p, .int .i64 e, .int .i64 n] 55)))
      have HQ := hid (new_block wr (.cells #[.int .i64 p, .int .i64 e, .int .i64 n] 55))
      have HIlt := hid (show ∀ g, I g → g < wr.heap.size from fun g hg => (HP.out.md.bd g hg).2)
      have HEX := hid (And.intro HP.out.ep.lt (And.intro HP.out.nx.lt HP.out.cf.lt))
      clear hacts hp he hn HP
      go_wp2_with fail
      refine (mpAck_any _ HA.out HP1.out.md p e n).mono ?_
      rintro e1 w11 ⟨xb, rfl, hm11, -, -, hs11⟩
      have HP2 := hid (HP1.out.ack hm11 hs11)
      have HQ2 := hid (hs11.at HQ.out (fun hz => by
        obtain ⟨z, hz, hb⟩ := hz
        have := HIlt.out _ (HP1.out.md.ins _ (.inr ⟨z, hz, .inr rfl⟩))
        omega))
      have HWO := hid HP1.out.md.ok
      have HIlt2 := hid (show wr.heap.size < w11.heap.size from by have := hs11.size; simp at this; omega)
      clear hm11 hs11 HP1 HQ x0 x1 x2
      generalize hq : wr.heap.size = q at *
      clear hq
      go_upto_region 14 with fail
      have q0 : w11.cell? ⟨q, 0, none⟩ = some (.int .i64 p) := cell_of_cells HQ2.out
      have q1 : w11.cell? ⟨q, 1, none⟩ = some (.int .i64 e) := cell_of_cells HQ2.out
      have q2 : w11.cell? ⟨q, 2, none⟩ = some (.int .i64 n) := cell_of_cells HQ2.out
      have hn4 := HA.out.num_le
      go_cut [102] (fun t wx => ∃ g : Bool, t = .bool g ∧ (g = true ↔ 0 ≤ p ∧ p < (A.num : Int) ∧ 1 ≤ e ∧ ∀ (i : Nat) y, p = i → es[i]? = some y → y ≤ e) ∧ ∃ m, wx = w11.drewN m)
      case first => as_aux_lemma =>
        by_cases h0 : 0 ≤ p
        case neg =>
          have e0 : decide (0 ≤ p) = false := by simpa using h0
          have hx : ¬ (0 ≤ p ∧ p < (A.num : Int) ∧ 1 ≤ e ∧ ∀ (i : Nat) y, p = i → es[i]? = some y → y ≤ e) := fun h => h0 h.1
          clear h0
          go_quiet (fail)
          go_wp2
          go_meet
          case rel => exact ⟨false, rfl, ⟨(fun h => by cases h), fun h => absurd h hx⟩, _, rfl⟩
        have e0 : decide (0 ≤ p) = true := by simpa using h0
        by_cases h1 : p < (A.num : Int)
        case neg =>
          have e1 : decide (p < (A.num : Int)) = false := by simpa using h1
          have hx : ¬ (0 ≤ p ∧ p < (A.num : Int) ∧ 1 ≤ e ∧ ∀ (i : Nat) y, p = i → es[i]? = some y → y ≤ e) := fun h => h1 h.2.1
          clear h1
          go_quiet (fail)
          go_wp2
          go_meet
          case rel => exact ⟨false, rfl, ⟨(fun h => by cases h), fun h => absurd h hx⟩, _, rfl⟩
        have e1 : decide (p < (A.num : Int)) = true := by simpa using h1
        by_cases h2 : 1 ≤ e
        case neg =>
          have e2 : decide (1 ≤ e) = false := by simpa using h2
          have hx : ¬ (0 ≤ p ∧ p < (A.num : Int) ∧ 1 ≤ e ∧ ∀ (i : Nat) y, p = i → es[i]? = some y → y ≤ e) := fun h => h2 h.2.2.1
          clear h2
          go_quiet (fail)
          go_wp2
          go_meet
          case rel => exact ⟨false, rfl, ⟨(fun h => by cases h), fun h => absurd h hx⟩, _, rfl⟩
        have e2 : decide (1 ≤ e) = true := by simpa using h2
        obtain ⟨r, rfl⟩ : ∃ r : Nat, p = r := ⟨p.toNat, by omega⟩
        have hr4 : (r : Int) < 4 := by omega
        obtain ⟨y, hy⟩ := HP2.out.ep.at (p := r) (by omega)
        have yE := HP2.out.ep.cell hy
        have HX := hid (show (0 ≤ (r : Int) ∧ (r : Int) < (A.num : Int) ∧ 1 ≤ e ∧ ∀ (i : Nat) y, (r : Int) = i → es[i]? = some y → y ≤ e) ↔ y ≤ e from by
          constructor
          · intro h
            exact h.2.2.2 r y rfl hy
          · intro h
            refine ⟨h0, h1, h2, fun i z hi hz => ?_⟩
            have : i = r := by omega
            subst this
            rw [hy] at hz
            cases hz
            exact h)
        by_cases h3 : y ≤ e
        · have e3 : decide (y ≤ e) = true := by simpa using h3
          have hx := HX.out.2 h3
          clear h3 hy
          go_quiet (fail)
          go_wp2
          go_meet
          case rel => exact ⟨true, rfl, ⟨fun _ => hx, fun _ => rfl⟩, _, rfl⟩
        · have e3 : decide (y ≤ e) = false := by simpa using h3
          have hx := fun h => h3 (HX.out.1 h)
          clear h3 hy
          go_quiet (fail)
          go_wp2
          go_meet
          case rel => exact ⟨false, rfl, ⟨(fun h => by cases h), fun h => absurd h hx⟩, _, rfl⟩
      case rest =>
        obtain ⟨g, rfl, hg, m12, hwc⟩ := hcut
        have HGG := hid hg
        clear hg q0 q1 q2
        have HP3 := hid (show Pv w s c A bm E X ao cc es ns (ackWs ws p e n) Z v I wc from by rw [hwc]; exact HP2.out.on (below_drew w11 m12))
        have HQ3 := hid (show wc.heap[q]? = some (.cells #[.int .i64 p, .int .i64 e, .int .i64 n] 55 (0, 0)) from by rw [hwc]; exact HQ2.out)
        have HZ3 := hid (show q < wc.heap.size from by rw [hwc]; exact HIlt2.out)
        clear hwc HP2 HQ2 HIlt2
        go_upto_if 102 with fail
        go_cut [] (fun wx => ∃ es' ns', Pv w s c A bm E X ao cc es' ns' (ackWs ws p e n) Z v I wx ∧ Rel (ackWs ws p e n) es' ns' ∧ q < wx.heap.size)
        case first => as_aux_lemma =>
          cases g
          · have HN := hid (show ackWs ws p e n = ws from ack_else fun i y hi hy he => by
              have hwl := (List.getElem?_eq_some_iff.1 hy).1
              rw [HWO.out.len] at hwl
              have := HGG.out.2 ⟨by omega, by omega, he.1, fun j z hj hz => by
                have hij : j = i := by omega
                subst hij
                rw [(HR.out _ y hy).1] at hz
                cases hz
                exact he.2⟩
              cases this)
            go_wp2
            go_meet
            case rel => exact ⟨es, ns, HP3.out, by rw [HN.out]; exact HR.out, HZ3.out⟩
          · obtain ⟨h0, h1, h2, h3⟩ := HGG.out.1 rfl
            obtain ⟨r, rfl⟩ : ∃ r : Nat, p = r := ⟨p.toNat, by omega⟩
            have hrl : r < ws.length := by rw [HWO.out.len]; omega
            obtain ⟨y, hy⟩ : ∃ y, ws[r]? = some y := ⟨_, List.getElem?_eq_getElem hrl⟩
            obtain ⟨hye, hyn⟩ := HR.out r y hy
            have h4 := h3 r _ rfl hye
            obtain ⟨cb, co, x, hx, rfl, hcb, hcc⟩ := (Is.owned HP3.out.cnt).cell (j := r) (by rw [counts_len]; omega)
            rw [counts_at (show r < A.num by omega)] at hx
            cases hx
            have hcount : A.cnt r = y.count := (HWO.out.at_ r y hy).1.symm
            have HRel := hid (rel_ack HR.out HP3.out.ep.len HP3.out.nx.len hy (by omega) (n := n) h2 h4)
            obtain ⟨ye, hye2⟩ : ∃ ye, y.epoch = ye := ⟨_, rfl⟩
            obtain ⟨yn, hyn2⟩ : ∃ yn, y.next = yn := ⟨_, rfl⟩
            obtain ⟨m, hm⟩ : ∃ m, clipW y n = m := ⟨_, rfl⟩
            rw [hye2, hyn2, hm] at HRel
            rw [hye2] at hye h4
            rw [hyn2] at hyn
            have m1 : min (max n 0) (A.cnt r) = m := by rw [hcount]; exact hm
            have q0 : wc.cell? ⟨q, 0, none⟩ = some (.int .i64 (r : Nat)) := cell_of_cells HQ3.out
            have q1 : wc.cell? ⟨q, 1, none⟩ = some (.int .i64 e) := cell_of_cells HQ3.out
            have q2 : wc.cell? ⟨q, 2, none⟩ = some (.int .i64 n) := cell_of_cells HQ3.out
            have yE := HP3.out.ep.cell hye
            have yX := HP3.out.nx.cell hyn
            have hr0 : (0 : Int) ≤ (r : Int) := by omega
            have hr4 : (r : Int) < 4 := by omega
            have HEL := hid (And.intro (And.intro hye2 hyn2) (And.intro hm hcount))
            have HYN := hid hyn
            have HYE := hid hye
            have HH := hid (And.intro h2 h4)
            clear h3 hye2 hyn2 hm hcount hye hyn hy h2 h4 h0 hrl
            go_wp2_with fail
            go_region
            by_cases h5 : ye < e
            · as_aux_lemma =>
                  have d5 : decide (ye < e) = true := by simpa using h5
                  have fX := HP3.out.nx.free r
                  go_wp2_with fail
                  go_quiet (fail)
                  go_upto_region 18 with fail
                  have HP5 := hid ((HP3.out.on (below_drew wc (1 + nq))).setX r m)
                  have HQ5 := hid (show ((wc.drewN (1 + nq)).setCell ⟨X, r, none⟩ (.int .i64 m)).heap[q]? = some (.cells #[.int .i64 (r : Nat), .int .i64 e, .int .i64 n] 55 (0, 0)) from ((Sav.refl _ _).setCell (just X) r _).at (show (wc.drewN (1 + nq)).heap[q]? = _ from HQ3.out) (by have := HEX.out; unfold Just; omega))
                  have HZ5 := hid (show q < ((wc.drewN (1 + nq)).setCell ⟨X, r, none⟩ (.int .i64 m)).heap.size from lt_of_block HQ5.out)
                  have HYX := hid (show (ns.set r m)[r]? = some m from List.getElem?_set_self (by rw [HP3.out.nx.len]; omega))
                  have HRel5 := hid (show Rel (ackWs ws r e n) (es.set r e) ((ns.set r m).set r m) from by
                    have := HRel.out
                    rw [if_pos h5, Int.max_self] at this
                    rw [List.set_set]
                    exact this)
                  clear q0 q1 q2 yE yX fX HP3 HQ3 HZ3 HRel d5 h5
                  generalize (wc.drewN (1 + nq)).setCell ⟨X, r, none⟩ (.int .i64 m) = w15 at *
                  have q0 : w15.cell? ⟨q, 0, none⟩ = some (.int .i64 (r : Nat)) := cell_of_cells HQ5.out
                  have q1 : w15.cell? ⟨q, 1, none⟩ = some (.int .i64 e) := cell_of_cells HQ5.out
                  have yE := HP5.out.ep.cell HYE.out
                  have yX := HP5.out.nx.cell HYX.out
                  have fE := HP5.out.ep.free r
                  have fX := HP5.out.nx.free r
                  have hEX : E ≠ X := HP5.out.ne
                  have hXE : X ≠ E := HP5.out.ne.symm
                  have hqE : q ≠ E := by have := HEX.out; omega
                  have hEq : E ≠ q := by have := HEX.out; omega
                  have hqX : q ≠ X := by have := HEX.out; omega
                  have hXq : X ≠ q := by have := HEX.out; omega
                  go_region
                  have HP6 := hid (((HP5.out.setE r e).setX r (m)).on (below_drew _ 1))
                  have HZ6 := hid (show q < ((w15.setCell ⟨E, r, none⟩ (.int .i64 e)).setCell ⟨X, r, none⟩ (.int .i64 (m))).drew.heap.size from by
                    have := ((((Sav.refl (fun _ => True) w15).setCell (b := E) trivial r (.int .i64 e)).setCell (b := X) trivial r (.int .i64 (m))).drew).size
                    have := HZ5.out
                    omega)
                  go_wp2
                  go_meet
                  case rel => exact ⟨_, _, HP6.out, HRel5.out, HZ6.out⟩
            · as_aux_lemma =>
                  have d5 : decide (ye < e) = false := by simpa using h5
                  go_wp2_with fail
                  go_quiet (fail)
                  go_upto_region 18 with fail
                  have HP5 := hid ((HP3.out.on (below_drew wc 1)).on (below_drew wc.drew nq))
                  have HQ5 := hid (show (wc.drew.drewN nq).heap[q]? = some (.cells #[.int .i64 (r : Nat), .int .i64 e, .int .i64 n] 55 (0, 0)) from HQ3.out)
                  have HZ5 := hid (show q < (wc.drew.drewN nq).heap.size from lt_of_block HQ5.out)
                  have HRel5 := hid (show Rel (ackWs ws r e n) (es.set r e) (ns.set r (max yn m)) from by
                    have := HRel.out
                    rw [if_neg (by omega)] at this
                    exact this)
                  clear q0 q1 q2 yE yX HP3 HQ3 HZ3 HRel d5 h5
                  generalize wc.drew.drewN nq = w15 at *
                  have q0 : w15.cell? ⟨q, 0, none⟩ = some (.int .i64 (r : Nat)) := cell_of_cells HQ5.out
                  have q1 : w15.cell? ⟨q, 1, none⟩ = some (.int .i64 e) := cell_of_cells HQ5.out
                  have yE := HP5.out.ep.cell HYE.out
                  have yX := HP5.out.nx.cell HYN.out
                  have fE := HP5.out.ep.free r
                  have fX := HP5.out.nx.free r
                  have hEX : E ≠ X := HP5.out.ne
                  have hXE : X ≠ E := HP5.out.ne.symm
                  have hqE : q ≠ E := by have := HEX.out; omega
                  have hEq : E ≠ q := by have := HEX.out; omega
                  have hqX : q ≠ X := by have := HEX.out; omega
                  have hXq : X ≠ q := by have := HEX.out; omega
                  go_region
                  have HP6 := hid (((HP5.out.setE r e).setX r (max yn m)).on (below_drew _ 1))
                  have HZ6 := hid (show q < ((w15.setCell ⟨E, r, none⟩ (.int .i64 e)).setCell ⟨X, r, none⟩ (.int .i64 (max yn m))).drew.heap.size from by
                    have := ((((Sav.refl (fun _ => True) w15).setCell (b := E) trivial r (.int .i64 e)).setCell (b := X) trivial r (.int .i64 (max yn m))).drew).size
                    have := HZ5.out
                    omega)
                  go_wp2
                  go_meet
                  case rel => exact ⟨_, _, HP6.out, HRel5.out, HZ6.out⟩
        case rest => as_aux_lemma =>
          obtain ⟨es2, ns2, hpv2, hrel2, hqw2⟩ := hcut
          have HP4 := hid hpv2
          have HR4 := hid hrel2
          clear hpv2 hrel2 hqw2
          generalize ackWs ws p e n = ws2 at *
          have HMI := hid (show w.heap.size < wc.heap.size ∧ ¬ I wc.heap.size ∧ wc.heap.size ≠ E ∧ wc.heap.size ≠ X from ⟨HP4.out.cf.lt, fun hg => Nat.lt_irrefl _ (HP4.out.md.bd _ hg).2, fun e => by have := HP4.out.ep.lt; omega, fun e => by have := HP4.out.nx.lt; omega⟩)
          have HP5 := hid (HP4.out.on (alloc_one wc (.cells #[.int .i64 0, .int .i64 0, .int .i64 0, .int .i64 0] 68)))
          have HAr := hid (ArI.new wc)
          have hszM : (wc.alloc (.cells #[.int .i64 0, .int .i64 0, .int .i64 0, .int .i64 0] 68)).heap.size = wc.heap.size + 1 := by simp
          have HSM := hid hszM
          clear HP4 hszM
          go_wp2_with fail
          refine (mpPush_any _ HA.out HP5.out.md).mono ?_
          rintro e2 w20 ⟨po, pc, ms, rfl, hms, hps, hb20⟩
          have HP6 := hid (HP5.out.on hb20)
          have HAr6 := hid (HAr.out.below hb20)
          have HPS6 := hid (hps.low (show wc.heap.size + 1 ≤ _ from by rw [HSM.out]; exact Nat.le_refl _))
          have HMS := hid hms
          have hml : ms.length ≤ 16 := by
            have h1 : (asks ms).length = ms.length := by simp [asks]
            have h2 := push_lenA HA.out HP5.out.md.ok
            rw [← hms] at h2
            omega
          clear hms hps hb20 HP5 HAr HSM
          generalize wc.heap.size = M at *
          go_wp2
          go_loopw [8, 19] (fun _ i wr => ∃ (j : Nat) (cs : List Int), i = .int .i64 j ∧ j ≤ ms.length ∧ Pv w s c A bm E X ao cc es2 ns2 ws2 Z v I wr ∧ ArI M cs wr ∧ Many ((asks ms).take j) cs ∧ PsRow (M + 1) A ms (.slice po ms.length pc) wr) (fun _ i _ => ms.length - (intOf i).toNat)
          case atStart => exact ⟨0, _, rfl, Nat.zero_le _, HP6.out, HAr6.out, many_nil, HPS6.out⟩
          case round => as_aux_lemma =>
            clear HP6 HAr6 HPS6
            obtain ⟨j, cs, rfl, hj, hpv, har, hmany, hps⟩ := hrel
            by_cases hlj : j < ms.length
            · have d22 : decide ((j : Int) < (ms.length : Int)) = true := by simp; omega
              have hj0 : (0 : Int) ≤ (j : Int) := by omega
              have hjn : (j : Int) < (ms.length : Int) := by omega
              obtain ⟨x, hx⟩ : ∃ x, ms[j]'hlj = x := ⟨_, rfl⟩
              have hxm : x ∈ ms := by rw [← hx]; exact List.getElem_mem _
              obtain ⟨uo, uc, hu⟩ := own_slice (hps.own x hxm)
              obtain ⟨pb, poff, hpo, hpb, hpc⟩ := (Reads.own (encX_len A) (by decide) hps.row).cells hlj
              subst hpo
              rw [hx] at hpc
              have hask : (asks ms)[j]? = some (x.p, x.s) := by unfold asks; rw [List.getElem?_map, List.getElem?_eq_getElem hlj, hx]; rfl
              have hask2 := hask
              rw [HMS.out] at hask2
              obtain ⟨hpn, hs0, hsc, y, hy, hsy, hwin⟩ := push_bd hpv.md.ok hask2
              have hcb := HA.out.cnt_bd x.p
              have hn4 := HA.out.num_le
              have hp4 : x.p < 4 := by omega
              have hny := (HR4.out x.p y hy).2
              have hme := hmany x.p hp4
              have HMore := hid (many_more hmany hask har.len hp4)
              have HL := hid (show Prs wr x.u (chunkL (A.list x.p) A.size x.s) from Reads.own encP_len (by decide) (hps.own x hxm))
              have HCI := hid (show (if 0 ≤ ((x.p : Nat) : Int) ∧ ((x.p : Nat) : Int) < A.num then chunkL (A.list ((x.p : Nat) : Int).toNat) A.size x.s else []) = chunkL (A.list x.p) A.size x.s from by
                rw [if_pos ⟨by omega, by omega⟩]
                rfl)
              rw [← HMS.out] at hsy hwin
              rw [hAW] at hwin
              obtain ⟨yn, hyn⟩ : ∃ yn, y.next = yn := ⟨_, rfl⟩
              rw [hyn] at hny hsy
              obtain ⟨mn, hmn⟩ : ∃ mn, manyL ((asks ms).take j) x.p = mn := ⟨_, rfl⟩
              rw [hmn] at hme HMore hsy hwin
              have x0 : wr.cell? ⟨pb, poff + j * 10, none⟩ = some (.int .i64 2) := hpc 0 _ rfl
              have x1 : wr.cell? ⟨pb, poff + j * 10 + 1, none⟩ = some (.int .i64 A.split) := hpc 1 _ rfl
              have x2 : wr.cell? ⟨pb, poff + j * 10 + 2, none⟩ = some (.int .i64 A.att) := hpc 2 _ rfl
              have x3 : wr.cell? ⟨pb, poff + j * 10 + 3, none⟩ = some (.int .i64 x.p) := hpc 3 _ rfl
              have x4 : wr.cell? ⟨pb, poff + j * 10 + 4, none⟩ = some (.int .i64 x.s) := hpc 4 _ rfl
              have x5 : wr.cell? ⟨pb, poff + j * 10 + 5, none⟩ = some (.int .i64 0) := hpc 5 _ rfl
              have x6 : wr.cell? ⟨pb, poff + j * 10 + 6, none⟩ = some (.int .i64 0) := hpc 6 _ rfl
              have x7 : wr.cell? ⟨pb, poff + j * 10 + 7, none⟩ = some (.int .i64 0) := hpc 7 _ rfl
              have x8 : wr.cell? ⟨pb, poff + j * 10 + 8, none⟩ = some (.slice none 0 0) := hpc 8 _ rfl
              have x9 : wr.cell? ⟨pb, poff + j * 10 + 9, none⟩ = some x.u := hpc 9 _ rfl
              rw [hu] at x9 HL
              rw [hAS] at x1
              rw [hAA] at x2
              have HP7 := hid hpv
              have HA7 := hid har
              have HPS7 := hid hps
              have HNY := hid hny
              have HME := hid hme
              clear hpc hx hxm hu hask hask2 hy hyn hmn hmany hpv har hps hny hme
              obtain ⟨N, hN⟩ : ∃ N, (x.chunk A).length = N := ⟨_, rfl⟩
              rw [hN] at x9 HL
              clear hN
              generalize x.p = p2 at *
              generalize x.s = s2 at *
              have hwr : IntKind.i64.wrap (yn + (mn : Int)) = s2 := by rw [IntKind.wrap_i64]; omega
              have hw4 := HNums.out.2.2.1.2
              have hwm : IntKind.i64.wrap ((mn : Int) + 1) = (mn : Int) + 1 := by rw [IntKind.wrap_i64]; omega
              have dp0 : decide ((p2 : Int) < 0) = false := by simp
              have dpn : decide (A.num ≤ p2) = false := by simp; omega
              have hp0 : (0 : Int) ≤ (p2 : Int) := by omega
              have hp4i : (p2 : Int) < 4 := by omega
              have d28 : decide (c.job.window < (mn : Int) + 1) = false := by simp; omega
              obtain ⟨L, hL⟩ : ∃ L, chunkL (A.list p2) A.size s2 = L := ⟨_, rfl⟩
              rw [hL] at HL HCI
              have hcl := hid (show ∀ w', Md w A bm ws2 Z v I w' → Calls Tryz.prog 23 #[pt bm, .int .i64 (p2 : Nat), .int .i64 s2] w' (PairsNew w' L) from fun w' hm => by
                have := mpChunk_any w' HA.out hm (p2 : Nat) s2
                rw [HCI.out] at this
                exact this)
              clear hL HCI hsy hwin hs0 hsc hcb hpn
              have hb21 := alloc_one wr (.cells #[.int .i64 2, .int .i64 K, .int .i64 (1 + (A1 : Int)), .int .i64 (p2 : Nat), .int .i64 s2, .int .i64 0, .int .i64 0, .int .i64 0, .slice none 0 0, .slice uo N uc] 53)
              have hn21 := new_block wr (.cells #[.int .i64 2, .int .i64 K, .int .i64 (1 + (A1 : Int)), .int .i64 (p2 : Nat), .int .i64 s2, .int .i64 0, .int .i64 0, .int .i64 0, .slice none 0 0, .slice uo N uc] 53)
              have HP8 := hid (HP7.out.on hb21)
              have HA8 := hid (HA7.out.below hb21)
              have HPS8 := hid (HPS7.out.below hb21)
              have HL8 := hid (HL.out.below hb21)
              have HY8 := hid hn21
              have HMY := hid (show M < wr.heap.size from HA7.out.lt)
              clear hb21 hn21 HP7 HA7 HPS7 HL
              go_upto_region 25 with fail
              generalize hw21 : wr.alloc (.cells #[.int .i64 2, .int .i64 K, .int .i64 (1 + (A1 : Int)), .int .i64 (p2 : Nat), .int .i64 s2, .int .i64 0, .int .i64 0, .int .i64 0, .slice none 0 0, .slice uo N uc] 53) = w21 at *
              clear hw21 x0 x1 x2 x3 x4 x5 x6 x7 x8 x9
              generalize wr.heap.size = q2 at *
              have HP8d := hid (show Pv w s c A bm E X ao cc es2 ns2 ws2 Z v I w21.drew from HP8.out.on (below_drew w21 1))
              have HA8d := hid (show ArI M cs w21.drew from HA8.out.below (below_drew w21 1))
              have HL8d := hid (show Prs w21.drew (.slice uo N uc) L from HL8.out.below (below_drew w21 1))
              have HY8d := hid (show w21.drew.heap[q2]? = some (.cells #[.int .i64 2, .int .i64 K, .int .i64 (1 + (A1 : Int)), .int .i64 (p2 : Nat), .int .i64 s2, .int .i64 0, .int .i64 0, .int .i64 0, .slice none 0 0, .slice uo N uc] 53 (0, 0)) from HY8.out)
              have k0 : w21.drew.cell? ⟨q2, 0, none⟩ = some (.int .i64 2) := cell_of_cells HY8d.out
              have k1 : w21.drew.cell? ⟨q2, 1, none⟩ = some (.int .i64 K) := cell_of_cells HY8d.out
              have k2 : w21.drew.cell? ⟨q2, 2, none⟩ = some (.int .i64 (1 + (A1 : Int))) := cell_of_cells HY8d.out
              have k3 : w21.drew.cell? ⟨q2, 3, none⟩ = some (.int .i64 (p2 : Nat)) := cell_of_cells HY8d.out
              have k4 : w21.drew.cell? ⟨q2, 4, none⟩ = some (.int .i64 s2) := cell_of_cells HY8d.out
              have k9 : w21.drew.cell? ⟨q2, 9, none⟩ = some (.slice uo N uc) := cell_of_cells HY8d.out
              have kX : w21.drew.cell? ⟨X, p2, none⟩ = some (.int .i64 yn) := HP8d.out.nx.cell HNY.out
              have kM : w21.drew.cell? ⟨M, p2, none⟩ = some (.int .i64 (mn : Nat)) := HA8d.out.cell HME.out
              go_region_held3 (fun w' => w'.cell? ⟨q2, 0, none⟩ = some (.int .i64 2) ∧ w'.cell? ⟨q2, 1, none⟩ = some (.int .i64 K) ∧ w'.cell? ⟨q2, 2, none⟩ = some (.int .i64 (1 + (A1 : Int))) ∧ w'.cell? ⟨q2, 3, none⟩ = some (.int .i64 (p2 : Nat)) ∧ w'.cell? ⟨q2, 4, none⟩ = some (.int .i64 s2) ∧ w'.cell? ⟨q2, 9, none⟩ = some (.slice uo N uc) ∧ w'.cell? ⟨X, p2, none⟩ = some (.int .i64 yn) ∧ w'.cell? ⟨M, p2, none⟩ = some (.int .i64 (mn : Nat))) (first | exact ⟨z0, z1, z2, z3, z4, z9, zX, zM⟩ | exact ⟨y0, y1, y2, y3, y4, y9, yX, yM⟩ | exact ⟨k0, k1, k2, k3, k4, k9, kX, kM⟩ | go_keep) (first | (go_at_call 23; refine (hcl.out _ HP8d.out.md).mono ?_; rintro e4 w4 ⟨u4, rfl, ho4, hb4⟩; (obtain ⟨a4, cap4, rfl⟩ := own_slice ho4); have HY4 := hid ((hb4.block _ (lt_of_block HY8d.out)).trans HY8d.out); have HP4 := hid (HP8d.out.on hb4); have HA4 := hid (HA8d.out.below hb4); have HB4 := hid hb4; have HO4 := hid (Reads.own encP_len (by decide) ho4); have y0 : w4.cell? ⟨q2, 0, none⟩ = some (.int .i64 2) := cell_of_cells HY4.out; have y1 : w4.cell? ⟨q2, 1, none⟩ = some (.int .i64 K) := cell_of_cells HY4.out; have y2 : w4.cell? ⟨q2, 2, none⟩ = some (.int .i64 (1 + (A1 : Int))) := cell_of_cells HY4.out; have y3 : w4.cell? ⟨q2, 3, none⟩ = some (.int .i64 (p2 : Nat)) := cell_of_cells HY4.out; have y4 : w4.cell? ⟨q2, 4, none⟩ = some (.int .i64 s2) := cell_of_cells HY4.out; have y9 : w4.cell? ⟨q2, 9, none⟩ = some (.slice uo N uc) := cell_of_cells HY4.out; have yX : w4.cell? ⟨X, p2, none⟩ = some (.int .i64 yn) := HP4.out.nx.cell HNY.out; have yM : w4.cell? ⟨M, p2, none⟩ = some (.int .i64 (mn : Nat)) := HA4.out.cell HME.out; clear ho4 hb4) | (go_at_call 24; refine (samePairs_dec _ _ L L w4 (HL8d.out.below HB4.out) HO4.out).mono ?_; rintro e5 w5 ⟨rfl, n5, rfl⟩; rw [decide_eq_true rfl]; have z0 : (w4.drewN n5).cell? ⟨q2, 0, none⟩ = some (.int .i64 2) := cell_of_cells HY4.out; have z1 : (w4.drewN n5).cell? ⟨q2, 1, none⟩ = some (.int .i64 K) := cell_of_cells HY4.out; have z2 : (w4.drewN n5).cell? ⟨q2, 2, none⟩ = some (.int .i64 (1 + (A1 : Int))) := cell_of_cells HY4.out; have z3 : (w4.drewN n5).cell? ⟨q2, 3, none⟩ = some (.int .i64 (p2 : Nat)) := cell_of_cells HY4.out; have z4 : (w4.drewN n5).cell? ⟨q2, 4, none⟩ = some (.int .i64 s2) := cell_of_cells HY4.out; have z9 : (w4.drewN n5).cell? ⟨q2, 9, none⟩ = some (.slice uo N uc) := cell_of_cells HY4.out; have zX : (w4.drewN n5).cell? ⟨X, p2, none⟩ = some (.int .i64 yn) := HP4.out.nx.cell HNY.out; have zM : (w4.drewN n5).cell? ⟨M, p2, none⟩ = some (.int .i64 (mn : Nat)) := HA4.out.cell HME.out))
              have HP9 := hid (show Pv w s c A bm E X ao cc es2 ns2 ws2 Z v I (w4.drewN n5) from HP4.out.on (below_drew w4 n5))
              have HA9 := hid (show ArI M cs (w4.drewN n5) from HA4.out.below (below_drew w4 n5))
              have HPS9 := hid (show PsRow (M + 1) A ms (.slice (some ⟨pb, poff, none⟩) ms.length pc) (w4.drewN n5) from ((HPS8.out.below (below_drew w21 1)).below HB4.out).below (below_drew w4 n5))
              have HY9 := hid (show (w4.drewN n5).heap[q2]? = some (.cells #[.int .i64 2, .int .i64 K, .int .i64 (1 + (A1 : Int)), .int .i64 (p2 : Nat), .int .i64 s2, .int .i64 0, .int .i64 0, .int .i64 0, .slice none 0 0, .slice uo N uc] 53 (0, 0)) from HY4.out)
              clear k0 k1 k2 k3 k4 k9 kX kM y0 y1 y2 y3 y4 y9 yX yM z0 z1 z2 z3 z4 z9 zX zM HP8 HA8 HPS8 HL8 HY8 HP8d HA8d HL8d HY8d HY4 HP4 HA4 HB4 HO4 hcl
              generalize w4.drewN n5 = w23 at *
              have k3 : w23.cell? ⟨q2, 3, none⟩ = some (.int .i64 (p2 : Nat)) := cell_of_cells HY9.out
              have kM : w23.cell? ⟨M, p2, none⟩ = some (.int .i64 (mn : Nat)) := HA9.out.cell HME.out
              have fM := HA9.out.free p2
              go_upto_region 28 with fail
              have hs24 : Sav (Just M) w23 (w23.setCell ⟨M, p2, none⟩ (.int .i64 ((mn : Int) + 1))) := (Sav.refl _ _).setCell (just M) p2 _
              have HA10 := hid (HA9.out.set p2 ((mn : Int) + 1))
              have HP10 := hid (HP9.out.over HA9.out.obj (by decide) HMI.out.1 HMI.out.2.1 HMI.out.2.2.1 HMI.out.2.2.2 hs24)
              have HPS10 := hid (HPS9.out.sav hs24 (fun g hg e => by have : g = M := e; omega))
              have HY10 := hid (hs24.at HY9.out (fun e => by have : q2 = M := e; have := HMY.out; omega))
              have HME10 := hid (show (cs.set p2 ((mn : Int) + 1))[p2]? = some ((mn : Int) + 1) from List.getElem?_set_self (by rw [HA9.out.len]; omega))
              clear k3 kM fM hs24 HA9 HP9 HPS9 HY9
              generalize w23.setCell ⟨M, p2, none⟩ (.int .i64 ((mn : Int) + 1)) = w24 at *
              have k3 : w24.cell? ⟨q2, 3, none⟩ = some (.int .i64 (p2 : Nat)) := cell_of_cells HY10.out
              have kM : w24.cell? ⟨M, p2, none⟩ = some (.int .i64 ((mn : Int) + 1)) := HA10.out.cell HME10.out
              have k6 : w24.cell? ⟨w.heap.size, 6, none⟩ = some (.int .i64 c.job.window) := cell_of_cells HP10.out.cf.obj
              go_quiet (fail)
              have HP11 := hid (HP10.out.on (below_drew w24 nq))
              have HA11 := hid (HA10.out.below (below_drew w24 nq))
              have HPS11 := hid (HPS10.out.below (below_drew w24 nq))
              clear k3 kM k6 HP10 HA10 HPS10 HY10 HME10
              go_wp2
              go_roundw
              case rel => exact ⟨j + 1, cs.set p2 ((mn : Int) + 1), by go_num, by omega, HP11.out, HA11.out, HMore.out, HPS11.out⟩
              case measure => simp [intOf]; omega
            · have d22 : decide ((j : Int) < (ms.length : Int)) = false := by simp; omega
              have HP7 := hid hpv
              clear hpv har hmany hps
              go_wp2
              go_roundw
              case rel => exact ⟨k + 1, ws2, es2, ns2, by go_num, by omega, HP7.out, HR4.out⟩
              case measure => simp [intOf]; omega
    · have d4 : decide ((k : Int) < (l.length : Int)) = false := by simp; omega
      go_wp2_with fail
      refine (awake19 _ (HT.out.on HP.out.cf.bel)).mono ?_
      rintro e6 w6 ⟨rfl, hb6⟩
      go_wp2
      go_ret
      exact ⟨rfl, below_then HP.out.cf.bel hb6 HP.out.cf.bel.size⟩
theorem mapperPushes_walk (w : World) (T : Tabs w) (cs : Array Value) (a) (hs : cs.size = 12) (h : rCfg w cs.toList a) (split : Int) (w1 : (Lit.int .i64 split).wf = true) (x : Int) (w2 : (Lit.int .i64 x).wf = true) (v : Value) (l : List ActV) (h3 : rSlice 3 rAct w [v] l) :
    Calls Tryz.prog 5 #[.agg cs, .int .i64 split, .int .i64 x, v] w fun e w' => e = .returned (.bool true) ∧ Below w.heap.size w w' := by
  obtain ⟨c, s, hc, hj, fit, _⟩ := cfg_arg_fit hs h
  obtain ⟨ao, cap, hv, a1, a2, a3, a4⟩ := h3
  obtain rfl : v = _ := by simpa using hv
  unfold maxLen at a2
  rw [hc]
  exact mapperPushes_main w T s c hj fit split x ao cap l a3 a4 (by omega)
end Go.Proofs.YtfimoobgbodbmaaGreatDoor
