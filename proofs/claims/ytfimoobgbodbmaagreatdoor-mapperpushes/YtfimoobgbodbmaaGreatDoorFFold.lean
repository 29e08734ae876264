/- Key by key: foldBy, Each and Combine of fold. -/
import Derived.Test.YtfimoobgbodbmaaGreatDoorGFold
import Derived.Test.YtfimoobgbodbmaaGreatDoorGStab
import Derived.Test.YtfimoobgbodbmaaGreatDoorGTal
namespace Go.Proofs.YtfimoobgbodbmaaGreatDoor
open Go.RowKit Go.Lib
set_option linter.unusedVariables false
set_option maxRecDepth 100000

/-- A fold's counters: keys that were run, what they told. -/
def cnt (i n : Nat) : List Int := [(i : Int), (n : Int), 0, 0, 0, 0, 0, 0]
theorem cnt_runs (i n : Nat) : vl (cnt i n) 0 = i := rfl
theorem cnt_pairs (i n : Nat) : vl (cnt i n) 1 = n := rfl
theorem cnt_cts {i n : Nat} (hi : i ≤ 1000000) (hn : n ≤ 1000000) : Cts (cnt i n) := by
  intro j
  have : j = 0 ∨ j = 1 ∨ 2 ≤ j := by omega
  rcases this with rfl | rfl | h
  · simp [cnt]; omega
  · simp [cnt]; omega
  · have : (cnt i n).getD j 0 = 0 := by
      unfold cnt
      match j, h with
      | 2, _ => rfl
      | 3, _ => rfl
      | 4, _ => rfl
      | 5, _ => rfl
      | 6, _ => rfl
      | 7, _ => rfl
      | j + 8, _ => simp
    rw [this]
    omega
theorem cnt_run {i n : Nat} (hi : i ≤ 1000000) : addC (cnt i n) 0 1 = cnt (i + 1) n := by
  have h := addC_yes (c := cnt i n) 0 (n := 1) (by omega) (by omega) (by omega)
  have e : (cnt i n).set 0 (min ((cnt i n).getD 0 0 + 1) 1099511627776) = cnt (i + 1) n := by
    have : min ((i : Int) + 1) 1099511627776 = ((i + 1 : Nat) : Int) := by omega
    simp only [cnt, List.getD_cons_zero, List.set_cons_zero, this]
  exact h.trans e
theorem cnt_pair {i n m : Nat} (hn : n ≤ 1000000) (hm : m ≤ 1000000) : addC (cnt i n) 1 m = cnt i (n + m) := by
  have h := addC_yes (c := cnt i n) 1 (n := (m : Int)) (by omega) (by omega) (by omega)
  have e : (cnt i n).set 1 (min ((cnt i n).getD 1 0 + m) 1099511627776) = cnt i (n + m) := by
    have : min ((n : Int) + m) 1099511627776 = ((n + m : Nat) : Int) := by omega
    simp only [cnt, List.getD_cons_succ, List.getD_cons_zero, List.set_cons_succ, List.set_cons_zero, this]
  exact h.trans e
theorem tl_new (w : World) (t : TypeId) : Tl (w.alloc (.cells #[.int .i64 0, .int .i64 0, .int .i64 0, .int .i64 0, .int .i64 0, .int .i64 0, .int .i64 0, .int .i64 0] t)) w.heap.size (cnt 0 0) := by
  refine ⟨rfl, by simp, fun j hj => ?_⟩
  have hb := new_block w (.cells #[.int .i64 0, .int .i64 0, .int .i64 0, .int .i64 0, .int .i64 0, .int .i64 0, .int .i64 0, .int .i64 0] t)
  rw [cell_of_cells hb, free_of_cells hb]
  have : j = 0 ∨ j = 1 ∨ j = 2 ∨ j = 3 ∨ j = 4 ∨ j = 5 ∨ j = 6 ∨ j = 7 := by omega
  rcases this with rfl | rfl | rfl | rfl | rfl | rfl | rfl | rfl <;> exact ⟨rfl, rfl⟩
/-- What is owned above a block stays while that block is turned. -/
theorem owns_but {w w' : World} {b base e s n : Nat} {v : Value} {xs : List Value} (h : w.ownsRow base e s v n xs) (hb : But b w w') (hlt : b < base) : w'.ownsRow base e s v n xs := by
  refine ⟨h.1, ?_⟩
  rcases h.2 with h1 | ⟨g, cap, cur, rfl, h2, hh, r⟩
  · exact .inl h1
  · exact .inr ⟨g, cap, cur, rfl, h2, by rw [hb.block g (Array.getElem?_eq_some_iff.1 hh).1 (by omega)]; exact hh, r⟩
theorem tl_grown {w w' : World} {b : Nat} {c : List Int} {r : Option Nat} (h : Tl w b c) (hg : w.grownBy w' r) (hn : ∀ q, r = some q → b < q) : Tl w' b c :=
  h.of_block hg.size (hg.block b h.2.1 fun e => by have := hn b e.symm; omega)
/-- Without its first elements. -/
theorem Reads.rest {α : Type} {n : Nat} {enc : α → List Value} {w : World} {b off m cap : Nat} {a r : List α} (h : Reads n enc w (.slice (some ⟨b, off, none⟩) m cap) (a ++ r)) : Reads n enc w (.slice (some ⟨b, off + a.length * n, none⟩) r.length (cap - a.length)) r := by
  obtain ⟨ao, cap', hv, h1, h2, h3, h4⟩ := h
  cases hv
  rw [List.length_append] at h1
  refine ⟨_, _, rfl, by omega, by omega, (fun e => by cases e), fun hl => ?_⟩
  obtain ⟨b', off', e, hlt, hc⟩ := h4 (by intro e; exact hl (List.append_eq_nil_iff.1 e).2)
  cases e
  refine ⟨b, _, rfl, hlt, fun j x hj k u hu => ?_⟩
  have := hc (a.length + j) x (by rw [List.getElem?_append_right (by omega), Nat.add_sub_cancel_left]; exact hj) k u hu
  rw [Nat.add_mul] at this
  rw [show off + a.length * n + j * n + k = off + (a.length * n + j * n) + k by omega]
  exact this
/-- How far a fold has come: i keys were run. -/
structure FSt (own : Bool) (l : List Inst) (ps : List KV) (f : Int) (w1 : World) (lv av : Value) (i n : Nat) (all : List KV) (wr : World) : Prop where
  le : i ≤ (keysOf ps).length
  left : Prs w1 lv (byKeys ((keysOf ps).drop i) ps)
  told : wr.ownsRow (w1.heap.size + 1) 105 2 av all.length (fl encP all)
  tal : Tl wr w1.heap.size (cnt i n)
  bel : Below w1.heap.size w1 wr
  same : foldL own l ps f = foldK own l ps f ((keysOf ps).drop i) all n
  few : all.length ≤ 40
  sum : n ≤ 40 * i
  most : all.length ≤ n
def runsOf (b : Nat) (w : World) : Nat := match w.cell? ⟨b, 0, none⟩ with
  | some (.int _ i) => i.toNat
  | _ => 0
theorem runsOf_is {b i n : Nat} {w : World} (h : Tl w b (cnt i n)) : runsOf b w = i := by
  have := (h.2.2 0 (by omega)).1
  unfold runsOf
  rw [this]
  simp [cnt]
theorem few_keys {ps : List KV} {i : Nat} (h : ps.length ≤ 1000) (hi : i ≤ (keysOf ps).length) : i ≤ 1000 := by have := length_keys ps; omega
theorem few_those (k : ByteArray) (ps : List KV) : (valsOf k ps).length ≤ ps.length := length_vals k ps
theorem few_left (ps : List KV) (i : Nat) : (byKeys ((keysOf ps).drop i) ps).length ≤ ps.length := by
  have h : byKeys (keysOf ps) ps = byKeys ((keysOf ps).take i) ps ++ byKeys ((keysOf ps).drop i) ps := by
    conv => lhs; rw [← List.take_append_drop i (keysOf ps)]
    unfold byKeys
    rw [List.flatMap_append]
  have := congrArg List.length h
  rw [byKeys_srt, length_srt, List.length_append] at this
  omega
theorem fits_of {l : List Inst} {ps : List KV} {k : ByteArray} (hI : ∀ x ∈ l, I64 x.2.1) (hl : l.length ≤ 100) (hps : ps.length ≤ 1000) (hsz : ∀ x ∈ ps, x.1.size ≤ maxLen ∧ x.2.size ≤ maxLen) (hk : k ∈ keysOf ps) : Fits l k (valsOf k ps) := by
  refine ⟨hI, hl, ?_, by have := length_vals k ps; omega, fun v hv => ?_⟩
  · obtain ⟨x, hx, rfl⟩ := mem_keys.1 hk
    exact (hsz x hx).1
  · obtain ⟨x, hx, rfl⟩ := vals_mem hv
    exact (hsz x hx).2
set_option maxHeartbeats 4000000 in
theorem foldBy_any (own : Bool) (w : World) (v u : Value) (l : List Inst) (ps : List KV) (f : Int) (T : Tabs w) (hv : Co w v l) (hp : Prs w u ps) (hI : ∀ x ∈ l, I64 x.2.1) (hl : l.length ≤ 100) (hps : ps.length ≤ 1000) (hsz : ∀ x ∈ ps, x.1.size ≤ maxLen ∧ x.2.size ≤ maxLen) (hf : I64 f) :
    Calls Tryz.prog 123 #[v, u, .int .i64 f, mayFn own] w (ToldNew w (foldL own l ps f)) := by
  have HT := hid T
  have HV := hid hv
  have HP := hid hp
  have HI := hid hI
  have HL := hid hl
  have HN := hid hps
  have HS := hid hsz
  have HR := hid (fun k (hk : k ∈ keysOf ps) w u T hv hu => runKey_any own w v u l k (valsOf k ps) f T hv hu (fits_of hI hl hps hsz hk) hf)
  obtain ⟨n0, hn0⟩ := mayFn_is own
  rw [hn0] at HR ⊢
  generalize hQ : foldL own l ps f = Q
  have HQ := hid hQ
  clear T hv hp hI hl hps hsz hn0 hQ
  obtain ⟨i0, hi, hz0, hz1, hz2⟩ := info_parts Tryz.infoP
  go_enter Tryz.func123, Tryz.ntmps123
  go_wp2_with fail
  refine (keys_any u ps w HP.out (by have := HN.out; omega)).mono ?_
  rintro e wa ⟨kv, rfl, hoa, hba⟩
  have HKA := hid hoa
  have HBA := hid hba
  clear hoa hba
  go_wp2_with fail
  refine (sort_any u ps wa (HP.out.below HBA.out) (by have := HN.out; omega)).mono ?_
  rintro e w1 ⟨lv, rfl, hob, hbb⟩
  have HB1 := hid (below_then HBA.out hbb HBA.out.size)
  have HKS := hid (show Txs w1 kv (keysOf ps) from (Reads.own encT_len (by decide) HKA.out).below hbb)
  have HLS := hid (show Prs w1 lv (srt ps) from Reads.own encP_len (by decide) hob)
  clear hob hbb HKA HBA wa
  go_wp2_with fail
  refine (new_any w1).mono ?_
  rintro e w2 ⟨rfl, rfl⟩
  have HS0 := hid (show FSt own l ps f w1 lv (.slice none 0 0) 0 0 [] (w1.alloc (.cells #[.int .i64 0, .int .i64 0, .int .i64 0, .int .i64 0, .int .i64 0, .int .i64 0, .int .i64 0, .int .i64 0] 227)) from
    ⟨Nat.zero_le _, by rw [List.drop_zero, byKeys_srt]; exact HLS.out, World.ownsRow_nil _ _ _ _, tl_new _ _, (Below.refl _ _).alloc (Nat.le_refl _) _, by rw [List.drop_zero]; rfl, by simp, by simp, by simp⟩)
  generalize (w1.alloc (.cells #[.int .i64 0, .int .i64 0, .int .i64 0, .int .i64 0, .int .i64 0, .int .i64 0, .int .i64 0, .int .i64 0] 227)) = w2 at HS0 ⊢
  clear HLS
  obtain ⟨ko, kc, rfl, k1, k2, k3, -⟩ := id HKS.out
  unfold maxLen at k2
  clear k3
  go_wp2_with fail
  go_loopw [8, 9, 11, 13] (fun _ _ lv av wr => ∃ (i n : Nat) (all : List KV), FSt own l ps f w1 lv av i n all wr) (fun _ _ _ _ wr => 1001 - runsOf w1.heap.size wr)
  case atStart => exact ⟨0, 0, [], HS0.out⟩
  case round =>
    obtain ⟨i, n, all, hst⟩ := hrel
    have H := hid hst
    have hi100 := few_keys HN.out hst.le
    have hile := hst.le
    have hsum := hst.sum
    have hw1 := hst.bel.size
    clear hst
    by_cases hlt : i < (keysOf ps).length
    · have hd : decide ((i : Int) < ((keysOf ps).length : Int)) = true := by simp; omega
      obtain ⟨kb, koff, rfl, hkb, ck⟩ := Txs.cell (HKS.out.below H.out.bel) hlt
      have HD := hid (List.drop_eq_getElem_cons hlt)
      have HM := hid (List.getElem_mem hlt)
      generalize (keysOf ps)[i] = k at ck HD HM
      have HRise := hid (HD.out ▸ rising_drop (rising_keys ps) i)
      have HLeft := hid (HD.out ▸ H.out.left)
      have HLw := hid (HLeft.out.below H.out.bel)
      have HF := hid (show ((byKeys (k :: (keysOf ps).drop (i + 1)) ps).takeWhile (fun x => decide (x.1 = k))).map (·.2) = valsOf k ps from first_vals HRise.out)
      have HE := hid (show (byKeys (k :: (keysOf ps).drop (i + 1)) ps).length = (valsOf k ps).length + (byKeys ((keysOf ps).drop (i + 1)) ps).length by rw [byKeys_cons, List.length_append]; unfold valsOf; rw [List.length_map])
      have HE2 := hid (show 0 < (valsOf k ps).length by
        obtain ⟨x, hx, e⟩ := mem_keys.1 HM.out
        have : x ∈ those k ps := mem_those.2 ⟨hx, e⟩
        unfold valsOf
        rw [List.length_map]
        exact List.length_pos_of_mem this)
      have hvl := few_those k ps
      have hps := HN.out
      have HBy := hid (show (byKeys (k :: (keysOf ps).drop (i + 1)) ps).length ≤ 1000 by
        have := few_left ps i
        rw [HD.out] at this
        omega)
      go_wp2_with fail
      refine (get_any w1.heap.size 0 (cnt i n) wr H.out.tal).mono ?_
      rintro e w3 ⟨rfl, rfl⟩
      rw [cnt_runs]
      go_wp2_with fail
      refine (get_any w1.heap.size 0 (cnt i n) wr H.out.tal).mono ?_
      rintro e w3 ⟨rfl, rfl⟩
      rw [cnt_runs]
      go_wp2_with fail
      have HFV := hid (firstValues_any _ _ k wr HLw.out (by have := HBy.out; omega))
      rw [HF.out] at HFV
      generalize hvs : valsOf k ps = vs at *
      have HVS := hid hvs
      clear hvs
      obtain ⟨lo, lc, rfl, l1, l2, l3, l4⟩ := id HLeft.out
      obtain ⟨lb, loff, rfl, -, -⟩ := l4 (by intro e; have h1 := HE.out; have h2 := HE2.out; rw [e] at h1; simp at h1; omega)
      unfold maxLen at l2
      have e1 := HE.out
      have e2 := HE2.out
      clear l3 l4
      generalize hle : (byKeys (k :: (keysOf ps).drop (i + 1)) ps).length = L at *
      generalize hlr : (byKeys ((keysOf ps).drop (i + 1)) ps).length = L2 at *
      have HLL := hid hle
      have HLR := hid hlr
      clear hle hlr
      refine HFV.out.mono ?_
      rintro e w3 ⟨vv, rfl, hov, hbv⟩
      have HOV := hid (show Txs w3 vv vs from Reads.own encT_len (by decide) hov)
      have HB3 := hid hbv
      have hw3 := hbv.size
      obtain ⟨vo, vc, rfl, v1, v2, v3, -⟩ := id HOV.out
      clear hov hbv v3
      unfold maxLen at v2
      have HRK := hid (HR.out k HM.out)
      rw [HVS.out] at HRK
      generalize hrk : runK own l k vs f = R at HRK
      have HRE := hid hrk
      have HRF := hid (show R.1.length ≤ 40 by rw [← hrk]; exact runK_few HI.out)
      have HB13 := hid (below_then H.out.bel HB3.out hw1)
      have HTal := hid (H.out.tal.below HB3.out)
      have HAll := hid (owns_below H.out.told HB3.out)
      have HSame := hid (show Q = foldK own l ps f (k :: (keysOf ps).drop (i + 1)) all n by rw [← HQ.out, H.out.same, HD.out])
      have hfew := H.out.few
      have hmost := H.out.most
      have hb13 := Nat.lt_of_lt_of_le H.out.tal.2.1 hw3
      clear hrk HF HFV HLw HRise HB3 hkb
      rcases Nat.lt_or_ge vs.length lc with hcap | hcap
      case' inl =>
        have HNL := hid (show Prs w1 (.slice (some ⟨lb, loff + vs.length * 2, none⟩) L2 (lc - vs.length)) (byKeys ((keysOf ps).drop (i + 1)) ps) by
          have h := HLeft.out
          rw [byKeys_cons] at h
          have h2 := Reads.rest h
          have e3 : (those k ps).length = vs.length := by
            have := congrArg List.length HVS.out
            unfold valsOf at this
            rw [List.length_map] at this
            exact this
          rw [e3, HLR.out] at h2
          exact h2)
        go_wp2_with fail
        generalize Value.slice (some ⟨lb, loff + vs.length * 2, none⟩) L2 (lc - vs.length) = nlv at HNL ⊢
      case' inr =>
        have HNL := hid (show Prs w1 (.slice (some ⟨lb, loff, none⟩) L2 0) (byKeys ((keysOf ps).drop (i + 1)) ps) by
          have e3 : L2 = 0 := by omega
          have e4 : byKeys ((keysOf ps).drop (i + 1)) ps = [] := List.eq_nil_of_length_eq_zero (by rw [HLR.out]; exact e3)
          rw [e4, e3]
          exact ⟨_, 0, rfl, Nat.le_refl _, Nat.zero_le _, (fun e => by cases e), fun h => absurd rfl h⟩)
        obtain rfl : lc = vs.length := by omega
        go_wp2_with fail
        generalize Value.slice (some ⟨lb, loff, none⟩) L2 0 = nlv at HNL ⊢
      all_goals
        refine (HRK.out w3 _ (HT.out.on (below_then HB1.out HB13.out HB1.out.size)) (HV.out.below (below_then HB1.out HB13.out HB1.out.size)) HOV.out).mono ?_
        rintro e w4 ⟨x, rfl, hox, hb4⟩
        have HOX := hid hox
        have HB14 := hid (below_then HB13.out hb4 HB13.out.size)
        have HTal4 := hid (HTal.out.below hb4)
        have HAll4 := hid (owns_below HAll.out hb4)
        have hw4 := hb4.size
        obtain ⟨xo, xc, rfl⟩ := own_slice hox
        clear hox hb4 HTal HAll HRK HOV HB13
        by_cases hz : R.2 = 0
        · have hzr : (R.2 != 0) = false := by simpa using hz
          go_wp2_with fail
          refine (add_any w1.heap.size 0 1 (cnt i n) w4 HTal4.out (cnt_cts (by omega) (by omega))).mono ?_
          rintro e w5 ⟨rfl, ht5, hb5⟩
          rw [cnt_run (by omega)] at ht5 ⊢
          have HTal5 := hid ht5
          have HAll5 := hid (owns_but HAll4.out hb5 (by omega))
          have HOX5 := hid (owns_but HOX.out hb5 (by omega))
          have HB15 := hid (HB14.out.trans (hb5.below (Nat.le_refl _) (by omega)))
          have hw5 := hb5.size
          clear ht5 hb5 HTal4 HAll4 HOX HB14
          have hrf := HRF.out
          go_wp2_with fail
          refine (add_any w1.heap.size 1 R.1.length (cnt (i + 1) n) w5 HTal5.out (cnt_cts (by omega) (by omega))).mono ?_
          rintro e w6 ⟨rfl, ht6, hb6⟩
          rw [cnt_pair (by omega) (by omega)] at ht6 ⊢
          rw [cnt_pairs]
          have HTal6 := hid ht6
          have HAll6 := hid (owns_but HAll5.out hb6 (by omega))
          have HOX6 := hid (owns_but HOX5.out hb6 (by omega))
          have HB16 := hid (HB15.out.trans (hb6.below (Nat.le_refl _) (by omega)))
          have hw6 := hb6.size
          clear ht6 hb6 HTal5 HAll5 HOX5 HB15
          by_cases h40 : n + R.1.length ≤ 40
          · have hd2 : decide (((n + R.1.length : Nat) : Int) ≤ 40) = true := by simp; omega
            have HSt := hid (show Q = foldK own l ps f ((keysOf ps).drop (i + 1)) (all ++ R.1) (n + R.1.length) by rw [HSame.out, foldK_yes (by rw [HVS.out]; exact HRE.out) hz, if_pos h40])
            have hd3 : decide ((n : Int) + (R.1.length : Int) ≤ 40) = true := by simp; omega
            have hal : all.length + R.1.length ≤ 40 := by omega
            have hxn : xo = none → R.1.length = 0 ∧ xc = 0 := by
              obtain ⟨ao, cap, e, -, -, h3, -⟩ := Reads.own (enc := encP) encP_len (by decide) HOX6.out
              cases e
              exact fun h => ⟨by rw [(h3 h).1]; rfl, (h3 h).2⟩
            have HXN := hid hxn
            clear hxn HSame
            go_wp2_with (at_builtin; refine wpList_append_own_any _ rfl _ _ 51 rfl (w1.heap.size + 1) 105 i0 _ 2 32 Tryz.underlying51 hi hz0 hz1 hz2 rfl (by decide) _ all.length _ rfl HAll6.out xo R.1.length xc (fl encP R.1) rfl (fl_length encP_len _) HXN.out ((Reads.own encP_len (by decide) HOX6.out).news encP_len (by decide) (Below.refl _ _)) (fl_one encP_one _) (by unfold maxLen; omega) (by omega) (by omega) ?_; intro v7 w7 ho7 hg7)
            have HAll7 := hid (show w7.ownsRow (w1.heap.size + 1) 105 2 v7 (all ++ R.1).length (fl encP (all ++ R.1)) by rw [fl_append, List.length_append]; exact ho7)
            have HTal7 := hid (tl_grown HTal6.out hg7 (fun q hq => owns_base HAll6.out hq))
            have HB17 := hid (HB16.out.grown hg7 HB16.out.size (by intro q hq; have := owns_base HAll6.out hq; omega))
            clear ho7 hg7 HAll6 HTal6 HB16 HOX6 HXN
            go_wp2
            go_roundw
            case rel => exact ⟨i + 1, n + R.1.length, all ++ R.1, by omega, HNL.out, HAll7.out, HTal7.out, HB17.out, by rw [HQ.out]; exact HSt.out, by rw [List.length_append]; omega, by omega, by rw [List.length_append]; omega⟩
            case measure => rw [runsOf_is H.out.tal, runsOf_is HTal7.out]; omega
          · have hd2 : decide (((n + R.1.length : Nat) : Int) ≤ 40) = false := by simp; omega
            have hd3 : decide ((n : Int) + (R.1.length : Int) ≤ 40) = false := by simp; omega
            have HSt := hid (show Q = foldK own l ps f ((keysOf ps).drop (i + 1)) all (n + R.1.length) by rw [HSame.out, foldK_yes (by rw [HVS.out]; exact HRE.out) hz, if_neg h40])
            clear HSame
            go_wp2
            go_roundw
            case rel => exact ⟨i + 1, n + R.1.length, all, by omega, HNL.out, HAll6.out, HTal6.out, HB16.out, by rw [HQ.out]; exact HSt.out, hfew, by omega, by omega⟩
            case measure => rw [runsOf_is H.out.tal, runsOf_is HTal6.out]; omega
        · have hzr : (R.2 != 0) = true := by simpa using hz
          have HZ := hid (show Q = ([], R.2) by rw [HSame.out, foldK_no (by rw [HVS.out]; exact HRE.out) hz])
          clear hz
          go_wp2
          go_ret2
          rw [HZ.out]
          exact ⟨_, rfl, World.ownsRow_nil _ _ _ _, below_then HB1.out HB14.out HB1.out.size⟩
    · obtain rfl : i = (keysOf ps).length := by omega
      have hd : decide (((keysOf ps).length : Int) < ((keysOf ps).length : Int)) = false := by simp
      have HSame := hid (show Q = if 40 < n then ([], 5) else (all, 0) by rw [← HQ.out, H.out.same, List.drop_length, foldK_nil])
      have HBE := hid (below_then HB1.out H.out.bel HB1.out.size)
      have HO := hid (owns_monoF H.out.told (show w.heap.size ≤ w1.heap.size + 1 by have := HB1.out.size; omega))
      have HTal := hid H.out.tal
      clear H
      go_wp2_with fail
      refine (get_any w1.heap.size 0 (cnt (keysOf ps).length n) wr HTal.out).mono ?_
      rintro e w3 ⟨rfl, rfl⟩
      rw [cnt_runs]
      go_wp2_with fail
      refine (get_any w1.heap.size 1 (cnt (keysOf ps).length n) wr HTal.out).mono ?_
      rintro e w3 ⟨rfl, rfl⟩
      rw [cnt_pairs]
      by_cases h40 : 40 < n
      · have hd2 : decide ((40 : Int) < (n : Int)) = true := by simp; omega
        have e := HSame.out
        rw [if_pos h40] at e
        have HZ := hid e
        clear e HSame
        go_wp2
        go_ret2
        rw [HZ.out]
        exact ⟨_, rfl, World.ownsRow_nil _ _ _ _, HBE.out⟩
      · have hd2 : decide ((40 : Int) < (n : Int)) = false := by simp; omega
        have e := HSame.out
        rw [if_neg h40] at e
        have HZ := hid e
        clear e HSame
        go_wp2
        go_ret2
        rw [HZ.out]
        exact ⟨_, rfl, HO.out, HBE.out⟩
end Go.Proofs.YtfimoobgbodbmaaGreatDoor
