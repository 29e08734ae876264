/- StageOrder: chunks that come in whatever order, again and again, are kept as soon as all ahead of them are. -/
import Derived.Test.YtejkboahjfcdcaaSgLaw
import Derived.Test.YtejkboahjfcdcaaLis
import Derived.Test.YtejkboahjfcdcaaIntsArg
namespace Go.Proofs.Ytejkboahjfcdcaa
open Go.RowKit
set_option linter.unusedVariables false

/-- Of the one attempt the first n chunks are kept, of the other one none. -/
structure Held (R : RowsS KV) (cs : List (List KV)) (n : Nat) : Prop where
  le : n ≤ cs.length
  is : getS R (3, 2) = cs.take n
  no : getS R (3, 1) = []
  short : Short 20 R
theorem Held.start (cs : List (List KV)) : Held ([] : RowsS KV) cs 0 := ⟨Nat.zero_le _, rfl, rfl, Short.nil _⟩
theorem Held.len {R : RowsS KV} {cs : List (List KV)} {n : Nat} (h : Held R cs n) : (getS R (3, 2)).length = n := by
  rw [h.is, List.length_take]
  have := h.le
  omega
theorem Held.no_put {R : RowsS KV} {cs : List (List KV)} {n : Nat} (h : Held R cs n) (seq : Int) (ps : List KV) : getS (putS R (3, 2) seq ps) (3, 1) = [] := by
  rw [getS_put, if_neg (fun e => by have := e.2; simp at this), h.no]
/-- The one that is wanted next. -/
theorem Held.yes {R : RowsS KV} {cs : List (List KV)} {n : Nat} (h : Held R cs n) {ps : List KV} (hk : cs[n]? = some ps) (hp : ps.length ≤ 20) (hn : n < 40) : Held (putS R (3, 2) n ps) cs (n + 1) ∧ putN R (3, 2) n = n + 1 := by
  have ht : takesS R (3, 2) n = true := (takesS_iff _ _ _).2 ⟨by decide, by show (n : Int) = _; rw [h.len], by omega⟩
  obtain ⟨hlt, e⟩ := List.getElem?_eq_some_iff.1 hk
  refine ⟨⟨hlt, ?_, h.no_put _ _, h.short.put _ _ hp⟩, ?_⟩
  · rw [getS_put, if_pos ⟨ht, rfl⟩, h.is, List.take_succ_eq_append_getElem hlt, e]
  · unfold putN
    rw [if_pos ht, h.len]
/-- Another one. -/
theorem Held.other {R : RowsS KV} {cs : List (List KV)} {n k : Nat} (h : Held R cs n) (hk : k ≠ n) {ps : List KV} (hp : ps.length ≤ 20) : Held (putS R (3, 2) k ps) cs n ∧ putN R (3, 2) k = n := by
  have ht : ¬ takesS R (3, 2) k = true := fun e => by
    have := ((takesS_iff _ _ _).1 e).2.1
    rw [h.len] at this
    omega
  refine ⟨⟨h.le, ?_, h.no_put _ _, h.short.put _ _ hp⟩, ?_⟩
  · rw [getS_put, if_neg (fun e => ht e.1), h.is]
  · unfold putN
    rw [if_neg ht, if_pos (by decide), h.len]
/-- Whichever it is. -/
theorem Held.put {R : RowsS KV} {cs : List (List KV)} {n k : Nat} (h : Held R cs n) {ps : List KV} (hk : cs[k]? = some ps) (hp : ps.length ≤ 20) (hn : cs.length ≤ 20) : ∃ m, Held (putS R (3, 2) k ps) cs m ∧ putN R (3, 2) k = m ∧ m = if k = n then n + 1 else n := by
  by_cases e : k = n
  · subst e
    have := (List.getElem?_eq_some_iff.1 hk).1
    obtain ⟨h1, h2⟩ := h.yes hk hp (by omega)
    exact ⟨_, h1, h2, by rw [if_pos rfl]⟩
  · obtain ⟨h1, h2⟩ := h.other e hp
    exact ⟨_, h1, h2, by rw [if_neg e]⟩
set_option maxHeartbeats 4000000 in
set_option maxRecDepth 100000 in
theorem stageOrder_walk (W : World) (v : Value) (cs : List (List KV)) (hv : rSlice 1 (rSlice 2 rPr) W [v] cs) (vt : Value) (ts : List Int) (ht : rSlice 1 (rInt .i64) W [vt] ts) :
    Calls Try.prog 7 #[v, vt] W fun e w' => e = .returned (.bool true) ∧ Below W.heap.size W w' := by
  have HV := hid (Lis.arg hv)
  obtain ⟨hti, htw⟩ := Is.arg ht
  have HTI := hid hti
  clear hv ht htw
  obtain ⟨ao, ca, rfl, a1, a2, -⟩ := HV.out.slice
  obtain ⟨to, tc, rfl, t1, t2, t3, t4⟩ := hti
  have HTC := hid t4
  clear t3 t4
  unfold maxLen at a2 t2
  obtain ⟨i0, hi, hz0, hz1, hz2⟩ := info_parts Try.infoP
  by_cases hc20 : 20 < cs.length
  · have hd1 : decide ((20 : Int) < (cs.length : Int)) = true := by simp; omega
    go_enter Try.func7, Try.ntmps7
    go_wp2_with fail
    refine (awake_calls _).mono ?_
    rintro e w2 ⟨rfl, hb2⟩
    have HB2 := hid (hb2)
    clear hb2
    go_wp2
    go_ret
    exact ⟨rfl, HB2.out⟩
  by_cases ht100 : 100 < ts.length
  · have hd1 : decide ((20 : Int) < (cs.length : Int)) = false := by simp; omega
    have hd2 : decide ((100 : Int) < (ts.length : Int)) = true := by simp; omega
    go_enter Try.func7, Try.ntmps7
    go_wp2_with fail
    refine (awake_calls _).mono ?_
    rintro e w2 ⟨rfl, hb2⟩
    have HB2 := hid (hb2)
    clear hb2
    go_wp2
    go_ret
    exact ⟨rfl, HB2.out⟩
  have hd1 : decide ((20 : Int) < (cs.length : Int)) = false := by simp; omega
  have hd2 : decide ((100 : Int) < (ts.length : Int)) = false := by simp; omega
  go_enter Try.func7, Try.ntmps7
  go_wp2
  go_loopw [5, 6] (fun u i wr => ∃ k : Nat, k ≤ cs.length ∧ i = .int .i64 k ∧ Hid (wr.ownsRow W.heap.size 53 2 u (cs.take k).flatten.length (fl encP (cs.take k).flatten)) ∧ Below W.heap.size W wr ∧ Hid (∀ c ∈ cs.take k, c.length ≤ 5)) (fun _ i _ => cs.length - (intOf i).toNat)
  case atStart => exact ⟨0, by omega, rfl, hid (by simpa [fl] using World.ownsRow_nil _ _ _ _), Below.refl _ _, hid (by simp)⟩
  case round =>
    obtain ⟨k, hk, rfl, HO, hbel, H5⟩ := hrel
    by_cases hlt : k < cs.length
    · obtain ⟨b, off, x, xo, xc, hx, rfl, hb, c1, hp⟩ := (HV.out.below hbel).cell hlt
      have HX := hid hx
      have HP := hid hp
      clear hx hp
      have d4 : decide ((k : Int) < (cs.length : Int)) = true := by simp; omega
      go_wp2_with fail
      refine (greatPairs_any _ x 5 wr HP.out).mono ?_
      rintro e w1 ⟨⟨g, rfl, hg⟩, hw1⟩
      obtain rfl := hw1.symm
      have HG := hid hg
      clear hg hw1
      cases g with
      | true =>
        go_wp2_with fail
        refine (awake_calls _).mono ?_
        rintro e w2 ⟨rfl, hb2⟩
        have HB2 := hid (hbel.trans (hb2.mono hbel.size))
        clear hb2
        go_wp2
        go_ret
        exact ⟨rfl, HB2.out⟩
      | false =>
        have hx5 : x.length ≤ 5 := (HG.out rfl).1
        have HF := hid (flat_take HX.out)
        have HN := hid (show ∀ c ∈ cs.take (k + 1), c.length ≤ 5 from by
          obtain ⟨hk2, e⟩ := List.getElem?_eq_some_iff.1 HX.out
          rw [List.take_succ_eq_append_getElem hk2, e]
          intro y hy
          rcases List.mem_append.1 hy with hy | hy
          · exact H5.out y hy
          · rw [List.mem_singleton.1 hy]; exact hx5)
        have hml : (cs.take k).flatten.length ≤ 100 := by
          have h1 := flat_le H5.out
          rw [List.length_take] at h1
          omega
        obtain ⟨-, -, -, hx1, -, hx3, -⟩ := id HP.out
        have hxn : xo = none → x.length = 0 ∧ xc = 0 := HP.out.noneOf
        clear HG H5 HX
        generalize (cs.take k).flatten = ks at HO HF hml
        go_wp2_with (at_builtin; refine wpList_append_own_any _ rfl _ _ 31 rfl W.heap.size 53 i0 (.agg #[.string ⟨#[]⟩, .string ⟨#[]⟩]) 2 32 Try.underlying31 hi hz0 hz1 hz2 rfl (by decide) _ ks.length _ rfl HO.out xo x.length xc (fl encP x) rfl (fl_length encP_len x) hxn (HP.out.news encP_len (by decide) (Below.refl _ _)) (fl_one encP_one x) (by unfold maxLen; omega) (by omega) hbel.size ?_; intro v3 w3 ho3 hg3)
        have HB3 := hid (hbel.grown hg3 hbel.size (by intro q hq; exact owns_base HO.out hq))
        have HO3 := hid (show w3.ownsRow W.heap.size 53 2 v3 (cs.take (k + 1)).flatten.length (fl encP (cs.take (k + 1)).flatten) by rw [HF.out, fl_append, List.length_append]; exact ho3)
        clear ho3 hg3 HF HO hbel c1 HP
        go_wp2
        go_roundw
        case rel => exact ⟨k + 1, by omega, by go_num, HO3, HB3.out, HN⟩
        case measure => simp [intOf]; omega
    · obtain rfl : k = cs.length := by omega
      have d4 : decide ((cs.length : Int) < (cs.length : Int)) = false := by simp
      rw [List.take_length] at HO H5
      clear hlt
      have HBE := hid hbel
      clear hbel
      go_wp2_with fail
      refine (new_stage _).mono ?_
      rintro e w1 ⟨rfl, hw1⟩
      have H1 := hid (show OnG W.heap.size wr.heap.size (.map none) [] W w1 from by
        rw [hw1]
        exact ⟨Sg.new wr _ HBE.out.size, below_then HBE.out (alloc_one wr _) HBE.out.size⟩)
      have HW1 := hid (show WantG W.heap.size wr.heap.size (.map none) [] u5 cs.flatten w1 from by
        rw [hw1]
        exact ⟨owns_below HO.out (alloc_one wr _), fun g hg => inG_fresh (by have := (HO.out.lt g hg).2; omega)⟩)
      generalize wr.heap.size = S at *
      clear hw1 HO HBE
      have K32 : W64 (3, 2) := ⟨by decide, by decide⟩
      have K31 : W64 (3, 1) := ⟨by decide, by decide⟩
      have hq20 : cs.length ≤ 20 := by omega
      go_wp2
      go_loopw [8] (fun i wr => ∃ (j n : Nat) (mv : Value) (X : List ((Int × Int) × Pay)), j ≤ ts.length ∧ i = .int .i64 j ∧ Hid (OnG W.heap.size S mv X W wr) ∧ Hid (WantG W.heap.size S mv X u5 cs.flatten wr) ∧ Hid (Held (chS X) cs n)) (fun i _ => ts.length - (intOf i).toNat)
      case atStart => exact ⟨0, 0, _, _, by omega, rfl, H1, HW1, hid (Held.start cs)⟩
      case round =>
        clear H1 HW1
        obtain ⟨j, n, mv, X, hj, rfl, H, HWN, HH⟩ := hrel
        by_cases hgo : j < ts.length ∧ 0 < cs.length
        · obtain ⟨hlt, hc0⟩ := hgo
          have d5 : decide ((j : Int) < (ts.length : Int)) = true := by simp; omega
          have d6 : decide ((0 : Int) < (cs.length : Int)) = true := by simp; omega
          obtain ⟨b, off, rfl, hb, hc⟩ := HTC.out (by intro e; rw [e] at hlt; simp at hlt)
          have c1 := (H.out.bel.cell (p := ⟨b, off + j, none⟩) hb).trans (hc j hlt)
          generalize ts.getD j 0 = tj at c1
          obtain ⟨k, hkl, hkc⟩ := low_nat tj cs.length hc0
          have HK := hid hkl
          obtain ⟨b2, off2, x, xo, xc, hx, rfl, hb2, c2, hp⟩ := (HV.out.below H.out.bel).cell hkc
          have HX := hid hx
          have HP := hid hp
          have hx5 := H5.out x (List.mem_of_getElem? hx)
          obtain ⟨m, HM, hm, hme⟩ := HH.out.put hx (by omega) hq20
          have HMM := hid HM
          have HPN := hid hm
          have hle := HH.out.le
          clear hx hp hc HM hm hkl
          go_wp2_with fail
          refine (low_calls tj cs.length (by omega) (by omega) wr).mono ?_
          rintro e w1 ⟨rfl, rfl⟩
          rw [show low tj (cs.length : Nat) = (k : Int) from HK.out]
          go_wp2_with fail
          refine (next_any W.heap.size S mv X (3, 2) K32 wr H.out.sg).mono ?_
          rintro e w1 ⟨rfl, rfl⟩
          rw [HH.out.len]
          go_wp2_with fail
          refine (put_any W.heap.size S mv X (3, 2) K32 k _ x wr H.out.sg HP.out (by omega)).mono ?_
          rintro e w2 ⟨rfl, mv2, X2, s2, r2, v2, n2⟩
          rw [HPN.out]
          have H2 := hid (H.out.turn s2 v2)
          have HW2 := hid (HWN.out.turn v2 n2)
          have HH2 := hid (show Held (chS X2) cs m from by rw [r2]; exact HMM.out)
          clear s2 r2 v2 n2 H HWN HMM HPN HH c1 c2 HP HK
          by_cases hkn : k = n
          · rw [if_pos hkn] at hme
            subst hkn
            subst hme
            go_wp2
            go_roundw
            case rel => exact ⟨j + 1, k + 1, mv2, X2, by omega, by go_num, H2, HW2, HH2⟩
            case measure => simp [intOf]; omega
          · rw [if_neg hkn] at hme
            subst hme
            have e7 : ((k : Int) == (m : Int)) = false := by simp; omega
            have e8 : (k == m) = false := by simp; omega
            go_wp2
            go_roundw
            case rel => exact ⟨j + 1, m, mv2, X2, by omega, by go_num, H2, HW2, HH2⟩
            case measure => simp [intOf]; omega
        · by_cases hlt : j < ts.length
          · have d5 : decide ((j : Int) < (ts.length : Int)) = true := by simp; omega
            have d66 : ¬ 0 < cs.length := fun e => hgo ⟨hlt, e⟩
            have d6 : decide ((0 : Int) < (cs.length : Int)) = false := decide_eq_false (by omega)
            clear hgo
            go_wp2
            go_loopw [12] (fun z wr => ∃ (i n : Nat) (mv : Value) (X : List ((Int × Int) × Pay)), i ≤ cs.length ∧ i ≤ n ∧ z = .int .i64 i ∧ Hid (OnG W.heap.size S mv X W wr) ∧ Hid (WantG W.heap.size S mv X u5 cs.flatten wr) ∧ Hid (Held (chS X) cs n)) (fun z _ => cs.length - (intOf z).toNat)
            case atStart => exact ⟨0, n, mv, X, by omega, by omega, rfl, H, HWN, HH⟩
            case round =>
              clear H HWN HH
              obtain ⟨i, n, mv, X, hi1, hin, rfl, H, HWN, HH⟩ := hrel
              by_cases hlt : i < cs.length
              · have d7 : decide ((i : Int) < (cs.length : Int)) = true := by simp; omega
                go_wp2
                go_loopw [13] (fun q wr => ∃ (z n : Nat) (kz : Int) (mv : Value) (X : List ((Int × Int) × Pay)), z ≤ cs.length ∧ kz = (z : Int) - 1 ∧ q = .int .i64 kz ∧ Hid (i + 1 ≤ n ∨ (n = i ∧ i < z)) ∧ Hid (OnG W.heap.size S mv X W wr) ∧ Hid (WantG W.heap.size S mv X u5 cs.flatten wr) ∧ Hid (Held (chS X) cs n)) (fun q _ => (intOf q + 1).toNat)
                case atStart => exact ⟨cs.length, n, _, mv, X, by omega, rfl, rfl, hid (by omega), H, HWN, HH⟩
                case round =>
                  clear H HWN HH
                  obtain ⟨z, n, kz, mv, X, hz, hkz, rfl, HOR, H, HWN, HH⟩ := hrel
                  by_cases hz0 : 0 < z
                  · obtain ⟨k, hk⟩ : ∃ k : Nat, z = k + 1 := ⟨z - 1, by omega⟩
                    obtain rfl : kz = (k : Int) := by omega
                    have hkc : k < cs.length := by omega
                    obtain ⟨b2, off2, x, xo, xc, hx, rfl, hb2, c2, hp⟩ := (HV.out.below H.out.bel).cell hkc
                    have HP := hid hp
                    have hx5 := H5.out x (List.mem_of_getElem? hx)
                    obtain ⟨m, HM, hm, hme⟩ := HH.out.put hx (by omega) hq20
                    have HMM := hid HM
                    have HOR2 := hid (show i + 1 ≤ m ∨ (m = i ∧ i < k) from by
                      have := HOR.out
                      rw [hme]
                      split <;> omega)
                    clear hx hp HM hm hkz hme HOR
                    have d8 : decide ((0 : Int) ≤ (k : Int)) = true := by simp
                    go_wp2_with fail
                    refine (put_any W.heap.size S mv X (3, 2) K32 k _ x wr H.out.sg HP.out (by omega)).mono ?_
                    rintro e w2 ⟨rfl, mv2, X2, s2, r2, v2, n2⟩
                    have H2 := hid (H.out.turn s2 v2)
                    have HW2 := hid (HWN.out.turn v2 n2)
                    have HH2 := hid (show Held (chS X2) cs m from by rw [r2]; exact HMM.out)
                    generalize putN (chS X) (3, 2) k = pn
                    clear s2 r2 v2 n2 H HWN HMM HH c2 HP
                    go_wp2
                    go_roundw
                    case rel => exact ⟨k, m, (k : Int) - 1, mv2, X2, by omega, rfl, by go_num, HOR2, H2, HW2, HH2⟩
                    case measure => first | (simp [intOf]; done) | (simp [intOf]; omega)
                  · have hn1 : i + 1 ≤ n := by have := HOR.out; omega
                    have hkn : kz = -1 := by omega
                    have d8 : decide ((0 : Int) ≤ kz) = false := by simp; omega
                    have d9 : ¬ (0 : Int) ≤ kz := by omega
                    clear hkz hkn HOR
                    go_wp2
                    go_roundw
                    case rel => exact ⟨i + 1, n, mv, X, by omega, by omega, by go_num, H, HWN, HH⟩
                    case measure => simp [intOf]; omega
              · have d7 : decide ((i : Int) < (cs.length : Int)) = false := by simp; omega
                have hnl : n = cs.length := by have := HH.out.le; omega
                have HN := hid (show (getS (chS X) (3, 2)).length = cs.length from by rw [HH.out.len, hnl])
                have HG := hid (show getS (chS X) (3, 2) = cs from by rw [HH.out.is, hnl, List.take_length])
                have HG1 := hid HH.out.no
                have hfl := HH.out.short.flat H.out.sg.ok (3, 2)
                clear hnl HH hin
                go_wp2_with fail
                refine (take_yes W.heap.size S mv X (3, 2) K32 cs.length wr H.out.sg HN.out hfl).mono ?_
                rintro e w2 ⟨u2, rfl, ho2, hb2⟩
                rw [HG.out] at ho2
                have HO2 := hid ho2
                have H2 := hid (H.out.below hb2)
                have HW2 := hid (HWN.out.below hb2)
                clear ho2 hb2 hfl H HWN
                go_wp2_with fail
                refine (samePairs_dec _ _ cs.flatten cs.flatten w2 (Reads.own encP_len (by decide) HO2.out) (Reads.own encP_len (by decide) HW2.out.row)).mono ?_
                rintro e w3 ⟨rfl, n3, rfl⟩
                have H3 := hid (H2.out.below (below_drew w2 n3))
                rw [decide_eq_true rfl]
                generalize w2.drewN n3 = w3 at *
                clear HO2 HW2 H2
                go_wp2_with fail
                refine (next_any W.heap.size S mv X (3, 1) K31 w3 H3.out.sg).mono ?_
                rintro e w4 ⟨rfl, rfl⟩
                rw [HG1.out]
                go_wp2_with fail
                refine (awake_calls _).mono ?_
                rintro e w4 ⟨rfl, hb4⟩
                have HB4 := hid (H3.out.bel.trans (hb4.mono H3.out.sg.low))
                clear hb4
                go_wp2
                go_ret
                exact ⟨rfl, HB4.out⟩
          · have d5 : decide ((j : Int) < (ts.length : Int)) = false := by simp; omega
            clear hgo
            go_wp2
            go_loopw [12] (fun z wr => ∃ (i n : Nat) (mv : Value) (X : List ((Int × Int) × Pay)), i ≤ cs.length ∧ i ≤ n ∧ z = .int .i64 i ∧ Hid (OnG W.heap.size S mv X W wr) ∧ Hid (WantG W.heap.size S mv X u5 cs.flatten wr) ∧ Hid (Held (chS X) cs n)) (fun z _ => cs.length - (intOf z).toNat)
            case atStart => exact ⟨0, n, mv, X, by omega, by omega, rfl, H, HWN, HH⟩
            case round =>
              clear H HWN HH
              obtain ⟨i, n, mv, X, hi1, hin, rfl, H, HWN, HH⟩ := hrel
              by_cases hlt : i < cs.length
              · have d7 : decide ((i : Int) < (cs.length : Int)) = true := by simp; omega
                go_wp2
                go_loopw [13] (fun q wr => ∃ (z n : Nat) (kz : Int) (mv : Value) (X : List ((Int × Int) × Pay)), z ≤ cs.length ∧ kz = (z : Int) - 1 ∧ q = .int .i64 kz ∧ Hid (i + 1 ≤ n ∨ (n = i ∧ i < z)) ∧ Hid (OnG W.heap.size S mv X W wr) ∧ Hid (WantG W.heap.size S mv X u5 cs.flatten wr) ∧ Hid (Held (chS X) cs n)) (fun q _ => (intOf q + 1).toNat)
                case atStart => exact ⟨cs.length, n, _, mv, X, by omega, rfl, rfl, hid (by omega), H, HWN, HH⟩
                case round =>
                  clear H HWN HH
                  obtain ⟨z, n, kz, mv, X, hz, hkz, rfl, HOR, H, HWN, HH⟩ := hrel
                  by_cases hz0 : 0 < z
                  · obtain ⟨k, hk⟩ : ∃ k : Nat, z = k + 1 := ⟨z - 1, by omega⟩
                    obtain rfl : kz = (k : Int) := by omega
                    have hkc : k < cs.length := by omega
                    obtain ⟨b2, off2, x, xo, xc, hx, rfl, hb2, c2, hp⟩ := (HV.out.below H.out.bel).cell hkc
                    have HP := hid hp
                    have hx5 := H5.out x (List.mem_of_getElem? hx)
                    obtain ⟨m, HM, hm, hme⟩ := HH.out.put hx (by omega) hq20
                    have HMM := hid HM
                    have HOR2 := hid (show i + 1 ≤ m ∨ (m = i ∧ i < k) from by
                      have := HOR.out
                      rw [hme]
                      split <;> omega)
                    clear hx hp HM hm hkz hme HOR
                    have d8 : decide ((0 : Int) ≤ (k : Int)) = true := by simp
                    go_wp2_with fail
                    refine (put_any W.heap.size S mv X (3, 2) K32 k _ x wr H.out.sg HP.out (by omega)).mono ?_
                    rintro e w2 ⟨rfl, mv2, X2, s2, r2, v2, n2⟩
                    have H2 := hid (H.out.turn s2 v2)
                    have HW2 := hid (HWN.out.turn v2 n2)
                    have HH2 := hid (show Held (chS X2) cs m from by rw [r2]; exact HMM.out)
                    generalize putN (chS X) (3, 2) k = pn
                    clear s2 r2 v2 n2 H HWN HMM HH c2 HP
                    go_wp2
                    go_roundw
                    case rel => exact ⟨k, m, (k : Int) - 1, mv2, X2, by omega, rfl, by go_num, HOR2, H2, HW2, HH2⟩
                    case measure => first | (simp [intOf]; done) | (simp [intOf]; omega)
                  · have hn1 : i + 1 ≤ n := by have := HOR.out; omega
                    have hkn : kz = -1 := by omega
                    have d8 : decide ((0 : Int) ≤ kz) = false := by simp; omega
                    have d9 : ¬ (0 : Int) ≤ kz := by omega
                    clear hkz hkn HOR
                    go_wp2
                    go_roundw
                    case rel => exact ⟨i + 1, n, mv, X, by omega, by omega, by go_num, H, HWN, HH⟩
                    case measure => simp [intOf]; omega
              · have d7 : decide ((i : Int) < (cs.length : Int)) = false := by simp; omega
                have hnl : n = cs.length := by have := HH.out.le; omega
                have HN := hid (show (getS (chS X) (3, 2)).length = cs.length from by rw [HH.out.len, hnl])
                have HG := hid (show getS (chS X) (3, 2) = cs from by rw [HH.out.is, hnl, List.take_length])
                have HG1 := hid HH.out.no
                have hfl := HH.out.short.flat H.out.sg.ok (3, 2)
                clear hnl HH hin
                go_wp2_with fail
                refine (take_yes W.heap.size S mv X (3, 2) K32 cs.length wr H.out.sg HN.out hfl).mono ?_
                rintro e w2 ⟨u2, rfl, ho2, hb2⟩
                rw [HG.out] at ho2
                have HO2 := hid ho2
                have H2 := hid (H.out.below hb2)
                have HW2 := hid (HWN.out.below hb2)
                clear ho2 hb2 hfl H HWN
                go_wp2_with fail
                refine (samePairs_dec _ _ cs.flatten cs.flatten w2 (Reads.own encP_len (by decide) HO2.out) (Reads.own encP_len (by decide) HW2.out.row)).mono ?_
                rintro e w3 ⟨rfl, n3, rfl⟩
                have H3 := hid (H2.out.below (below_drew w2 n3))
                rw [decide_eq_true rfl]
                generalize w2.drewN n3 = w3 at *
                clear HO2 HW2 H2
                go_wp2_with fail
                refine (next_any W.heap.size S mv X (3, 1) K31 w3 H3.out.sg).mono ?_
                rintro e w4 ⟨rfl, rfl⟩
                rw [HG1.out]
                go_wp2_with fail
                refine (awake_calls _).mono ?_
                rintro e w4 ⟨rfl, hb4⟩
                have HB4 := hid (H3.out.bel.trans (hb4.mono H3.out.sg.low))
                clear hb4
                go_wp2
                go_ret
                exact ⟨rfl, HB4.out⟩
end Go.Proofs.Ytejkboahjfcdcaa
