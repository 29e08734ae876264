/- CutJoins: lists joined in pieces are as joined at one go. -/
import Derived.Test.YthjoomcannfnjaaCAwake
import Derived.Test.YthjoomcannfnjaaSArg
namespace Go.Proofs.Ythjoomcannfnjaa
open Go.RowKit
set_option linter.unusedVariables false

theorem opens_lists : Opens Try.prog 31 1 (rSlice 1 (rSlice 2 rPr)) := @opens_slice _ ⟨[]⟩ _ _ _ _ _ Try.underlying31 (by kernel_rfl) (by decide) opens_pairs
theorem Lis.arg {w : World} {v : Value} {ls : List (List KV)} (h : rSlice 1 (rSlice 2 rPr) w [v] ls) : Lis w v ls := by
  obtain ⟨ao, cap, hv, h1, h2, h3, h4⟩ := h
  by_cases hl : ls = []
  · subst hl
    refine ⟨[], ⟨ao, cap, by simpa using hv, h1, h2, fun e => ⟨rfl, (h3 e).2⟩, fun h => absurd rfl h⟩, rfl, fun j l h => by simp at h⟩
  · obtain ⟨b, off, rfl, hlt, hc⟩ := h4 hl
    obtain ⟨f, hf⟩ := Go.Deep.choose_lt (α := Value) (n := ls.length) (p := fun j x => w.cell? ⟨b, off + j, none⟩ = some x ∧ ∀ l, ls[j]? = some l → Prs w x l) (fun j hj => by
      obtain ⟨ds, hd, hr, hu⟩ := hc j ls[j] (List.getElem?_eq_getElem hj)
      match ds, hd with
      | [x], _ =>
        refine ⟨x, ?_, fun l h => ?_⟩
        · have := hu 0 x rfl
          rw [Nat.mul_one] at this
          exact this
        · rw [List.getElem?_eq_getElem hj] at h
          cases h
          exact Prs.arg hr)
    refine ⟨(List.range ls.length).map f, ⟨some ⟨b, off, none⟩, cap, by simpa using hv, by simpa using h1, h2, (fun e => by cases e), fun _ => ⟨b, off, rfl, hlt, fun j x hj k u hu => ?_⟩⟩, by simp, fun j l hj => ?_⟩
    · have hjl : j < ls.length := by have := (List.getElem?_eq_some_iff.1 hj).1; simpa using this
      rw [List.getElem?_map, List.getElem?_range hjl] at hj
      cases hj
      have hk : k = 0 := by
        have := (List.getElem?_eq_some_iff.1 hu).1
        simp [encV] at this
        omega
      subst hk
      simp [encV] at hu
      subst hu
      rw [Nat.mul_one]
      exact (hf j hjl).1
    · have hjl := (List.getElem?_eq_some_iff.1 hj).1
      exact ⟨f j, by rw [List.getElem?_map, List.getElem?_range hjl]; rfl, (hf j hjl).2 l hj⟩
/-- The first k lists. -/
theorem Lis.take {w : World} {ao : Option Addr} {m cap : Nat} {ls : List (List KV)} (h : Lis w (.slice ao m cap) ls) {k : Nat} (hk : k ≤ ls.length) : Lis w (.slice ao k cap) (ls.take k) := by
  obtain ⟨vs, h1, h2, h3⟩ := h
  have hc : Reads 1 encV w (.slice ao (vs.take k).length cap) (vs.take k) := Reads.cut (r := vs.drop k) (by rw [List.take_append_drop]; exact h1)
  have hl : (vs.take k).length = k := by rw [List.length_take]; omega
  rw [hl] at hc
  refine ⟨_, hc, by rw [List.length_take, List.length_take, h2], fun j l hj => ?_⟩
  have hjk : j < k := by
    have := (List.getElem?_eq_some_iff.1 hj).1
    rw [List.length_take] at this
    omega
  rw [List.getElem?_take_of_lt hjk] at hj ⊢
  exact h3 j l hj
/-- Those behind the first k. -/
theorem Lis.drop {w : World} {b off m cap : Nat} {ls : List (List KV)} (h : Lis w (.slice (some ⟨b, off, none⟩) m cap) ls) {k : Nat} (hk : k ≤ ls.length) : Lis w (.slice (some ⟨b, off + k, none⟩) (ls.length - k) (cap - k)) (ls.drop k) := by
  obtain ⟨vs, h1, h2, h3⟩ := h
  have hs := h1.sub (k := k) (j := ls.length - k) (by omega)
  rw [Nat.mul_one, List.take_of_length_le (by rw [List.length_drop]; omega)] at hs
  refine ⟨_, hs, by rw [List.length_drop, List.length_drop, h2], fun j l hj => ?_⟩
  rw [List.getElem?_drop] at hj ⊢
  exact h3 _ l hj
theorem Lis.none {w : World} {ao : Option Addr} {c : Nat} (h : (ao = none → c = 0)) (hc : c ≤ maxLen) : Lis w (.slice ao 0 c) [] :=
  ⟨[], ⟨ao, c, rfl, Nat.zero_le _, hc, fun e => ⟨rfl, h e⟩, fun h => absurd rfl h⟩, rfl, fun j l h => by simp at h⟩
/-- Those behind the first k, as the program writes their address. -/
theorem Lis.far {w : World} {ao ao2 : Option Addr} {cap : Nat} {ls : List (List KV)} (h : Lis w (.slice ao ls.length cap) ls) {k : Nat} (hk : k ≤ ls.length) (hao : (if cap = k then ao else Option.map (fun x => x.add k) ao) = ao2) : Lis w (.slice ao2 (ls.length - k) (cap - k)) (ls.drop k) := by
  obtain ⟨ao', cap', e, h1, h2, h3⟩ := h.slice
  cases e
  by_cases hc : cap = k
  · have hl : ls.length = k := by omega
    rw [if_pos hc] at hao
    rw [hl, Nat.sub_self, hc, Nat.sub_self, List.drop_eq_nil_of_le (by omega)]
    exact Lis.none (fun _ => rfl) (by unfold maxLen; omega)
  · rw [if_neg hc] at hao
    cases ao with
    | none =>
      have := h3 rfl
      omega
    | some ad =>
      by_cases hn : ls = []
      · subst hn
        simp only [List.length_nil] at hk
        obtain rfl : k = 0 := by omega
        subst hao
        exact Lis.none (fun e => by cases e) (by omega)
      · obtain ⟨vs, ⟨a1, c1, e1, r1, r2, r3, r4⟩, hl, hx⟩ := id h
        simp only [Value.slice.injEq] at e1
        obtain ⟨rfl, -, rfl⟩ := e1
        obtain ⟨b, off, e2, -⟩ := r4 (by intro e; rw [e] at hl; exact hn (List.eq_nil_of_length_eq_zero hl.symm))
        cases e2
        rw [Option.map_some, addr_add] at hao
        subst hao
        exact h.drop hk
/-- Each list is small: all together are. -/
theorem flat_small : ∀ {ls : List (List KV)}, (∀ l ∈ ls, l.length ≤ 20) → ls.flatten.length ≤ ls.length * 20
  | [], _ => by simp
  | l :: ls, h => by
    have h1 := h l List.mem_cons_self
    have h2 := flat_small (ls := ls) fun x hx => h x (List.mem_cons_of_mem _ hx)
    rw [List.flatten_cons, List.length_append, List.length_cons, Nat.add_mul]
    omega

set_option maxRecDepth 100000 in
set_option maxHeartbeats 8000000 in
theorem cutJoins_plain (w : World) (v : Value) (ls : List (List KV)) (hv : Lis w v ls) (kk : Int) :
    Calls Try.prog 5 #[v, .int .i64 kk] w fun e w' => e = .returned (.bool true) ∧ Below w.heap.size w w' := by
  have HV := hid hv
  obtain ⟨ao, ca, rfl, a1, a2, a3⟩ := hv.slice
  have HA3 := hid a3
  unfold maxLen at a2
  clear a3 hv
  by_cases hbig : 10 < ls.length
  · have d0 : decide ((10 : Int) < (ls.length : Int)) = true := by simp; omega
    go_enter Try.func5, Try.ntmps5
    go_wp2_with fail
    refine (awake_calls _).mono ?_
    rintro e w9 ⟨rfl, hb9⟩
    go_wp2
    go_ret
    exact ⟨rfl, hb9⟩
  · have d0 : decide ((10 : Int) < (ls.length : Int)) = false := by simp; omega
    go_enter Try.func5, Try.ntmps5
    go_wp2
    go_loop [4, 5] (fun r i => r = .bool false ∧ ∃ k : Nat, k ≤ ls.length ∧ i = .int .i64 k ∧ Hid (∀ l ∈ ls.take k, l.length ≤ 20)) (fun _ i => ls.length - (intOf i).toNat)
    case atStart => exact ⟨rfl, 0, by omega, rfl, hid (fun l hl => by simp at hl)⟩
    case round =>
      obtain ⟨rfl, k, hk, rfl, HS⟩ := hrel
      by_cases hlt : k < ls.length
      · obtain ⟨b, off, l, xo, xc, hl, rfl, hb, c1, hp⟩ := HV.out.cell hlt
        have HL := hid hl
        have HP := hid hp
        clear hl hp
        have d4 : decide ((k : Int) < (ls.length : Int)) = true := by simp; omega
        go_wp2_with fail
        refine (greatPairs_any _ l 20 _ HP.out).mono ?_
        rintro e w0 ⟨⟨g, rfl, hg⟩, rfl⟩
        cases g with
        | true =>
          clear hg
          go_wp2_with fail
          refine (awake_calls _).mono ?_
          rintro e w9 ⟨rfl, hb9⟩
          go_wp2
          go_ret
          exact ⟨rfl, hb9⟩
        | false =>
          obtain ⟨hl20, -⟩ := hg rfl
          have HS2 := hid (show ∀ l ∈ ls.take (k + 1), l.length ≤ 20 by
            rw [List.take_add_one, HL.out]
            intro y hy
            rcases List.mem_append.1 hy with hy | hy
            · exact HS.out y hy
            · simp at hy
              subst hy
              exact hl20)
          clear hg HS
          go_wp2
          go_round
          case rel => exact ⟨rfl, k + 1, by omega, by go_num, HS2⟩
          case measure => simp [intOf]; omega
      · obtain rfl : k = ls.length := by omega
        have d4 : decide ((ls.length : Int) < (ls.length : Int)) = false := by simp
        have HSm := hid (show ls.flatten.length ≤ ls.length * 20 from flat_small (fun l hl => HS.out l (by rw [List.take_length]; exact hl)))
        have hfl : ls.flatten.length ≤ 200 := by have := HSm.out; omega
        clear HS HSm
        go_wp2_with fail
        refine (low_calls kk ((ls.length : Int) + 1) (by omega) (by omega) _).mono ?_
        rintro e w1 ⟨rfl, rfl⟩
        obtain ⟨b1, b2⟩ := low_bd kk ((ls.length : Int) + 1) (by omega)
        generalize low kk ((ls.length : Int) + 1) = t at b1 b2 ⊢
        obtain ⟨k, rfl⟩ : ∃ k : Nat, t = k := ⟨t.toNat, by omega⟩
        have hkl : k ≤ ls.length := by omega
        rename World => w
        go_wp2_with fail
        refine (join_any _ ls w HV.out (by omega)).mono ?_
        rintro e w1 ⟨ua, rfl, ho1, hb1⟩
        have HOa := hid ho1
        have HB1 := hid hb1
        clear ho1 hb1
        go_wp2_with fail
        have HVd := hid (HV.out.below (below_then HB1.out (below_drew1 w1) HB1.out.size))
        have HTake := hid (HVd.out.take hkl)
        obtain ⟨ao2, hao2⟩ : ∃ ao2, (if ca = k then ao else Option.map (fun x => x.add k) ao) = ao2 := ⟨_, rfl⟩
        have HDrop := hid (HVd.out.far hkl hao2)
        obtain ⟨A, hA⟩ : ∃ A, (ls.take k).flatten = A := ⟨_, rfl⟩
        obtain ⟨D, hD⟩ : ∃ D, (ls.drop k).flatten = D := ⟨_, rfl⟩
        obtain ⟨F, hF⟩ : ∃ F, ls.flatten = F := ⟨_, rfl⟩
        have HF3 := hid (show [A, D].flatten = F by rw [← hA, ← hD, ← hF, show ls.flatten = (ls.take k).flatten ++ (ls.drop k).flatten by rw [← List.flatten_append, List.take_append_drop]]; simp)
        have HF4 := hid (show A.length + D.length = F.length by rw [← HF3.out]; simp)
        rw [hF] at hfl HOa
        have HHA := hid hA
        have HHD := hid hD
        have HHF := hid hF
        have hfA : A.length ≤ 200 := by have := HF4.out; omega
        have hfD : D.length ≤ 200 := by have := HF4.out; omega
        clear hA hD hF
        have hk0 : (0 : Int) ≤ (k : Int) := by omega
        have hkc : (k : Int) ≤ (ca : Int) := by omega
        have hkn : (k : Int) ≤ (ls.length : Int) := by omega
        go_region_held3 (fun _ => True) (trivial)
          (first | (go_at_call 20; refine (join_any _ [A, D] _ (lis_two HR2.out HR3.out) (by rw [HF3.out]; omega)).mono ?_; rintro e w4 ⟨ub, rfl, ho4, hb4⟩; rw [HF3.out] at ho4; have HOb := hid ho4; have HB4 := hid (below_then (below_then HB3.out (alloc_one _ _) HB3.out.size) hb4 (below_then HB3.out (alloc_one _ _) HB3.out.size).size); clear ho4 hb4)
                 | (go_at_call 20; refine (join_any _ (ls.drop k) w2 (HDrop.out.below HB2.out) (by rw [HHD.out]; omega)).mono ?_; rintro e w3 ⟨u3, rfl, ho3, hb3⟩; rw [HHD.out] at ho3; obtain ⟨xo3, xc3, rfl⟩ := own_slice ho3; have HR3 := hid (Reads.own encP_len (by decide) ho3); have HR2 := hid (Reads.own encP_len (by decide) (owns_below HO2.out hb3)); have HB3 := hid (below_then HB2.out hb3 HB2.out.size); clear ho3 hb3)
                 | (go_at_call 20; refine (join_any _ (ls.take k) _ HTake.out (by rw [HHA.out]; omega)).mono ?_; rintro e w2 ⟨u2, rfl, ho2, hb2⟩; rw [HHA.out] at ho2; obtain ⟨xo2, xc2, rfl⟩ := own_slice ho2; have HO2 := hid ho2; have HB2 := hid hb2; clear ho2 hb2))
        have HE4 := hid (show Below w1.heap.size w1 w4 from below_then (below_drew1 w1) HB4.out (Nat.le_refl _))
        have HOa4 := hid (owns_below HOa.out HE4.out)
        have HOb4 := hid (owns_mono HOb.out (show w1.heap.size ≤ _ from by have h := HB3.out.size; rw [World.size_alloc]; exact Nat.le_succ_of_le h))
        have HE := hid (below_then HB1.out HE4.out HB1.out.size)
        have HV4 := hid (HV.out.below HE.out)
        have HNe := hid (show ∀ g, ub.ownBlock = some g → ua.ownBlock ≠ some g from fun g hg h => by have h1 := owns_base HOb4.out hg; have h2 := owns_lt HOa.out h; omega)
        have HQa := hid (show ∀ q, ua.ownBlock = some q → w.heap.size ≤ q from fun q hq => owns_base HOa.out hq)
        obtain ⟨ya, yc, hua⟩ := own_slice HOa4.out
        clear HOa HOb HB1 HB2 HB3 HB4 HE4 HR2 HR3 HO2 HVd HTake HDrop hao2 HF3 HF4 HHA HHD hfA hfD
        subst hua
        go_wp2
        go_loop [8, 9] (fun z i => ∃ j m : Nat, j ≤ ls.length ∧ i = .int .i64 j ∧ z = .int .i64 m ∧ Hid (m = (ls.take j).flatten.length)) (fun _ i => ls.length - (intOf i).toNat)
        case atStart => exact ⟨0, 0, by omega, rfl, rfl, hid rfl⟩
        case round =>
          obtain ⟨j, m, hj, rfl, rfl, HM⟩ := hrel
          have hml : m ≤ 200 := by have h1 := flat_take_le ls j; have h2 := HM.out; rw [HHF.out] at h1; omega
          by_cases hjl : j < ls.length
          · obtain ⟨b, off, l, xo, xc, hl, rfl, hb, c1, hp⟩ := HV4.out.cell hjl
            have HF := hid (show m + l.length = (ls.take (j + 1)).flatten.length by rw [flat_take hl, List.length_append, ← HM.out])
            have hml2 : m + l.length ≤ 200 := by have h1 := flat_take_le ls (j + 1); have h2 := HF.out; rw [HHF.out] at h1; omega
            clear hl hp HM
            have d5 : decide ((j : Int) < (ls.length : Int)) = true := by simp; omega
            go_wp2
            go_round
            case rel => exact ⟨j + 1, m + l.length, by omega, by go_num, by go_num, HF⟩
            case measure => simp [intOf]; omega
          · obtain rfl : j = ls.length := by omega
            have d5 : decide ((ls.length : Int) < (ls.length : Int)) = false := by simp
            have HMF := hid (show m = F.length by rw [HM.out, List.take_length, HHF.out])
            have e1 : (((F.length : Nat) : Int) == (m : Int)) = true := by rw [HMF.out]; simp
            clear HM
            go_wp2_with fail
            refine (samePairs_any _ _ F w4 (Reads.own encP_len (by decide) HOa4.out) (Reads.own encP_len (by decide) HOb4.out)).mono ?_
            rintro e w5 ⟨rfl, n5, rfl⟩
            have HOa5 := hid (owns_below HOa4.out (below_drew w4 n5))
            have HOb5 := hid (owns_below HOb4.out (below_drew w4 n5))
            have HE5 := hid (below_then HE.out (below_drew w4 n5) HE.out.size)
            generalize w4.drewN n5 = w5 at HOa5 HOb5 HE5 ⊢
            clear HOa4 HOb4 HE HV4
            go_wp2_with fail
            refine (join_any _ [] w5 (Lis.nil _) (by simp)).mono ?_
            rintro e w6 ⟨u6, rfl, ho6, hb6⟩
            obtain ⟨xo6, xc6, rfl⟩ := own_slice ho6
            have HOa6 := hid (owns_below HOa5.out hb6)
            have HOb6 := hid (owns_below HOb5.out hb6)
            have HE6 := hid (below_then HE5.out hb6 HE5.out.size)
            clear ho6 hb6 HOa5 HOb5 HE5
            simp only [List.flatten_nil, List.length_nil]
            have hsz6 := HE6.out.size
            go_wp2_with fail
            refine (overPairs_grown _ _ _ _ w6 HOa6.out hsz6 (by omega)).mono ?_
            rintro e w7 ⟨rfl, hg7⟩
            have HE7 := hid (HE6.out.grown hg7 HE6.out.size (fun q hq => HQa.out q hq))
            have HOb7 := hid (owns_grown_ne HOb6.out hg7 HNe.out)
            clear hg7 HOa6 HOb6 HE6
            go_wp2_with fail
            refine (join_any _ ls w7 (HV.out.below HE7.out) (by rw [HHF.out]; omega)).mono ?_
            rintro e w8 ⟨u8, rfl, ho8, hb8⟩
            rw [HHF.out] at ho8
            have HO8 := hid ho8
            have HOb8 := hid (owns_below HOb7.out hb8)
            have HE8 := hid (below_then HE7.out hb8 HE7.out.size)
            clear ho8 hb8 HOb7 HE7
            go_wp2_with fail
            refine (samePairs_any _ _ F w8 (Reads.own encP_len (by decide) HO8.out) (Reads.own encP_len (by decide) HOb8.out)).mono ?_
            rintro e w9 ⟨rfl, n9, rfl⟩
            have HE9 := hid (below_then HE8.out (below_drew w8 n9) HE8.out.size)
            generalize w8.drewN n9 = w9 at HE9 ⊢
            go_wp2_with fail
            refine (awake_calls _).mono ?_
            rintro e w10 ⟨rfl, hb10⟩
            have HEnd := hid (below_then HE9.out hb10 HE9.out.size)
            go_wp2
            go_ret
            exact ⟨rfl, HEnd.out⟩
theorem cutJoins_walk (w : World) (v : Value) (ls : List (List KV)) (hv : rSlice 1 (rSlice 2 rPr) w [v] ls) (k : Int) (wk : (Lit.int .i64 k).wf = true) :
    Calls Try.prog 5 #[v, .int .i64 k] w fun e w' => e = .returned (.bool true) ∧ Below w.heap.size w w' := cutJoins_plain w v ls (Lis.arg hv) k
end Go.Proofs.Ythjoomcannfnjaa
