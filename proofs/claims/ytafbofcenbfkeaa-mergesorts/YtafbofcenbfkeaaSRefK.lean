/- Keys of the reference: each key is put where it belongs. -/
import Derived.Test.YtafbofcenbfkeaaSRef
import Derived.Laws.AppendOwnNone
namespace Go.Proofs.Ytafbofcenbfkeaa
open Go.RowKit
set_option linter.unusedVariables false

theorem new_kept {W w' : World} {x : Value} {t : TypeId} (h : Below (W.alloc (.cells #[x] t)).heap.size (W.alloc (.cells #[x] t)) w') : ∀ j u, [x][j]? = some u → w'.cell? ((⟨W.heap.size, 0, none⟩ : Addr).add j) = some u := by
  intro j u hu
  have h1 := one_new W x t j u hu
  rw [addr_add] at h1 ⊢
  rw [h.cell (p := ⟨W.heap.size, 0 + j, none⟩) (by simp)]
  exact h1
/-- The cells of what is cut off behind k. -/
theorem far_news {w : World} {base k uc : Nat} {uo ao : Option Addr} {ks A B : List ByteArray} (h : w.ownsRow base 9 1 (.slice uo ks.length uc) ks.length (fl encT ks)) (hks : ks = A ++ B) (hA : A.length = k) (hao : (if uc = k then uo else Option.map (fun x => x.add k) uo) = ao) : ∀ ad, ao = some ad → ∀ j u, (fl encT B)[j]? = some u → w.cell? (ad.add j) = some u := by
  intro ad had j u hu
  obtain ⟨x, hx, hk⟩ := fl_of encT_len (by decide) hu
  rw [Nat.div_one] at hx
  have hx2 : ks[k + j]? = some x := by rw [hks, List.getElem?_append_right (by omega), ← hA, Nat.add_sub_cancel_left]; exact hx
  have hlt := (List.getElem?_eq_some_iff.1 hx2).1
  obtain ⟨b, off, y, hy, rfl, hb, hc⟩ := Txs.cell? (Reads.own encT_len (by decide) h) hlt
  rw [hx2] at hy
  cases hy
  have hcap := (Reads.own encT_len (by decide) h)
  obtain ⟨ao', cap', hvv, q1, -, -, -⟩ := hcap
  cases hvv
  rw [if_neg (by omega)] at hao
  simp only [Option.map_some] at hao
  rw [← hao] at had
  cases had
  rw [Nat.mod_one] at hk
  have hu2 : u = .string x := by simpa [encT] using hk.symm
  subst hu2
  rw [addr_add, addr_add, Nat.add_assoc]
  exact hc
theorem far_none {w : World} {base k uc : Nat} {uo ao : Option Addr} {ks : List ByteArray} (h : w.ownsRow base 9 1 (.slice uo ks.length uc) ks.length (fl encT ks)) (hao : (if uc = k then uo else Option.map (fun x => x.add k) uo) = ao) (e : ao = none) : ks.length - k = 0 ∧ uc - k = 0 := by
  subst e
  obtain ⟨ao', cap', hvv, q1, -, q3, -⟩ := Reads.own encT_len (by decide) h
  cases hvv
  have hu : uo = none := by
    split at hao
    · exact hao
    · cases uo with
      | none => rfl
      | some a => cases hao
  obtain ⟨h1, h2⟩ := q3 hu
  rw [h1, h2]
  simp
theorem insK_mid (s : ByteArray) : ∀ (A B : List ByteArray), (∀ a ∈ A, kLt a s = true) → (∀ y B', B = y :: B' → kLt y s = false ∧ y ≠ s) → insK s (A ++ B) = A ++ s :: B
  | [], [], _, _ => rfl
  | [], y :: B, _, h => by
    obtain ⟨h1, h2⟩ := h y B rfl
    show insK s (y :: B) = _
    unfold insK
    rw [if_neg (by rw [h1]; simp), if_neg h2]
    rfl
  | a :: A, B, hA, h => by
    show insK s (a :: (A ++ B)) = _
    unfold insK
    rw [if_pos (hA a List.mem_cons_self), insK_mid s A B (fun x hx => hA x (List.mem_cons_of_mem _ hx)) h]
    rfl
theorem insK_there (s : ByteArray) : ∀ (A B : List ByteArray), (∀ a ∈ A, kLt a s = true) → insK s (A ++ s :: B) = A ++ s :: B
  | [], B, _ => by
    show insK s (s :: B) = _
    unfold insK
    rw [if_neg (by rw [kLt_irrefl]; simp), if_pos rfl]
    rfl
  | a :: A, B, hA => by
    show insK s (a :: (A ++ s :: B)) = _
    unfold insK
    rw [if_pos (hA a List.mem_cons_self), insK_there s A B (fun x hx => hA x (List.mem_cons_of_mem _ hx))]
    rfl
theorem keysOf_take {l : List KV} {k : Nat} {x : KV} (hx : l[k]? = some x) : keysOf (l.take (k + 1)) = insK x.1 (keysOf (l.take k)) := by
  obtain ⟨h1, rfl⟩ := List.getElem?_eq_some_iff.1 hx
  rw [List.take_succ_eq_append_getElem h1]
  unfold keysOf
  rw [List.foldl_append]
  rfl

set_option maxHeartbeats 4000000 in
theorem refKeys_any : RefKeysOk := by
  intro v l w hv hn
  have HV := hid hv
  obtain ⟨ao, ca, rfl, a1, a2, a3, -⟩ := hv
  unfold maxLen at a2
  clear a3
  obtain ⟨i0, hi, hz0, hz1, hz2⟩ := info_parts Try.infoT
  go_enter Try.func30, Try.ntmps30
  go_wp2
  go_loopw [3, 4] (fun u i wr => ∃ k : Nat, k ≤ l.length ∧ i = .int .i64 k ∧ wr.ownsRow w.heap.size 9 1 u (keysOf (l.take k)).length (fl encT (keysOf (l.take k))) ∧ Below w.heap.size w wr) (fun _ i _ => l.length - (intOf i).toNat)
  case atStart => exact ⟨0, by omega, rfl, by simpa [keysOf, fl] using World.ownsRow_nil _ _ _ _, Below.refl _ _⟩
  case round =>
    obtain ⟨n, hnl, rfl, ho, hbel⟩ := hrel
    have hsz := hbel.size
    by_cases hlt : n < l.length
    · have hd4 : decide ((n : Int) < (l.length : Int)) = true := by simp; omega
      obtain ⟨pb, po, x, hx, rfl, hpb, c1, c2⟩ := Prs.cell? (HV.out.below hbel) hlt
      obtain ⟨s, t⟩ := x
      simp only at c1 c2
      have HT := hid (keysOf_take hx)
      have hkl : (keysOf (l.take n)).length ≤ n := by
        have := length_keys (l.take n)
        rw [List.length_take] at this
        omega
      obtain ⟨ks, hks⟩ : ∃ ks, keysOf (l.take n) = ks := ⟨_, rfl⟩
      rw [hks] at ho hkl HT
      obtain ⟨uo, uc, rfl⟩ := own_slice ho
      have HO := hid ho
      have HC := hid c1
      clear ho hx hks c2
      go_wp2
      go_loopw [5] (fun j wq => ∃ (A B : List ByteArray) (k : Nat), ks = A ++ B ∧ A.length = k ∧ j = .int .i64 k ∧ (∀ a ∈ A, kLt a s = true) ∧ ∃ d, wq = wr.drewN d) (fun j _ => ks.length - (intOf j).toNat)
      case atStart => exact ⟨[], ks, 0, rfl, rfl, rfl, (fun _ h => by cases h), 0, rfl⟩
      case round =>
        obtain ⟨A, B, k, hAB, hA, rfl, hlow, d, rfl⟩ := hrel
        have HA := hid (And.intro hAB hlow)
        have hkl2 := congrArg List.length hAB
        rw [List.length_append, hA] at hkl2
        clear hlow
        cases B with
        | nil =>
          have hks : k = ks.length := by simpa using hkl2.symm
          have hd5 : decide (k < ks.length) = false := by simp; omega
          have hd6 : decide ((k : Int) < (ks.length : Int)) = false := by simp; omega
          have HKs := hid hks
          have hkle : k ≤ ks.length := by omega
          clear hAB hkl2 hks
          go_wp2_with fail
          go_quiet (fail)
          rename Nat => nq1
          go_wp2_with fail
          go_quiet (fail)
          rename Nat => nq2
          go_wp2_with fail
          have HIns := hid (show insK s ks = A ++ s :: ([] : List ByteArray) by rw [HA.out.1]; exact insK_mid s A [] HA.out.2 (fun y B' e => by cases e))
          generalize hW : ((wr.drewN d).drewN nq1).drewN nq2 = W
          have hBW : Below wr.heap.size wr W := by rw [← hW]; exact ⟨rfl, rfl, rfl, Nat.le_refl _, fun _ _ => rfl⟩
          have HOW := hid (owns_below HO.out hBW)
          have HCW := hid ((hBW.cell (p := ⟨pb, po + n * 2, none⟩) hpb).trans HC.out)
          have HBW := hid (below_then hbel hBW hbel.size)
          have hpw : pb < W.heap.size := Nat.lt_of_lt_of_le hpb hBW.size
          clear hW hBW HO HC hbel hpb c1 hsz
          have hszW := HBW.out.size
          obtain ⟨ao', cap', hvv, q1, q2, q3, -⟩ := Reads.own encT_len (by decide) HOW.out
          simp only [Value.slice.injEq, true_and] at hvv
          obtain ⟨rfl, rfl⟩ := hvv
          unfold maxLen at q2
          have HQ3 := hid q3
          clear q3
          have hn0 : (0 : Int) ≤ (n : Int) := by omega
          have hnn : (n : Int) < (l.length : Int) := by omega
          have hk0 : (0 : Int) ≤ (k : Int) := by omega
          have hkn : (k : Int) ≤ (ks.length : Int) := by omega
          have hkc : (k : Int) ≤ (uc : Int) := by omega
          have cW := HCW.out
          obtain ⟨ao2, hao2⟩ : ∃ ao2, (if uc = k then uo else Option.map (fun x => x.add k) uo) = ao2 := ⟨_, rfl⟩
          have HNone := hid (show uo = none → k = 0 ∧ uc = 0 from fun e => by have := HQ3.out e; have hz := congrArg List.length this.1; simp at hz; omega)
          have HCut := hid (show Txs W (.slice uo k uc) A by
            have h := Reads.own encT_len (by decide) HOW.out
            rw [HA.out.1] at h
            have h2 := h.cut
            rw [hA] at h2
            exact h2)
          have HFar := hid (show ∀ w', Below W.heap.size W w' → ∀ ad, ao2 = some ad → ∀ j u, (fl encT ([] : List ByteArray))[j]? = some u → w'.cell? (ad.add j) = some u from fun w' hb => far_news (owns_below HOW.out hb) HA.out.1 hA hao2)
          have HNone2 := hid (show ao2 = none → ks.length - k = 0 ∧ uc - k = 0 from fun e => far_none HOW.out hao2 e)
          have HLB := hid (show (fl encT ([] : List ByteArray)).length = (ks.length - k) * 1 by
            rw [fl_length encT_len]
            have := congrArg List.length HA.out.1
            rw [List.length_append] at this
            omega)
          have HLA := hid (show (fl encT A).length = k * 1 by rw [fl_length encT_len, hA])
          have HBa := hid ((Below.refl W.heap.size W).alloc (Nat.le_refl _) (.cells #[.string s] 9))
          have HBad := hid (below_then HBa.out (below_drew1 _) HBa.out.size)
          go_region_held3 (fun w' => w'.cell? ⟨pb, po + n * 2, none⟩ = some (.string s))
            (first | exact keepc HB3.out hpw HCW.out | exact keepc HB2.out hpw HCW.out | exact keepc (below_then HB1.out (alloc_one _ _) HB1.out.size) hpw HCW.out | exact keepc HB1.out hpw HCW.out | exact keepc HBb.out hpw HCW.out | exact keepc HBad.out hpw HCW.out | exact keepc HBa.out hpw HCW.out | exact HCW.out)
            (first | (refine step_append_any rfl (.const (.slice none 0 0)) (.tmp 48) 39 rfl W.heap.size 9 i0 _ 1 16 Try.underlying39 hi hz0 hz1 hz2 rfl (by decide) (.slice none 0 0) 0 [] (by simp [Act.eval]) (World.ownsRow_nil _ _ _ _) uo k uc (fl encT A) (by simp [Act.eval]) HLA.out HNone.out (HCut.out.news encT_len (by decide) (below_drew1 W)) (fl_one encT_one A) (by unfold maxLen; omega) (by omega) (Nat.le_refl _) ?_; intro v1 w1 ho1 hg1; have HO1 := hid ho1; have HB1 := hid (below_then (below_drew1 W) (below_none hg1) (Nat.le_refl _)); clear ho1 hg1) | (refine step_append_any rfl (.const (.slice none 0 0)) (.tmp 48) 39 rfl W.heap.size 9 i0 _ 1 16 Try.underlying39 hi hz0 hz1 hz2 rfl (by decide) (.slice none 0 0) 0 [] (by simp [Act.eval]) (World.ownsRow_nil _ _ _ _) uo k uc (fl encT A) (by simp [Act.eval]) HLA.out HNone.out (HCut.out.news encT_len (by decide) (below_then HBa.out (below_drew1 _) HBa.out.size)) (fl_one encT_one A) (by unfold maxLen; omega) (by omega) (by simp) ?_; intro v1 w1 ho1 hg1; have HO1 := hid ho1; have HBb := hid (below_then (below_then HBa.out (below_drew1 _) HBa.out.size) (below_none hg1) (by simp)); have HNew := hid (new_kept (below_then (below_drew1 _) (below_none hg1) (Nat.le_refl _))); clear ho1 hg1) | (have hsz1 := HB1.out.size; refine step_append_own rfl (.tmp 49) (.tmp 55) 39 rfl W.heap.size 9 i0 _ 1 16 Try.underlying39 hi hz0 hz1 hz2 rfl (by decide) v1 _ _ (by simp [Act.eval]) (HO1.out.alloc _) ⟨w1.heap.size, 0, none⟩ 1 1 [.string s] (by simp [Act.eval]) rfl (one_new w1 _ _) (by intro u hu; simp at hu; subst hu; rfl) (by unfold maxLen; omega) (by omega) (by simp; omega) ?_; intro v2 w2 ho2 hg2; have HO2 := hid ho2; have HB2 := hid ((below_then HB1.out (alloc_one w1 _) HB1.out.size).grown hg2 (by simp; omega) (fun q hq => owns_base HO1.out hq)); clear ho2 hg2) | (have hsz1 := HBb.out.size; refine step_append_own rfl (.tmp 49) (.tmp 55) 39 rfl W.heap.size 9 i0 _ 1 16 Try.underlying39 hi hz0 hz1 hz2 rfl (by decide) v1 _ _ (by simp [Act.eval]) HO1.out ⟨W.heap.size, 0, none⟩ 1 1 [.string s] (by simp [Act.eval]) rfl HNew.out (by intro u hu; simp at hu; subst hu; rfl) (by unfold maxLen; omega) (by omega) hsz1 ?_; intro v2 w2 ho2 hg2; have HO2 := hid ho2; have HB2 := hid (HBb.out.grown hg2 hsz1 (fun q hq => owns_base HO1.out hq)); clear ho2 hg2) | (have hsz2 := HB2.out.size; refine step_append_any rfl (.tmp 56) (.tmp 59) 39 rfl W.heap.size 9 i0 _ 1 16 Try.underlying39 hi hz0 hz1 hz2 rfl (by decide) v2 _ _ (by simp [Act.eval]) HO2.out ao2 (ks.length - k) (uc - k) (fl encT ([] : List ByteArray)) (by simp [Act.eval]) HLB.out HNone2.out (HFar.out _ HB2.out) (fl_one encT_one ([] : List ByteArray)) (by unfold maxLen; omega) (by omega) hsz2 ?_; intro v3 w3 ho3 hg3; have HO3 := hid ho3; have HB3 := hid (HB2.out.grown hg3 hsz2 (fun q hq => owns_base HO2.out hq)); clear ho3 hg3))
          all_goals
            have HO4 := hid (show w3.ownsRow w.heap.size 9 1 v3 (keysOf (l.take (n + 1))).length (fl encT (keysOf (l.take (n + 1)))) by
              rw [HT.out, HIns.out]
              have h1 := owns_mono HO3.out hszW
              have h2 : 0 + k + 1 + (ks.length - k) = (A ++ s :: ([] : List ByteArray)).length := by
                have := congrArg List.length HA.out.1
                rw [List.length_append] at this ⊢
                rw [List.length_cons]
                omega
              rw [h2] at h1
              have h3 : ([] ++ fl encT A ++ [Value.string s] ++ fl encT ([] : List ByteArray)) = fl encT (A ++ s :: ([] : List ByteArray)) := by
                rw [fl_append]
                simp [fl, encT]
              rw [h3] at h1
              exact h1)
            have HB4 := hid (below_then HBW.out HB3.out hszW)
            go_wp2
            go_roundw
            case rel => exact ⟨n + 1, by omega, by go_num, HO4.out, HB4.out⟩
            case measure => simp [intOf]; omega
        | cons y B =>
          have hd5 : decide (k < ks.length) = true := by simp at hkl2 ⊢; omega
          have hd6 : decide ((k : Int) < (ks.length : Int)) = true := by simp at hkl2 ⊢; omega
          have hkk : ks[k]? = some y := by rw [hAB, List.getElem?_append_right (by omega), hA]; simp
          obtain ⟨b, off, y', hy', rfl, hb, d1⟩ := Txs.cell? (Reads.own encT_len (by decide) HO.out) (List.getElem?_eq_some_iff.1 hkk).1
          rw [hkk] at hy'
          cases hy'
          have hk0 : (0 : Int) ≤ (k : Int) := by omega
          have hkn : (k : Int) < (ks.length : Int) := by simp at hkl2; omega
          have hn0 : (0 : Int) ≤ (n : Int) := by omega
          have hnn : (n : Int) < (l.length : Int) := by omega
          have hklt : k < ks.length := by simp at hkl2; omega
          have HK2 := hid hkl2
          clear hAB hkk hkl2
          obtain ⟨z, hz⟩ : ∃ z, kLt y s = z := ⟨_, rfl⟩
          have Hz := hid hz
          have hb1 : Op.bytesLess y.toList s.toList = z := by rw [ByteArray.toList_eq, ByteArray.toList_eq]; exact hz
          clear hz
          cases z
          · by_cases hys : y = s
            · subst hys
              have he : (y.toList == y.toList) = true := by simp
              have HIns := hid (show insK y ks = ks by rw [HA.out.1]; exact insK_there y A B HA.out.2)
              go_wp2_with fail
              go_quiet (fail)
              rename Nat => nq1
              go_wp2_with fail
              go_quiet (fail)
              rename Nat => nq2
              have hBW : Below wr.heap.size wr (((wr.drewN d).drewN nq1).drewN nq2) := ⟨rfl, rfl, rfl, Nat.le_refl _, fun _ _ => rfl⟩
              have HO4 := hid (show (((wr.drewN d).drewN nq1).drewN nq2).ownsRow w.heap.size 9 1 _ (keysOf (l.take (n + 1))).length (fl encT (keysOf (l.take (n + 1)))) by rw [HT.out, HIns.out]; exact owns_below HO.out hBW)
              go_wp2
              go_roundw
              case rel => exact ⟨n + 1, by omega, by go_num, HO4.out, below_then hbel (below_drew wr _) hbel.size⟩
              case measure => simp [intOf]; omega
            · have he1 : ¬ y.toList = s.toList := fun e => hys (bytes_inj e)
              have he : (y.toList == s.toList) = false := by simpa using he1
              have HYS := hid hys
              have hkle : k ≤ ks.length := by omega
              clear hys
              go_wp2_with fail
              go_quiet (fail)
              rename Nat => nq1
              go_wp2_with fail
              go_quiet (fail)
              rename Nat => nq2
              go_wp2_with fail
              obtain ⟨uo, huo⟩ : ∃ uo : Option Addr, some ⟨b, off, none⟩ = uo := ⟨_, rfl⟩
              rw [huo] at HO ⊢
              clear hd5 hd6 hkn hn0 hnn hk0 d1 hb huo
              have HIns := hid (show insK s ks = A ++ s :: (y :: B) by rw [HA.out.1]; exact insK_mid s A (y :: B) HA.out.2 (fun y' B' e => by cases e; exact ⟨Hz.out, HYS.out⟩))
              generalize hW : ((wr.drewN d).drewN nq1).drewN nq2 = W
              have hBW : Below wr.heap.size wr W := by rw [← hW]; exact ⟨rfl, rfl, rfl, Nat.le_refl _, fun _ _ => rfl⟩
              have HOW := hid (owns_below HO.out hBW)
              have HCW := hid ((hBW.cell (p := ⟨pb, po + n * 2, none⟩) hpb).trans HC.out)
              have HBW := hid (below_then hbel hBW hbel.size)
              have hpw : pb < W.heap.size := Nat.lt_of_lt_of_le hpb hBW.size
              clear hW hBW HO HC hbel hpb c1 hsz
              have hszW := HBW.out.size
              obtain ⟨ao', cap', hvv, q1, q2, q3, -⟩ := Reads.own encT_len (by decide) HOW.out
              simp only [Value.slice.injEq, true_and] at hvv
              obtain ⟨rfl, rfl⟩ := hvv
              unfold maxLen at q2
              have HQ3 := hid q3
              clear q3
              have hn0 : (0 : Int) ≤ (n : Int) := by omega
              have hnn : (n : Int) < (l.length : Int) := by omega
              have hk0 : (0 : Int) ≤ (k : Int) := by omega
              have hkn : (k : Int) ≤ (ks.length : Int) := by omega
              have hkc : (k : Int) ≤ (uc : Int) := by omega
              have cW := HCW.out
              obtain ⟨ao2, hao2⟩ : ∃ ao2, (if uc = k then uo else Option.map (fun x => x.add k) uo) = ao2 := ⟨_, rfl⟩
              have HNone := hid (show uo = none → k = 0 ∧ uc = 0 from fun e => by have := HQ3.out e; have hz := congrArg List.length this.1; simp at hz; omega)
              have HCut := hid (show Txs W (.slice uo k uc) A by
                have h := Reads.own encT_len (by decide) HOW.out
                rw [HA.out.1] at h
                have h2 := h.cut
                rw [hA] at h2
                exact h2)
              have HFar := hid (show ∀ w', Below W.heap.size W w' → ∀ ad, ao2 = some ad → ∀ j u, (fl encT (y :: B))[j]? = some u → w'.cell? (ad.add j) = some u from fun w' hb => far_news (owns_below HOW.out hb) HA.out.1 hA hao2)
              have HNone2 := hid (show ao2 = none → ks.length - k = 0 ∧ uc - k = 0 from fun e => far_none HOW.out hao2 e)
              have HLB := hid (show (fl encT (y :: B)).length = (ks.length - k) * 1 by
                rw [fl_length encT_len]
                have := congrArg List.length HA.out.1
                rw [List.length_append] at this
                omega)
              have HLA := hid (show (fl encT A).length = k * 1 by rw [fl_length encT_len, hA])
              have HBa := hid ((Below.refl W.heap.size W).alloc (Nat.le_refl _) (.cells #[.string s] 9))
              have HBad := hid (below_then HBa.out (below_drew1 _) HBa.out.size)
              go_region_held3 (fun w' => w'.cell? ⟨pb, po + n * 2, none⟩ = some (.string s))
                (first | exact keepc HB3.out hpw HCW.out | exact keepc HB2.out hpw HCW.out | exact keepc (below_then HB1.out (alloc_one _ _) HB1.out.size) hpw HCW.out | exact keepc HB1.out hpw HCW.out | exact keepc HBb.out hpw HCW.out | exact keepc HBad.out hpw HCW.out | exact keepc HBa.out hpw HCW.out | exact HCW.out)
                (first | (refine step_append_any rfl (.const (.slice none 0 0)) (.tmp 48) 39 rfl W.heap.size 9 i0 _ 1 16 Try.underlying39 hi hz0 hz1 hz2 rfl (by decide) (.slice none 0 0) 0 [] (by simp [Act.eval]) (World.ownsRow_nil _ _ _ _) uo k uc (fl encT A) (by simp [Act.eval]) HLA.out HNone.out (HCut.out.news encT_len (by decide) (below_drew1 W)) (fl_one encT_one A) (by unfold maxLen; omega) (by omega) (Nat.le_refl _) ?_; intro v1 w1 ho1 hg1; have HO1 := hid ho1; have HB1 := hid (below_then (below_drew1 W) (below_none hg1) (Nat.le_refl _)); clear ho1 hg1) | (refine step_append_any rfl (.const (.slice none 0 0)) (.tmp 48) 39 rfl W.heap.size 9 i0 _ 1 16 Try.underlying39 hi hz0 hz1 hz2 rfl (by decide) (.slice none 0 0) 0 [] (by simp [Act.eval]) (World.ownsRow_nil _ _ _ _) uo k uc (fl encT A) (by simp [Act.eval]) HLA.out HNone.out (HCut.out.news encT_len (by decide) (below_then HBa.out (below_drew1 _) HBa.out.size)) (fl_one encT_one A) (by unfold maxLen; omega) (by omega) (by simp) ?_; intro v1 w1 ho1 hg1; have HO1 := hid ho1; have HBb := hid (below_then (below_then HBa.out (below_drew1 _) HBa.out.size) (below_none hg1) (by simp)); have HNew := hid (new_kept (below_then (below_drew1 _) (below_none hg1) (Nat.le_refl _))); clear ho1 hg1) | (have hsz1 := HB1.out.size; refine step_append_own rfl (.tmp 49) (.tmp 55) 39 rfl W.heap.size 9 i0 _ 1 16 Try.underlying39 hi hz0 hz1 hz2 rfl (by decide) v1 _ _ (by simp [Act.eval]) (HO1.out.alloc _) ⟨w1.heap.size, 0, none⟩ 1 1 [.string s] (by simp [Act.eval]) rfl (one_new w1 _ _) (by intro u hu; simp at hu; subst hu; rfl) (by unfold maxLen; omega) (by omega) (by simp; omega) ?_; intro v2 w2 ho2 hg2; have HO2 := hid ho2; have HB2 := hid ((below_then HB1.out (alloc_one w1 _) HB1.out.size).grown hg2 (by simp; omega) (fun q hq => owns_base HO1.out hq)); clear ho2 hg2) | (have hsz1 := HBb.out.size; refine step_append_own rfl (.tmp 49) (.tmp 55) 39 rfl W.heap.size 9 i0 _ 1 16 Try.underlying39 hi hz0 hz1 hz2 rfl (by decide) v1 _ _ (by simp [Act.eval]) HO1.out ⟨W.heap.size, 0, none⟩ 1 1 [.string s] (by simp [Act.eval]) rfl HNew.out (by intro u hu; simp at hu; subst hu; rfl) (by unfold maxLen; omega) (by omega) hsz1 ?_; intro v2 w2 ho2 hg2; have HO2 := hid ho2; have HB2 := hid (HBb.out.grown hg2 hsz1 (fun q hq => owns_base HO1.out hq)); clear ho2 hg2) | (have hsz2 := HB2.out.size; refine step_append_any rfl (.tmp 56) (.tmp 59) 39 rfl W.heap.size 9 i0 _ 1 16 Try.underlying39 hi hz0 hz1 hz2 rfl (by decide) v2 _ _ (by simp [Act.eval]) HO2.out ao2 (ks.length - k) (uc - k) (fl encT (y :: B)) (by simp [Act.eval]) HLB.out HNone2.out (HFar.out _ HB2.out) (fl_one encT_one (y :: B)) (by unfold maxLen; omega) (by omega) hsz2 ?_; intro v3 w3 ho3 hg3; have HO3 := hid ho3; have HB3 := hid (HB2.out.grown hg3 hsz2 (fun q hq => owns_base HO2.out hq)); clear ho3 hg3))
              all_goals
                have HO4 := hid (show w3.ownsRow w.heap.size 9 1 v3 (keysOf (l.take (n + 1))).length (fl encT (keysOf (l.take (n + 1)))) by
                  rw [HT.out, HIns.out]
                  have h1 := owns_mono HO3.out hszW
                  have h2 : 0 + k + 1 + (ks.length - k) = (A ++ s :: (y :: B)).length := by
                    have := congrArg List.length HA.out.1
                    rw [List.length_append] at this ⊢
                    rw [List.length_cons]
                    omega
                  rw [h2] at h1
                  have h3 : ([] ++ fl encT A ++ [Value.string s] ++ fl encT (y :: B)) = fl encT (A ++ s :: (y :: B)) := by
                    rw [fl_append]
                    simp [fl, encT]
                  rw [h3] at h1
                  exact h1)
                have HB4 := hid (below_then HBW.out HB3.out hszW)
                go_wp2
                go_roundw
                case rel => exact ⟨n + 1, by omega, by go_num, HO4.out, HB4.out⟩
                case measure => simp [intOf]; omega
          · go_wp2_with fail
            go_quiet (fail)
            go_wp2
            go_roundw
            case rel =>
              refine ⟨A ++ [y], B, k + 1, by rw [HA.out.1]; simp, by simp; omega, by go_num, ?_, _, rfl⟩
              intro a ha
              rcases List.mem_append.1 ha with ha | ha
              · exact HA.out.2 a ha
              · rw [List.mem_singleton.1 ha]; exact Hz.out
            case measure => simp [intOf]; omega
    · have hd4 : decide ((n : Int) < (l.length : Int)) = false := by simp; omega
      obtain rfl : n = l.length := by omega
      rw [List.take_length] at ho
      have HO := hid ho
      clear ho
      go_wp2
      go_ret
      exact ⟨_, rfl, HO.out, hbel⟩
end Go.Proofs.Ytafbofcenbfkeaa
