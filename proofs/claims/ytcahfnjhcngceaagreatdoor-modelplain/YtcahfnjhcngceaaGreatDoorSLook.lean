/- What only looks at pairs: GreatPairs, May and Sorted of the program, May of the reference. -/
import Derived.Test.YtcahfnjhcngceaaGreatDoorLPairs
import Derived.Test.YtcahfnjhcngceaaGreatDoorGTexts
import Derived.Test.YtcahfnjhcngceaaGreatDoorGSort
namespace Go.Proofs.YtcahfnjhcngceaaGreatDoor
open Go.RowKit
set_option linter.unusedVariables false
set_option maxRecDepth 100000

/-- May a pair be? -/
def okP (x : KV) : Bool := decide (x.1.size ≤ 16) && decide (x.2.size ≤ 64)
def mayP (l : List KV) : Bool := l.all okP
theorem mayP_take {l : List KV} {k : Nat} {x : KV} (h : mayP (l.take k) = true) (hx : l[k]? = some x) (ho : okP x = true) : mayP (l.take (k + 1)) = true := by
  obtain ⟨hk, rfl⟩ := List.getElem?_eq_some_iff.1 hx
  rw [List.take_succ_eq_append_getElem hk]
  unfold mayP at h ⊢
  rw [List.all_append, h]
  simp [ho]
theorem mayP_not {l : List KV} {k : Nat} {x : KV} (hx : l[k]? = some x) (ho : okP x = false) : mayP l = false := by
  unfold mayP
  rw [List.all_eq_false]
  exact ⟨x, List.mem_of_getElem? hx, by rw [ho]; simp⟩
theorem mayP_append (a b : List KV) : mayP (a ++ b) = (mayP a && mayP b) := by simp [mayP]

set_option maxHeartbeats 1000000 in
theorem tooLong_calls (x : KV) (w : World) : Calls Tryz.prog 57 #[prV x] w fun e w' => e = .returned (.bool (!okP x)) ∧ Below w.heap.size w w' := by
  obtain ⟨s, t⟩ := x
  have HB := hid ((Below.refl _ w).alloc (Nat.le_refl _) (.cells #[.string s, .string t] 53))
  by_cases hs : 16 < s.size
  · have hd5 : decide ((16 : Int) < (s.size : Int)) = true := by simp; omega
    have HR := hid (show (!okP (s, t)) = true by simp [okP]; omega)
    go_enter Tryz.func57, Tryz.ntmps57
    go_wp2
    go_ret
    exact ⟨by rw [HR.out]; rfl, HB.out⟩
  · have hd5 : decide ((16 : Int) < (s.size : Int)) = false := by simp; omega
    by_cases ht : 64 < t.size
    · have hd6 : decide ((64 : Int) < (t.size : Int)) = true := by simp; omega
      have HR := hid (show (!okP (s, t)) = true by simp [okP]; omega)
      go_enter Tryz.func57, Tryz.ntmps57
      go_wp2
      go_ret
      exact ⟨by rw [HR.out]; rfl, HB.out⟩
    · have hd6 : decide ((64 : Int) < (t.size : Int)) = false := by simp; omega
      have HR := hid (show (!okP (s, t)) = false by simp [okP]; omega)
      go_enter Tryz.func57, Tryz.ntmps57
      go_wp2
      go_ret
      exact ⟨by rw [HR.out]; rfl, HB.out⟩

def IdxIs (l : List KV) (e : Ending) : Prop := ∃ c : Int, e = .returned (.int .i64 c) ∧ decide (0 ≤ c) = !mayP l
set_option maxHeartbeats 1000000 in
theorem pairIndex_any (v : Value) (l : List KV) (w : World) (hv : Prs w v l) : Calls Tryz.prog 76 #[v, .func (.func 57) #[] #[]] w fun e w' => IdxIs l e ∧ Below w.heap.size w w' := by
  have HV := hid hv
  obtain ⟨ao, ca, rfl, a1, a2, a3, -⟩ := hv
  unfold maxLen at a2
  clear a3
  go_enter Tryz.func76, Tryz.ntmps76
  go_wp2
  go_loopw [8] (fun i wr => ∃ k : Nat, k ≤ l.length ∧ mayP (l.take k) = true ∧ i = .int .i64 k ∧ Below w.heap.size w wr) (fun i _ => l.length - (intOf i).toNat)
  case atStart => exact ⟨0, by omega, rfl, rfl, Below.refl _ _⟩
  case round =>
    obtain ⟨k, hk, hm, rfl, hbr⟩ := hrel
    have HM := hid hm
    clear hm
    by_cases hlt : k < l.length
    · obtain ⟨b, off, x, hx, rfl, hb, c1, c2⟩ := Prs.cell? (HV.out.below hbr) hlt
      have HX := hid hx
      clear hx
      obtain ⟨s, t⟩ := x
      simp only at c1 c2
      have hd4 : decide ((k : Int) < (l.length : Int)) = true := by simp; omega
      go_wp2_with fail
      refine (tooLong_calls (s, t) _).mono ?_
      rintro e w1 ⟨rfl, hb1⟩
      have HB1 := hid (below_then hbr hb1 hbr.size)
      clear hb1 hbr c1 c2
      obtain ⟨o, ho⟩ : ∃ o, okP (s, t) = o := ⟨_, rfl⟩
      rw [ho]
      have HO := hid ho
      clear ho
      cases o
      · have HR := hid (mayP_not HX.out HO.out)
        go_wp2
        go_ret
        exact ⟨⟨(k : Int), rfl, by rw [HR.out]; simp⟩, HB1.out⟩
      · have HR := hid (mayP_take HM.out HX.out HO.out)
        go_wp2
        go_roundw
        case rel => exact ⟨k + 1, by omega, HR.out, by go_num, HB1.out⟩
        case measure => simp [intOf]; omega
    · obtain rfl : k = l.length := by omega
      have hd4 : decide ((l.length : Int) < (l.length : Int)) = false := by simp
      have HR := hid (show mayP l = true by have := HM.out; rw [List.take_length] at this; exact this)
      go_wp2
      go_ret
      exact ⟨⟨-1, rfl, by rw [HR.out]; rfl⟩, hbr⟩
set_option maxHeartbeats 1000000 in
theorem pairMay_any (v : Value) (l : List KV) (w : World) (hv : Prs w v l) : Calls Tryz.prog 39 #[v] w fun e w' => e = .returned (.bool (mayP l)) ∧ Below w.heap.size w w' := by
  have HV := hid hv
  clear hv
  have hcon : Calls Tryz.prog 56 #[v, .func (.func 57) #[] #[]] w fun e w' => e = .returned (.bool (!mayP l)) ∧ Below w.heap.size w w' := by
    go_enter Tryz.func56, Tryz.ntmps56
    go_wp2_with fail
    refine (pairIndex_any v l w HV.out).mono ?_
    rintro e w1 ⟨⟨c, rfl, hc⟩, hb⟩
    obtain ⟨o, ho⟩ : ∃ o, (!mayP l) = o := ⟨_, rfl⟩
    rw [ho] at hc
    have HO := hid ho
    clear ho
    go_wp2
    go_ret
    exact ⟨by rw [HO.out]; rfl, hb⟩
  have HC := hid hcon
  clear hcon
  go_enter Tryz.func39, Tryz.ntmps39
  go_wp2_with fail
  refine HC.out.mono ?_
  rintro e w1 ⟨rfl, hb⟩
  obtain ⟨o, ho⟩ : ∃ o, mayP l = o := ⟨_, rfl⟩
  rw [ho]
  go_wp2
  go_ret
  exact ⟨by simp [ho], hb⟩

/-! ### In order? -/
theorem rising_of_steps : ∀ {l : List KV}, (∀ j x y, l[j]? = some x → l[j + 1]? = some y → kLt y.1 x.1 = false) → Rising l
  | [], _ => List.Pairwise.nil
  | [x], _ => List.pairwise_singleton _ _
  | x :: y :: l, h => by
    have hr : Rising (y :: l) := rising_of_steps fun j a b ha hb => h (j + 1) a b (by simpa using ha) (by simpa using hb)
    refine List.pairwise_cons.2 ⟨fun z hz => ?_, hr⟩
    have h0 := h 0 x y rfl rfl
    rcases List.mem_cons.1 hz with rfl | hz
    · exact h0
    · exact kLe_trans h0 ((List.pairwise_cons.1 hr).1 z hz)
theorem not_rising {l : List KV} {j : Nat} {x y : KV} (hx : l[j]? = some x) (hy : l[j + 1]? = some y) (h : kLt y.1 x.1 = true) : ¬ Rising l := by
  intro hr
  obtain ⟨h1, rfl⟩ := List.getElem?_eq_some_iff.1 hx
  obtain ⟨h2, rfl⟩ := List.getElem?_eq_some_iff.1 hy
  have := List.pairwise_iff_getElem.1 hr j (j + 1) h1 h2 (by omega)
  rw [this] at h
  cases h

set_option maxHeartbeats 2000000 in
theorem isSorted_any (v : Value) (l : List KV) (w : World) (hv : Prs w v l) : Calls Tryz.prog 32 #[v, keyFn] w fun e w' => e = .returned (.bool (decide (srt l = l))) ∧ Below w.heap.size w w' := by
  have HV := hid hv
  obtain ⟨ao, ca, rfl, a1, a2, a3, -⟩ := hv
  unfold maxLen at a2
  clear a3
  by_cases hl0 : l.length = 0
  · obtain rfl := List.eq_nil_of_length_eq_zero hl0
    go_enter Tryz.func32, Tryz.ntmps32
    go_wp2
    go_loop [5] (fun i => i = .int .i64 (-1)) (fun _ => 0)
    case atStart => rfl
    case round =>
      subst hrel
      go_wp2
      go_ret
      exact ⟨rfl, Below.refl _ _⟩
  · obtain ⟨n, hn⟩ : ∃ n, l.length = n + 1 := ⟨l.length - 1, by omega⟩
    have hn1 : ((l.length : Int) - 1) = (n : Int) := by omega
    have hn2 : n < l.length := by omega
    have HN := hid hn
    clear hl0 hn
    go_enter Tryz.func32, Tryz.ntmps32
    go_wp2
    go_loopw [5] (fun i wr => ∃ k : Nat, k ≤ n ∧ i = .int .i64 k ∧ (∀ j x y, k ≤ j → l[j]? = some x → l[j + 1]? = some y → kLt y.1 x.1 = false) ∧ Below w.heap.size w wr) (fun i _ => (intOf i).toNat)
    case atStart => exact ⟨n, by omega, rfl, (fun j x y hj hx hy => by have := (List.getElem?_eq_some_iff.1 hy).1; have := HN.out; omega), Below.refl _ _⟩
    case round =>
      obtain ⟨k, hk, rfl, hst, hbr⟩ := hrel
      have HS := hid hst
      clear hst
      by_cases hk0 : 0 < k
      · have hd : decide (0 < k) = true := by simp; omega
        have hd1 : decide ((0 : Int) < (k : Int)) = true := by simp; omega
        obtain ⟨q, hq⟩ : ∃ q, k = q + 1 := ⟨k - 1, by omega⟩
        have hk1 : ((k : Int) - 1) = (q : Int) := by omega
        have hqw : IntKind.i64.wrap (q : Int) = (q : Int) := by rw [IntKind.wrap_i64]; omega
        obtain ⟨b, off, x, hx, rfl, hb, c1, c2⟩ := Prs.cell? (HV.out.below hbr) (show k < l.length by omega)
        obtain ⟨b', off', y, hy, e, -, d1, d2⟩ := Prs.cell? (HV.out.below hbr) (show q < l.length by omega)
        simp only [Option.some.injEq, Addr.mk.injEq, and_true] at e
        obtain ⟨rfl, rfl⟩ := e
        have HXY := hid (And.intro hx hy)
        clear hx hy
        obtain ⟨x0, x1⟩ := x
        obtain ⟨y0, y1⟩ := y
        simp only at c1 c2 d1 d2
        have hk2 : (0 : Int) ≤ (k : Int) := by omega
        have hkn : (k : Int) < (l.length : Int) := by omega
        have hq0 : (0 : Int) ≤ (q : Int) := by omega
        have hqn : (q : Int) < (l.length : Int) := by omega
        have HC1 := hid c1
        have HC2 := hid c2
        have HD1 := hid d1
        have HD2 := hid d2
        have HQ := hid hq
        clear hq
        go_wp2_with fail
        go_region_held3 (fun w' => w'.cell? ⟨b, off + k * 2, none⟩ = some (.string x0) ∧ w'.cell? ⟨b, off + k * 2 + 1, none⟩ = some (.string x1) ∧ w'.cell? ⟨b, off + q * 2, none⟩ = some (.string y0) ∧ w'.cell? ⟨b, off + q * 2 + 1, none⟩ = some (.string y1)) (go_keep)
          (first | (go_at_call 33; refine (byKey_calls (x0, x1) (y0, y1) _).mono ?_; rintro e w5 ⟨c, rfl, hc, hb5⟩; have k1 := (hb5.cell (p := ⟨b, off + k * 2, none⟩) hb).trans HC1.out; have k2 := (hb5.cell (p := ⟨b, off + k * 2 + 1, none⟩) hb).trans HC2.out; have k3 := (hb5.cell (p := ⟨b, off + q * 2, none⟩) hb).trans HD1.out; have k4 := (hb5.cell (p := ⟨b, off + q * 2 + 1, none⟩) hb).trans HD2.out; have H5 := hid hb5; have HC := hid hc; clear hc hb5))
        have HB5 := hid (below_then hbr ((below_drew1 _).trans H5.out) hbr.size)
        clear hbr H5 c1 c2 d1 d2 HC1 HC2 HD1 HD2
        obtain ⟨t, ht⟩ : ∃ t, kLt x0 y0 = t := ⟨_, rfl⟩
        have hc := HC.out
        rw [ht] at hc
        have Ht := hid ht
        rw [hc]
        clear HC ht hc
        cases t
        · go_wp2
          go_roundw
          case rel =>
            refine ⟨q, by omega, by go_num, ?_, HB5.out⟩
            intro j x y hj hx hy
            by_cases e : j = q
            · subst e
              have h1 := HXY.out.1
              rw [HQ.out] at h1
              rw [h1] at hy
              rw [HXY.out.2] at hx
              cases hx
              cases hy
              exact Ht.out
            · exact HS.out j x y (by have := HQ.out; omega) hx hy
          case measure => have := HQ.out; simp [intOf]; omega
        · have HR := hid (show decide (srt l = l) = false from decide_eq_false (by
            rw [srt_rising_iff]
            have h1 := HXY.out.1
            rw [HQ.out] at h1
            exact not_rising HXY.out.2 h1 Ht.out))
          go_wp2
          go_ret
          exact ⟨by rw [HR.out]; rfl, HB5.out⟩
      · obtain rfl : k = 0 := by omega
        have HR := hid (show decide (srt l = l) = true from decide_eq_true (by
          rw [srt_rising_iff]
          exact rising_of_steps fun j x y => HS.out j x y (by omega)))
        go_wp2
        go_ret
        exact ⟨by rw [HR.out]; rfl, hbr⟩
theorem sorted_any (v : Value) (l : List KV) (w : World) (hv : Prs w v l) : Calls Tryz.prog 12 #[v] w fun e w' => e = .returned (.bool (decide (srt l = l))) ∧ Below w.heap.size w w' := by
  have HV := hid hv
  clear hv
  go_enter Tryz.func12, Tryz.ntmps12
  go_wp2_with fail
  refine (isSorted_any v l w HV.out).mono ?_
  rintro e w1 ⟨rfl, hb⟩
  go_wp2
  go_ret
  exact ⟨rfl, hb⟩
end Go.Proofs.YtcahfnjhcngceaaGreatDoor
