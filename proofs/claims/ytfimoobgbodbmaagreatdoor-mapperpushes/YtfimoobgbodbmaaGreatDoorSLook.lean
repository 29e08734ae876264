/- What only looks at pairs: GreatPairs, May and Sorted of the program, May of the reference. -/
import Derived.Test.YtfimoobgbodbmaaGreatDoorLPairs
import Derived.Test.YtfimoobgbodbmaaGreatDoorGTexts
import Derived.Test.YtfimoobgbodbmaaGreatDoorGSort
namespace Go.Proofs.YtfimoobgbodbmaaGreatDoor
open Go.RowKit
set_option linter.unusedVariables false
set_option maxRecDepth 100000

/-- May a pair be? -/
def okP (x : KV) : Bool := decide (x.1.size ≤ 16) && decide (x.2.size ≤ 64)
def mayP (l : List KV) : Bool := l.all okP
theorem mayP_take {l : List KV} {k : Nat} {x : KV} (h : mayP (l.take k) = true) (hx : l[k]? = some x) (ho : okP x = true) : mayP (l.take (k + 1)) = true := by
  obtain ⟨hk, rfl⟩ := List.getElem?_eq_some_iff.1 hx
  rw [List.take_succ_eq_append_getElem hk]
  unfold mayP at h ⊢
  rw [List.all_append, h]
  simp [ho]
theorem mayP_not {l : List KV} {k : Nat} {x : KV} (hx : l[k]? = some x) (ho : okP x = false) : mayP l = false := by
  unfold mayP
  rw [List.all_eq_false]
  exact ⟨x, List.mem_of_getElem? hx, by rw [ho]; simp⟩
theorem mayP_append (a b : List KV) : mayP (a ++ b) = (mayP a && mayP b) := by simp [mayP]

set_option maxHeartbeats 1000000 in
theorem refMay_any (v : Value) (l : List KV) (w : World) (hv : Prs w v l) : Calls Tryz.prog 86 #[v] w fun e w' => e = .returned (.bool (mayP l)) ∧ w' = w := by
  have HV := hid hv
  obtain ⟨ao, ca, rfl, a1, a2, a3, -⟩ := hv
  unfold maxLen at a2
  clear a3
  go_enter Tryz.func86, Tryz.ntmps86
  go_wp2
  go_loop [3] (fun i => ∃ k : Nat, k ≤ l.length ∧ mayP (l.take k) = true ∧ i = .int .i64 k) (fun i => l.length - (intOf i).toNat)
  case atStart => exact ⟨0, by omega, rfl, rfl⟩
  case round =>
    obtain ⟨k, hk, hm, rfl⟩ := hrel
    have HM := hid hm
    clear hm
    by_cases hlt : k < l.length
    · obtain ⟨b, off, x, hx, rfl, hb, c1, c2⟩ := HV.out.cell? hlt
      have HX := hid hx
      clear hx
      obtain ⟨s, t⟩ := x
      simp only at c1 c2
      have hd4 : decide ((k : Int) < (l.length : Int)) = true := by simp; omega
      by_cases hs : 16 < s.size
      · have hd5 : decide ((16 : Int) < (s.size : Int)) = true := by simp; omega
        have HR := hid (mayP_not HX.out (by simp [okP]; omega))
        go_wp2
        go_ret
        exact ⟨by rw [HR.out]; rfl, rfl⟩
      · have hd5 : decide ((16 : Int) < (s.size : Int)) = false := by simp; omega
        by_cases ht : 64 < t.size
        · have hd6 : decide ((64 : Int) < (t.size : Int)) = true := by simp; omega
          have HR := hid (mayP_not HX.out (by simp [okP]; omega))
          go_wp2
          go_ret
          exact ⟨by rw [HR.out]; rfl, rfl⟩
        · have hd6 : decide ((64 : Int) < (t.size : Int)) = false := by simp; omega
          have HR := hid (mayP_take HM.out HX.out (by simp [okP]; omega))
          go_wp2
          go_round
          case rel => exact ⟨k + 1, by omega, HR.out, by go_num⟩
          case measure => simp [intOf]; omega
    · obtain rfl : k = l.length := by omega
      have hd4 : decide ((l.length : Int) < (l.length : Int)) = false := by simp
      have HR := hid (show mayP l = true by have := HM.out; rw [List.take_length] at this; exact this)
      go_wp2
      go_ret
      exact ⟨by rw [HR.out]; rfl, rfl⟩

set_option maxHeartbeats 1000000 in
theorem tooLong_calls (x : KV) (w : World) : Calls Tryz.prog 117 #[prV x] w fun e w' => e = .returned (.bool (!okP x)) ∧ Below w.heap.size w w' := by
  obtain ⟨s, t⟩ := x
  have HB := hid ((Below.refl _ w).alloc (Nat.le_refl _) (.cells #[.string s, .string t] 105))
  by_cases hs : 16 < s.size
  · have hd5 : decide ((16 : Int) < (s.size : Int)) = true := by simp; omega
    have HR := hid (show (!okP (s, t)) = true by simp [okP]; omega)
    go_enter Tryz.func117, Tryz.ntmps117
    go_wp2
    go_ret
    exact ⟨by rw [HR.out]; rfl, HB.out⟩
  · have hd5 : decide ((16 : Int) < (s.size : Int)) = false := by simp; omega
    by_cases ht : 64 < t.size
    · have hd6 : decide ((64 : Int) < (t.size : Int)) = true := by simp; omega
      have HR := hid (show (!okP (s, t)) = true by simp [okP]; omega)
      go_enter Tryz.func117, Tryz.ntmps117
      go_wp2
      go_ret
      exact ⟨by rw [HR.out]; rfl, HB.out⟩
    · have hd6 : decide ((64 : Int) < (t.size : Int)) = false := by simp; omega
      have HR := hid (show (!okP (s, t)) = false by simp [okP]; omega)
      go_enter Tryz.func117, Tryz.ntmps117
      go_wp2
      go_ret
      exact ⟨by rw [HR.out]; rfl, HB.out⟩

def IdxIs (l : List KV) (e : Ending) : Prop := ∃ c : Int, e = .returned (.int .i64 c) ∧ decide (0 ≤ c) = !mayP l
set_option maxHeartbeats 1000000 in
theorem pairIndex_any (v : Value) (l : List KV) (w : World) (hv : Prs w v l) : Calls Tryz.prog 134 #[v, .func (.func 117) #[] #[]] w fun e w' => IdxIs l e ∧ Below w.heap.size w w' := by
  have HV := hid hv
  obtain ⟨ao, ca, rfl, a1, a2, a3, -⟩ := hv
  unfold maxLen at a2
  clear a3
  go_enter Tryz.func134, Tryz.ntmps134
  go_wp2
  go_loopw [8] (fun i wr => ∃ k : Nat, k ≤ l.length ∧ mayP (l.take k) = true ∧ i = .int .i64 k ∧ Below w.heap.size w wr) (fun i _ => l.length - (intOf i).toNat)
  case atStart => exact ⟨0, by omega, rfl, rfl, Below.refl _ _⟩
  case round =>
    obtain ⟨k, hk, hm, rfl, hbr⟩ := hrel
    have HM := hid hm
    clear hm
    by_cases hlt : k < l.length
    · obtain ⟨b, off, x, hx, rfl, hb, c1, c2⟩ := Prs.cell? (HV.out.below hbr) hlt
      have HX := hid hx
      clear hx
      obtain ⟨s, t⟩ := x
      simp only at c1 c2
      have hd4 : decide ((k : Int) < (l.length : Int)) = true := by simp; omega
      go_wp2_with fail
      refine (tooLong_calls (s, t) _).mono ?_
      rintro e w1 ⟨rfl, hb1⟩
      have HB1 := hid (below_then hbr hb1 hbr.size)
      clear hb1 hbr c1 c2
      obtain ⟨o, ho⟩ : ∃ o, okP (s, t) = o := ⟨_, rfl⟩
      rw [ho]
      have HO := hid ho
      clear ho
      cases o
      · have HR := hid (mayP_not HX.out HO.out)
        go_wp2
        go_ret
        exact ⟨⟨(k : Int), rfl, by rw [HR.out]; simp⟩, HB1.out⟩
      · have HR := hid (mayP_take HM.out HX.out HO.out)
        go_wp2
        go_roundw
        case rel => exact ⟨k + 1, by omega, HR.out, by go_num, HB1.out⟩
        case measure => simp [intOf]; omega
    · obtain rfl : k = l.length := by omega
      have hd4 : decide ((l.length : Int) < (l.length : Int)) = false := by simp
      have HR := hid (show mayP l = true by have := HM.out; rw [List.take_length] at this; exact this)
      go_wp2
      go_ret
      exact ⟨⟨-1, rfl, by rw [HR.out]; rfl⟩, hbr⟩
set_option maxHeartbeats 1000000 in
theorem pairMay_any (v : Value) (l : List KV) (w : World) (hv : Prs w v l) : Calls Tryz.prog 95 #[v] w fun e w' => e = .returned (.bool (mayP l)) ∧ Below w.heap.size w w' := by
  have HV := hid hv
  clear hv
  have hcon : Calls Tryz.prog 116 #[v, .func (.func 117) #[] #[]] w fun e w' => e = .returned (.bool (!mayP l)) ∧ Below w.heap.size w w' := by
    go_enter Tryz.func116, Tryz.ntmps116
    go_wp2_with fail
    refine (pairIndex_any v l w HV.out).mono ?_
    rintro e w1 ⟨⟨c, rfl, hc⟩, hb⟩
    obtain ⟨o, ho⟩ : ∃ o, (!mayP l) = o := ⟨_, rfl⟩
    rw [ho] at hc
    have HO := hid ho
    clear ho
    go_wp2
    go_ret
    exact ⟨by rw [HO.out]; rfl, hb⟩
  have HC := hid hcon
  clear hcon
  go_enter Tryz.func95, Tryz.ntmps95
  go_wp2_with fail
  refine HC.out.mono ?_
  rintro e w1 ⟨rfl, hb⟩
  obtain ⟨o, ho⟩ : ∃ o, mayP l = o := ⟨_, rfl⟩
  rw [ho]
  go_wp2
  go_ret
  exact ⟨by simp [ho], hb⟩

/-! ### In order? -/
theorem rising_of_steps : ∀ {l : List KV}, (∀ j x y, l[j]? = some x → l[j + 1]? = some y → kLt y.1 x.1 = false) → Rising l
  | [], _ => List.Pairwise.nil
  | [x], _ => List.pairwise_singleton _ _
  | x :: y :: l, h => by
    have hr : Rising (y :: l) := rising_of_steps fun j a b ha hb => h (j + 1) a b (by simpa using ha) (by simpa using hb)
    refine List.pairwise_cons.2 ⟨fun z hz => ?_, hr⟩
    have h0 := h 0 x y rfl rfl
    rcases List.mem_cons.1 hz with rfl | hz
    · exact h0
    · exact kLe_trans h0 ((List.pairwise_cons.1 hr).1 z hz)
theorem not_rising {l : List KV} {j : Nat} {x y : KV} (hx : l[j]? = some x) (hy : l[j + 1]? = some y) (h : kLt y.1 x.1 = true) : ¬ Rising l := by
  intro hr
  obtain ⟨h1, rfl⟩ := List.getElem?_eq_some_iff.1 hx
  obtain ⟨h2, rfl⟩ := List.getElem?_eq_some_iff.1 hy
  have := List.pairwise_iff_getElem.1 hr j (j + 1) h1 h2 (by omega)
  rw [this] at h
  cases h

end Go.Proofs.YtfimoobgbodbmaaGreatDoor
