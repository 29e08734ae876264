/- The walk of CodeLays. -/
import Derived.Test.YtbgfdohgllbabaaRefLay
namespace Go.Proofs.Ytbgfdohgllbabaa
open Go.RowKit
set_option linter.unusedVariables false

theorem hid {p : Prop} (h : p) : Hid p := h
theorem own_below {w w' : World} {base e n : Nat} {v : Value} {xs : List Value} (h : w.ownsRow base e 1 v n xs) (hb : Below w.heap.size w w') : w'.ownsRow base e 1 v n xs := by
  obtain ⟨h1, h2⟩ := h
  refine ⟨h1, ?_⟩
  rcases h2 with h2 | ⟨g, cap, cur, hv, hg, hh, r⟩
  · exact Or.inl h2
  · exact Or.inr ⟨g, cap, cur, hv, hg, by rw [hb.block g (Array.getElem?_eq_some_iff.1 hh).1]; exact hh, r⟩

set_option maxHeartbeats 800000 in
theorem codeLays_walk (w : World) (v : Value) (l : List Int) (hv : Bs w v l) (hB : Byt l) (n : Int) (wn : (Lit.int .i64 n).wf = true) (s : ByteArray) (hs : s.size ≤ maxLen) :
    Calls Try.prog 3 #[v, .int .i64 n, .string s] w fun e w' => e = .returned (.bool true) ∧ Below w.heap.size w w' := by
  have hv0 := hv
  obtain ⟨ao, cap, rfl, h1, h2, h3, h4⟩ := hv
  unfold maxLen at h2 hs
  have HV : Hid (Bs w (.slice ao l.length cap) l) := hv0
  clear hv0 h3 h4 wn
  by_cases h300 : 300 < l.length
  · go_enter Try.func3, Try.ntmps3
    go_wp2_with (go_at_call 8; refine (awake_any _).mono ?_; rintro e w3 ⟨rfl, hb3⟩)
    go_ret
    exact ⟨rfl, hb3⟩
  · have g1 : decide ((300 : Int) < (l.length : Int)) = false := by simp; omega
    by_cases s300 : 300 < s.size
    · go_enter Try.func3, Try.ntmps3
      go_wp2_with (go_at_call 8; refine (awake_any _).mono ?_; rintro e w3 ⟨rfl, hb3⟩)
      go_ret
      exact ⟨rfl, hb3⟩
    · have g2 : decide ((300 : Int) < (s.size : Int)) = false := by simp; omega
      have hl : l.length ≤ 300 := by omega
      have hss : s.size ≤ 300 := by omega
      clear h300 s300 h1 h2 hs
      go_enter Try.func3, Try.ntmps3
      go_wp2_with fail
      refine (lend_any _ l w HV.out (by omega)).mono ?_
      rintro e w1 ⟨rfl, ho1, hb1⟩
      have hfull := Bs.own ho1
      have hin := hfull.take l.length (by omega)
      rw [List.take_left] at hin
      have hbv := HV.out.below hb1
      have hz1 := (ho1.lt _ rfl).2
      have HIN := hid (hin)
      have HFULL := hid (hfull)
      have HB1 := hid (hb1)
      have HBV := hid (hbv)
      clear hin hfull hbv hb1 ho1
      go_wp2_with fail
      refine (num_any _ n l w1 HIN.out (by omega)).mono ?_
      rintro e w2 ⟨rfl, ho2, hb2⟩
      have HO2 := hid (ho2)
      have hz2 := (ho2.lt _ rfl).2
      clear ho2
      go_wp2_with fail
      refine (text_own _ s l w2 (HIN.out.below hb2) (by omega)).mono ?_
      rintro e w3 ⟨rfl, ho3, hb3⟩
      have HO3 := hid (ho3)
      clear ho3
      have k3 : Below w1.heap.size w1 w3 := hb2.trans (hb3.mono hb2.size)
      have x3 := hid (own_below HO2.out hb3)
      clear HO2 hb2 hb3
      go_wp2_with fail
      refine (rnum_any _ n l w3 (HBV.out.below k3) (by omega)).mono ?_
      rintro e w4 ⟨v4, rfl, ho4, hb4⟩
      have k4 : Below w1.heap.size w1 w4 := k3.trans (hb4.mono k3.size)
      have x4 := hid (own_below x3.out hb4)
      have y4 := hid (own_below HO3.out hb4)
      have HO4 := hid (ho4)
      clear ho4 hb4 x3 HO3 k3
      go_wp2_with fail
      refine (same_any _ _ (l ++ be8 n) (l ++ be8 n) w4 (Bs.own x4.out) (Bs.owned HO4.out)).mono ?_
      rintro e w5 ⟨rfl, n5, rfl⟩
      rw [decide_eq_true rfl]
      clear HO4
      go_wp2_with fail
      refine (rtext_any _ s l _ ((HBV.out.below k4).below (below_drewN (Below.refl _ _) n5)) (by omega)).mono ?_
      rintro e w6 ⟨v6, rfl, ho6, hb6⟩
      have hb6' : Below w4.heap.size w4 w6 := (below_drewN (Below.refl _ _) n5).trans hb6
      have k6 : Below w1.heap.size w1 w6 := k4.trans (hb6'.mono k4.size)
      have x6 := hid (own_below x4.out hb6')
      have y6 := hid (own_below y4.out hb6')
      have HO6 := hid (ho6)
      clear ho6 hb6 hb6' x4 y4 k4
      go_wp2_with fail
      refine (same_any _ _ (l ++ be8 s.size ++ nums s) (l ++ be8 s.size ++ nums s) w6 (Bs.own y6.out) (Bs.owned HO6.out)).mono ?_
      rintro e w7 ⟨rfl, n7, rfl⟩
      rw [decide_eq_true rfl]
      clear HO6
      have hd7 := below_drewN (Below.refl w6.heap.size w6) n7
      go_wp2_with fail
      refine (kept_any w.heap.size _ l l _ ((HFULL.out.below k6).below hd7) ((HBV.out.below k6).below hd7) (by omega)).mono ?_
      rintro e w8 ⟨rfl, n8, rfl⟩
      rw [decide_eq_true rfl]
      have hd8 : Below w6.heap.size w6 ((w6.drewN n7).drewN n8) := below_drewN hd7 n8
      have k8 : Below w1.heap.size w1 ((w6.drewN n7).drewN n8) := k6.trans (hd8.mono k6.size)
      have x8 := hid (own_below x6.out hd8)
      have y8 := hid (own_below y6.out hd8)
      clear x6 y6 k6 hd7 hd8
      generalize (w6.drewN n7).drewN n8 = w9 at *
      go_wp2_with fail
      refine (over_any w1.heap.size _ _ w1.heap.size _ w9 x8.out k8.size (by omega)).mono ?_
      rintro e w10 ⟨rfl, hg10⟩
      have k10 : Below w1.heap.size w1 w10 := k8.grown hg10 k8.size (by intro q hq; cases hq; exact Nat.le_refl _)
      have y10 := hid (y8.out.kept hg10 (.inr (by simp [Value.ownBlock]; omega)))
      have hsz10 := hg10.size
      clear x8 y8 hg10
      go_wp2_with fail
      refine (over_any w2.heap.size _ _ w2.heap.size _ w10 y10.out (Nat.le_of_lt (y10.out.lt _ rfl).2) (by omega)).mono ?_
      rintro e w11 ⟨rfl, hg11⟩
      have k11 : Below w1.heap.size w1 w11 := k10.grown hg11 k10.size (by intro q hq; cases hq; omega)
      clear y10 hg11 k10 k8 hsz10
      go_wp2_with fail
      refine (same_any _ _ l l w11 (HIN.out.below k11) (HBV.out.below k11)).mono ?_
      rintro e w12 ⟨rfl, n12, rfl⟩
      rw [decide_eq_true rfl]
      have k12 : Below w1.heap.size w1 (w11.drewN n12) := below_drewN k11 n12
      have kw : Below w.heap.size w (w11.drewN n12) := HB1.out.trans (k12.mono HB1.out.size)
      clear k11 k12
      go_wp2_with (go_at_call 8; refine (awake_any _).mono ?_; rintro e w13 ⟨rfl, hb13⟩)
      go_ret
      exact ⟨rfl, kw.trans (hb13.mono kw.size)⟩
end Go.Proofs.Ytbgfdohgllbabaa
