/- WindowScript: each call answers as the document says. -/
import Derived.Test.YtaobiohdhdklaaaWnActs
import Derived.Deep.Cut
namespace Go.Proofs.Ytaobiohdhdklaaa
open Go.RowKit
set_option linter.unusedVariables false
theorem drew_isS (w : World) : w.drew = w.drewN 1 := rfl
/-- Both windows, made behind B; of what was there nothing has turned. -/
structure TwoW (B p q : Nat) (x : WinV) (W w : World) : Prop where
  wp : Wn 47 p x w
  wq : Wn 40 q x w
  ok : WinOk x
  lo : B ≤ p
  lt : p < q
  bel : Below B W w
theorem TwoW.size {B p q : Nat} {x : WinV} {W w : World} (h : TwoW B p q x W w) : B ≤ w.heap.size := Nat.le_trans h.lo (Nat.le_of_lt h.wp.lt)
theorem TwoW.below {B p q : Nat} {x : WinV} {W w w' : World} (h : TwoW B p q x W w) (hb : Below w.heap.size w w') : TwoW B p q x W w' :=
  ⟨h.wp.below hb, h.wq.below hb, h.ok, h.lo, h.lt, h.bel.trans (hb.mono h.size)⟩
/-- Both are acked, one behind the other. -/
theorem TwoW.ack {B p q : Nat} {x y : WinV} {W w w1 w2 : World} (h : TwoW B p q x W w) (hy : WinOk y) (k1 : Wn 47 p y w1) (s1 : Sav (Just p) w w1) (k2 : Wn 40 q y w2) (s2 : Sav (Just q) w1 w2) : TwoW B p q y W w2 :=
  ⟨k1.sav s2 (fun e => absurd (show p = q from e) (Nat.ne_of_lt h.lt)), k2, hy, h.lo, h.lt,
   (h.bel.trans (s1.below (fun i hi => by rw [show i = p from hi]; exact h.lo) h.size)).trans (s2.below (fun i hi => by rw [show i = q from hi]; exact Nat.le_trans h.lo (Nat.le_of_lt h.lt)) (Nat.le_trans h.size s1.size))⟩
/-- A list of the call's own is written over. -/
theorem TwoW.over {B p q base n : Nat} {x : WinV} {W w w' : World} {v : Value} {xs : List Value} (h : TwoW B p q x W w) (ho : w.ownsRow base 3 1 v n xs) (hb : B ≤ base) (hg : w.grownBy w' v.ownBlock) : TwoW B p q x W w' :=
  ⟨grown_at ho hg h.wp (by decide), grown_at ho hg h.wq (by decide), h.ok, h.lo, h.lt, h.bel.grown hg h.size (fun k hk => Nat.le_trans hb (ho.lt k hk).1)⟩
set_option maxHeartbeats 8000000 in
set_option maxRecDepth 100000 in
theorem windowScript_walk (W : World) (count : Int) (wc : (Lit.int .i64 count).wf = true) (size : Int) (ws : (Lit.int .i64 size).wf = true) (v : Value) (l : List ActV) (h : rSlice 2 rAct W [v] l) :
    Calls Try.prog 3 #[.int .i64 count, .int .i64 size, v] W fun e w' => e = .returned (.bool true) ∧ Below W.heap.size W w' := by
  obtain ⟨ao, cap, hv, a1, a2, a3, a4⟩ := h
  obtain rfl : v = _ := by simpa using hv
  have HA := hid a4
  clear hv a3 a4 wc ws
  unfold maxLen at a2
  by_cases hbig : 100 < l.length
  · have d1 : decide ((100 : Int) < (l.length : Int)) = true := by simp; omega
    clear hbig
    go_enter Try.func3, Try.ntmps3
    go_wp2_with fail
    refine (awake_any _).mono ?_
    rintro e w1 ⟨rfl, hb⟩
    go_wp2
    go_ret
    exact ⟨rfl, hb⟩
  · have d1 : decide ((100 : Int) < (l.length : Int)) = false := by simp; omega
    clear hbig
    go_enter Try.func3, Try.ntmps3
    go_wp2_with fail
    refine (new_any count size W).mono ?_
    intro e w1 hnew
    cases hm : mayW count size with
    | false =>
      unfold NewIs at hnew
      rw [if_neg (by rw [hm]; decide)] at hnew
      obtain ⟨rfl, rfl⟩ := hnew
      have HM := hid hm
      clear hm
      go_wp2_with fail
      refine (refNew_any count size w1).mono ?_
      intro e w2 hnew
      unfold NewIs at hnew
      rw [if_neg (by rw [HM.out]; decide)] at hnew
      obtain ⟨rfl, rfl⟩ := hnew
      go_wp2_with fail
      refine (num_any 2 w2).mono ?_
      rintro e w3 ⟨rfl, rfl⟩
      go_wp2_with fail
      refine (awake_any _).mono ?_
      rintro e w4 ⟨rfl, hb⟩
      go_wp2
      go_ret
      exact ⟨rfl, hb⟩
    | true =>
      obtain ⟨rfl, h1⟩ := new_yes hnew hm
      have HM := hid hm
      have H1 := hid h1
      clear hm hnew h1
      go_wp2_with fail
      refine (refNew_any count size w1).mono ?_
      intro e w2 hnew
      obtain ⟨rfl, h2⟩ := new_yes hnew HM.out
      have H2 := hid (show TwoW W.heap.size W.heap.size w1.heap.size (newW count size) W w2 from ⟨H1.out.wn.below h2.bel, h2.wn, h2.ok, Nat.le_refl _, H1.out.wn.lt, H1.out.bel.trans (h2.bel.mono H1.out.size)⟩)
      clear hnew h2 H1 HM
      generalize hbb : W.heap.size = p at H2
      have HBB := hid hbb
      clear hbb
      generalize w1.heap.size = q at H2
      go_wp2_with fail
      refine (num_any 0 w2).mono ?_
      rintro e w3 ⟨rfl, rfl⟩
      go_wp2
      go_loopw [11] (fun i wr => ∃ k : Nat, k ≤ l.length ∧ i = .int .i64 k ∧ ∃ x : WinV, TwoW p p q x W wr) (fun i _ => l.length - (intOf i).toNat)
      case atStart => exact ⟨0, by omega, rfl, _, H2.out⟩
      case round =>
        obtain ⟨k, hk, rfl, x, hon⟩ := hrel
        have H3 := hid hon
        clear hon H2
        by_cases hlt : k < l.length
        · obtain ⟨g, off, rfl, hbl, hcc⟩ := HA.out (by intro e; rw [e] at hlt; simp at hlt)
          obtain ⟨x0, x1⟩ := Acts.at hcc hlt
          rcases hact : l[k] with ⟨ep, nx⟩
          rw [hact] at x0 x1
          simp only at x0 x1
          have hgp : g < p := by rw [← HBB.out]; exact hbl
          have hgq : g < q := Nat.lt_trans hgp H3.out.lt
          replace x0 := (H3.out.bel.cell (p := ⟨g, off + k * 2, none⟩) hgp).trans x0
          replace x1 := (H3.out.bel.cell (p := ⟨g, off + k * 2 + 1, none⟩) hgp).trans x1
          clear hact hcc hbl
          have d4 : decide ((k : Int) < (l.length : Int)) = true := by simp; omega
          go_upto_region 12 with fail
          have H4 := hid (H3.out.below (below_drewNW _ 1))
          rw [← drew_isS] at H4
          have hgw : g < wr.drew.heap.size := Nat.lt_trans hgp H4.out.wp.lt
          obtain ⟨y, hy⟩ : ∃ y, ackW x ep nx = y := ⟨_, rfl⟩
          have hyo := ackW_ok H4.out.ok ep nx
          rw [hy] at hyo
          obtain ⟨z, hz⟩ : ∃ z, ackB x ep nx = z := ⟨_, rfl⟩
          have HY := hid hy
          have HZ := hid hz
          have HYO := hid hyo
          clear hy hz hyo
          go_region_held3 (fun w' => w'.cell? ⟨g, off + k * 2, none⟩ = some (.int .i64 ep) ∧ w'.cell? ⟨g, off + k * 2 + 1, none⟩ = some (.int .i64 nx)) (go_keep) (first | (go_at_call 11; refine (ack_any p x ep nx wr.drew H4.out.wp H4.out.ok).mono ?_; rintro e w5 ⟨rfl, hw5, hs5⟩; rw [HZ.out]; have HW5 := hid hw5; have HS5 := hid hs5; have y0 : w5.cell? ⟨g, off + k * 2, none⟩ = some (.int .i64 ep) := (hs5.cell (a := ⟨g, off + k * 2, none⟩) hgw (by show ¬ g = p; omega)).trans x0; have y1 : w5.cell? ⟨g, off + k * 2 + 1, none⟩ = some (.int .i64 nx) := (hs5.cell (a := ⟨g, off + k * 2 + 1, none⟩) hgw (by show ¬ g = p; omega)).trans x1; clear hw5 hs5) | (go_at_call 12; refine (refAck_any q x ep nx w5 (H4.out.wq.sav HS5.out (by show ¬ q = p; have := H4.out.lt; omega)) H4.out.ok).mono ?_; rintro e w6 ⟨rfl, hw6, hs6⟩; rw [HZ.out]; have HW6 := hid hw6; have HS6 := hid hs6; have u0 : w6.cell? ⟨g, off + k * 2, none⟩ = some (.int .i64 ep) := (hs6.cell (a := ⟨g, off + k * 2, none⟩) (Nat.lt_of_lt_of_le hgw HS5.out.size) (by show ¬ g = q; omega)).trans y0; have u1 : w6.cell? ⟨g, off + k * 2 + 1, none⟩ = some (.int .i64 nx) := (hs6.cell (a := ⟨g, off + k * 2 + 1, none⟩) (Nat.lt_of_lt_of_le hgw HS5.out.size) (by show ¬ g = q; omega)).trans y1; clear hw6 hs6))
          have H6 := hid (H4.out.ack HYO.out (by rw [← HY.out]; exact HW5.out) HS5.out (by rw [← HY.out]; exact HW6.out) HS6.out)
          clear H3 H4 HY HZ HYO HW5 HS5 HW6 HS6 x0 x1 y0 y1 u0 u1 hgw
          go_wp2_with fail
          refine (open_any p y w6 H6.out.wp H6.out.ok).mono ?_
          rintro e w7 ⟨uo, uc, rfl, ho, hb⟩
          have H7 := hid (H6.out.below hb)
          obtain ⟨N, hN⟩ : ∃ N, openN y = N := ⟨_, rfl⟩
          have hN4 := openN_le H6.out.ok
          have hbase : p ≤ w6.heap.size := H6.out.size
          rw [hN] at ho hN4
          rw [hN]
          have HN := hid hN
          have HO := hid ho
          obtain ⟨z2, hz2⟩ : ∃ z, doneW y = z := ⟨_, rfl⟩
          have HZ2 := hid hz2
          have HSZ := hid hb.size
          clear hN ho hb hz2 H6
          have hp7 : w6.heap.size ≤ w7.heap.size := HSZ.out
          generalize w6.heap.size = P at HO hbase hp7
          go_upto_region 14 with fail
          have H8 := hid (H7.out.below (below_drewNW _ 1))
          have HO8 := hid (owns_below HO.out (below_drewNW _ 1))
          rw [← drew_isS] at H8 HO8
          have c2 : w7.cell? ⟨q, 2, none⟩ = some (.int .i64 y.epoch) := H7.out.wq.c2
          have c3 : w7.cell? ⟨q, 3, none⟩ = some (.int .i64 y.next) := H7.out.wq.c3
          clear H7 HO
          obtain ⟨ye, hye⟩ : ∃ ye, y.epoch = ye := ⟨_, rfl⟩
          obtain ⟨yn, hyn⟩ : ∃ yn, y.next = yn := ⟨_, rfl⟩
          rw [hye] at c2
          rw [hyn] at c3
          have HYE := hid hye
          have HYN := hid hyn
          clear hye hyn
          go_region_held3 (fun w' => w'.cell? ⟨q, 3, none⟩ = some (.int .i64 yn) ∧ w'.cell? ⟨q, 2, none⟩ = some (.int .i64 ye)) (first | exact ⟨k3, k2⟩ | go_keep) (first | (go_at_call 15; refine (refOpen_any q y w7.drew H8.out.wq H8.out.ok).mono ?_; rintro e w9 ⟨vo, vc, rfl, ho9, hb9⟩; rw [HN.out] at ho9 ⊢; have H9 := hid (H8.out.below hb9); have HPS := hid (show P ≤ w9.heap.size from Nat.le_trans hp7 hb9.size); have HO9 := hid (owns_below HO8.out hb9); have HV9 := hid ho9; have k2 : w9.cell? ⟨q, 2, none⟩ = some (.int .i64 ye) := H9.out.wq.c2.trans (by rw [HYE.out]); have k3 : w9.cell? ⟨q, 3, none⟩ = some (.int .i64 yn) := H9.out.wq.c3.trans (by rw [HYN.out]); clear ho9 hb9) | (go_at_call 14; refine (sameInts_any _ _ (openW y) (openW y) w9 (Is.owned HO9.out) (Is.owned HV9.out)).mono ?_; rintro e w10 ⟨rfl, n10, rfl⟩; rw [decide_eq_true rfl]; have H10 := hid (H9.out.below (below_drewNW _ n10)); clear HV9) | (go_at_call 16; refine (next_any p y _ H10.out.wp).mono ?_; rintro e w11 ⟨rfl, rfl⟩; rw [HYN.out]) | (go_at_call 17; refine (epoch_any p y _ H10.out.wp).mono ?_; rintro e w11 ⟨rfl, rfl⟩; rw [HYE.out]) | (go_at_call 18; refine (done_any p y _ H10.out.wp H10.out.ok).mono ?_; rintro e w12 ⟨rfl, n12, rfl⟩; rw [HZ2.out]; have H12 := hid (H9.out.below (below_drewNW _ (n10 + n12)))) | (go_at_call 19; refine (refDone_any q y _ H12.out.wq).mono ?_; rintro e w13 ⟨rfl, n13, rfl⟩; rw [HZ2.out]; have H13 := hid (H9.out.below (below_drewNW _ (n10 + n12 + n13))); have HO13 := hid (owns_below HO9.out (below_drewNW _ (n10 + n12 + n13)))))
          clear H8 HO8 c2 c3
          go_wp2_with fail
          refine (overInts_own N P _ _ _ HO13.out HPS.out (by omega)).mono ?_
          rintro e w14 ⟨rfl, hg14⟩
          have H14 := hid (H13.out.over HO13.out hbase hg14)
          clear hg14 H13 HO13 H9 HO9 H10 H12 k2 k3
          go_wp2
          go_roundw
          case rel => exact ⟨k + 1, by omega, by go_num, y, H14.out⟩
          case measure => simp [intOf]; omega
        · obtain rfl : k = l.length := by omega
          have d4 : decide ((l.length : Int) < (l.length : Int)) = false := by simp
          go_wp2_with fail
          refine (awake_any _).mono ?_
          rintro e w6 ⟨rfl, hb6⟩
          go_wp2
          go_ret
          exact ⟨rfl, by rw [HBB.out]; exact H3.out.bel.trans (hb6.mono H3.out.size)⟩
end Go.Proofs.Ytaobiohdhdklaaa
