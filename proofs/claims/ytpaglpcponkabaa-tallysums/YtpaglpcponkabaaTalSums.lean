/- The walk of TallySums. -/
import Derived.Test.YtpaglpcponkabaaTalAwake
import Derived.Test.YtpaglpcponkabaaIntsArg
namespace Go.Proofs.Ytpaglpcponkabaa
open Go.RowKit
set_option linter.unusedVariables false

/-- Element j, cut. -/
def lw (l : List Int) (j : Nat) : Int := low (l.getD j 0) 1073741824
theorem lw_bd (l : List Int) (j : Nat) : 0 ≤ lw l j ∧ lw l j < 1073741824 := low_bd _ _ (by decide)
/-- The sum of the first k, and of the last k. -/
def sumTo (l : List Int) : Nat → Int
  | 0 => 0
  | k + 1 => sumTo l k + lw l k
def sumBack (l : List Int) : Nat → Int
  | 0 => 0
  | k + 1 => sumBack l k + lw l (l.length - 1 - k)
theorem sumTo_bd (l : List Int) (k : Nat) : 0 ≤ sumTo l k ∧ sumTo l k ≤ k * 1073741824 := by
  induction k with
  | zero => simp [sumTo]
  | succ k ih => have := lw_bd l k; simp only [sumTo]; omega
theorem sumBack_bd (l : List Int) (k : Nat) : 0 ≤ sumBack l k ∧ sumBack l k ≤ k * 1073741824 := by
  induction k with
  | zero => simp [sumBack]
  | succ k ih => have := lw_bd l (l.length - 1 - k); simp only [sumBack]; omega
theorem sum_meet (l : List Int) : ∀ k, k ≤ l.length → sumTo l (l.length - k) + sumBack l k = sumTo l l.length := by
  intro k
  induction k with
  | zero => intro _; simp [sumBack]
  | succ k ih =>
    intro hk
    have h := ih (by omega)
    have e : l.length - k = (l.length - (k + 1)) + 1 := by omega
    rw [e] at h
    simp only [sumTo, sumBack] at h ⊢
    have e2 : l.length - 1 - k = l.length - (k + 1) := by omega
    rw [e2]
    omega
theorem sumBack_all (l : List Int) : sumBack l l.length = sumTo l l.length := by
  have := sum_meet l l.length (Nat.le_refl _)
  simpa [sumTo] using this
theorem vl_add {c : List Int} (hc : c.length = 8) {x : Int} (h0 : 0 ≤ x) (h1 : vl c 1 + x ≤ 1099511627776) (h2 : 0 ≤ vl c 1) : vl (addC c 1 x) 1 = vl c 1 + x := by
  have e := vl_at (c := c) 1 (by decide)
  have e2 := addC_yes (c := c) 1 (n := x) (by decide) h0 (by omega)
  have e3 := vl_set hc 1 (min (c.getD 1 0 + x) 1099511627776) (by decide)
  simp only [Int.natCast_one] at e e2 e3
  rw [e2, e3, ← e]
  omega
theorem vl_most {c : List Int} (hc : c.length = 8) {x : Int} (h0 : 0 ≤ x ∧ x ≤ 1099511627776) (h1 : 1099511627776 ≤ vl c 1 + x) : vl (addC c 1 x) 1 = 1099511627776 := by
  have e := vl_at (c := c) 1 (by decide)
  have e2 := addC_yes (c := c) 1 (n := x) (by decide) h0.1 h0.2
  have e3 := vl_set hc 1 (min (c.getD 1 0 + x) 1099511627776) (by decide)
  simp only [Int.natCast_one] at e e2 e3
  rw [e2, e3, ← e]
  omega
theorem addC_same {c : List Int} {x : Int} (h : x < 0 ∨ 1099511627776 < x) : addC c 1 x = c := addC_no (by omega)

set_option maxHeartbeats 2000000 in
set_option maxRecDepth 100000 in
theorem tallySums_walk (W : World) (v : Value) (l : List Int) (h : rSlice 1 (rInt .i64) W [v] l) : Calls Try.prog 5 #[v] W fun e W' => e = .returned (.bool true) ∧ Below W.heap.size W W' := by
  obtain ⟨ha, -⟩ := Is.arg h
  clear h
  obtain ⟨ao, cap, rfl, a1, a2, a3, a4⟩ := ha
  unfold maxLen at a2
  by_cases hlen : 60 < l.length
  · have hgt : (60 : Int) < (l.length : Int) := by omega
    clear a3 a4
    go_enter Try.func5, Try.ntmps5
    go_wp2_with fail
    refine (awake_any W).mono ?_
    rintro e w1 ⟨rfl, hb⟩
    go_wp2
    go_ret
    exact ⟨rfl, hb⟩
  · have hle : (l.length : Int) ≤ 60 := by omega
    have HA := hid a4
    clear a3 a4
    go_enter Try.func5, Try.ntmps5
    go_wp2_with fail
    refine (new_any W).mono ?_
    rintro e w1 ⟨rfl, hw1⟩
    have hs1 : w1.heap.size = W.heap.size + 1 := by rw [hw1]; simp
    have ht1 := Tl.new W 48
    have hb1 : Below W.heap.size W w1 := by rw [hw1]; exact (Below.refl _ _).alloc (Nat.le_refl _) _
    rw [← hw1] at ht1
    clear hw1
    go_wp2_with fail
    refine (new_any w1).mono ?_
    rintro e w2 ⟨rfl, hw2⟩
    have ht2 := Tl.new w1 48
    have hb2 : Below w1.heap.size w1 w2 := by rw [hw2]; exact (Below.refl _ _).alloc (Nat.le_refl _) _
    rw [← hw2] at ht2
    clear hw2
    have ht3 := ht1.below hb2
    have hb3 := hb1.trans (hb2.mono hb1.size)
    clear hb2 hb1 ht1
    obtain ⟨p, hp⟩ : ∃ p, W.heap.size = p := ⟨_, rfl⟩
    obtain ⟨q, hq⟩ : ∃ q, w1.heap.size = q := ⟨_, rfl⟩
    rw [hp] at ht3 hs1 ⊢
    rw [hq] at ht2 hs1 ⊢
    have HP := hid hp
    have HQ := hid hs1
    clear hp hq hs1
    go_wp2
    go_loopw [5, 6] (fun nv iv wr => ∃ k : Nat, k ≤ l.length ∧ iv = .int .i64 k ∧ nv = .int .i64 (sumTo l k) ∧ ∃ ca cb, Tl wr p ca ∧ Tl wr q cb ∧ Cts ca ∧ Cts cb ∧ vl ca 1 = sumTo l k ∧ vl cb 1 = sumBack l k ∧ Below W.heap.size W wr) (fun _ i _ => l.length - (intOf i).toNat)
    case atStart => exact ⟨0, by omega, rfl, rfl, zero8, zero8, ht3, ht2, Cts.zero, Cts.zero, (by simp only [sumTo]; decide), (by simp only [sumBack]; decide), hb3⟩
    case round =>
      obtain ⟨k, hk, rfl, rfl, ca, cb, hta, htb, hca, hcb, hva, hvb, hbel⟩ := hrel
      clear ht2 ht3 hb3
      have hsb := sumTo_bd l k
      have hbb := sumBack_bd l k
      obtain ⟨sm, hsm⟩ : ∃ sm, sumTo l k = sm := ⟨_, rfl⟩
      rw [hsm] at hva hsb ⊢
      have HS := hid hsm
      have HVA := hid hva
      have HVB := hid hvb
      clear hsm hva hvb
      by_cases hlt : k < l.length
      · obtain ⟨b, off, rfl, hbl, hc⟩ := HA.out (by intro e; rw [e] at hlt; simp at hlt)
        obtain ⟨x, hx⟩ : ∃ x, l.getD k 0 = x := ⟨_, rfl⟩
        obtain ⟨y, hy⟩ : ∃ y, l.getD (l.length - 1 - k) 0 = y := ⟨_, rfl⟩
        have c1 : wr.cell? ⟨b, off + k, none⟩ = some (.int .i64 x) := by rw [← hx]; exact (hbel.cell (p := ⟨b, off + k, none⟩) hbl).trans (hc k hlt)
        have HC2 := hid (show W.cell? ⟨b, off + (l.length - 1 - k), none⟩ = some (.int .i64 y) by rw [← hy]; exact hc _ (by omega))
        have HX := hid hx
        have HY := hid hy
        clear hx hy hc HA
        go_wp2_with fail
        refine (low_any x 1073741824 _ (by decide) (by decide)).mono ?_
        rintro e w3 ⟨rfl, rfl⟩
        have hxb := low_bd x 1073741824 (by decide)
        obtain ⟨x2, hx2⟩ : ∃ x2, low x 1073741824 = x2 := ⟨_, rfl⟩
        rw [hx2] at hxb ⊢
        have HX2 := hid hx2
        clear hx2
        go_wp2_with fail
        refine (add_any p 1 x2 ca wr hta hca).mono ?_
        rintro e w4 ⟨rfl, hta4, hu4⟩
        have hpq : q ≠ p := by have := HQ.out; omega
        have htb4 := htb.but hu4 hpq
        have hbl4 : Below W.heap.size W w4 := hbel.trans (hu4.below (by rw [HP.out]; exact Nat.le_refl _) hbel.size)
        have c2 : w4.cell? ⟨b, off + (l.length - 1 - k), none⟩ = some (.int .i64 y) := (hbl4.cell (p := ⟨b, off + (l.length - 1 - k), none⟩) hbl).trans HC2.out
        have hv4 : vl (addC ca 1 x2) 1 = sumTo l (k + 1) := by
          have e1 : sumTo l (k + 1) = sm + x2 := by simp only [sumTo, lw]; rw [HS.out, HX.out, HX2.out]
          rw [vl_add hta.1 hxb.1 (by rw [HVA.out]; omega) (by rw [HVA.out]; omega), HVA.out, e1]
        have hc4 := hca.add hta.1 1 x2
        have HV4 := hid hv4
        have HSM := hid (show sumTo l (k + 1) = sm + x2 by simp only [sumTo, lw]; rw [HS.out, HX.out, HX2.out])
        clear hta htb hu4 hbel hv4 hca c1
        generalize addC ca 1 x2 = cc at *
        have i1 : (0 : Int) ≤ (l.length : Int) - 1 - (k : Int) := by omega
        have i2 : (l.length : Int) - 1 - (k : Int) < (l.length : Int) := by omega
        go_wp2_with fail
        refine (low_any y 1073741824 _ (by decide) (by decide)).mono ?_
        rintro e w5 ⟨rfl, rfl⟩
        have hyb := low_bd y 1073741824 (by decide)
        obtain ⟨y2, hy2⟩ : ∃ y2, low y 1073741824 = y2 := ⟨_, rfl⟩
        rw [hy2] at hyb ⊢
        have HY2 := hid hy2
        clear hy2
        go_wp2_with fail
        refine (add_any q 1 y2 cb w4 htb4 hcb).mono ?_
        rintro e w6 ⟨rfl, htb6, hu6⟩
        have hta6 := hta4.but hu6 (Ne.symm hpq)
        have hbl6 : Below W.heap.size W w6 := hbl4.trans (hu6.below (by rw [HP.out, HQ.out]; omega) hbl4.size)
        have hv6 : vl (addC cb 1 y2) 1 = sumBack l (k + 1) := by
          have e1 : sumBack l (k + 1) = sumBack l k + y2 := by simp only [sumBack, lw]; rw [HY.out, HY2.out]
          rw [vl_add htb4.1 hyb.1 (by rw [HVB.out]; omega) (by rw [HVB.out]; omega), HVB.out, e1]
        have hc6 := hcb.add htb4.1 1 y2
        have HV6 := hid hv6
        clear hta4 htb4 hu6 hbl4 hv6 hcb c2
        generalize addC cb 1 y2 = cd at *
        go_wp2
        go_roundw
        case rel => exact ⟨k + 1, by omega, by go_num, by rw [HSM.out], cc, cd, hta6, htb6, hc4, hc6, HV4.out, HV6.out, hbl6⟩
        case measure => simp [intOf]; omega
      · obtain rfl : k = l.length := by omega
        have hvb2 : vl cb 1 = sm := by rw [HVB.out, sumBack_all, HS.out]
        have HVB2 := hid hvb2
        clear hvb2
        go_wp2_with fail
        refine (add_any p 1 (-5) ca wr hta hca).mono ?_
        rintro e w4 ⟨rfl, hta4, hu4⟩
        have hpq : q ≠ p := by have := HQ.out; omega
        have htb4 := htb.but hu4 hpq
        have hbl4 : Below W.heap.size W w4 := hbel.trans (hu4.below (by rw [HP.out]; exact Nat.le_refl _) hbel.size)
        rw [addC_same (by omega)] at hta4
        clear hta htb hu4 hbel
        go_wp2_with fail
        refine (add_any p 1 1099511627777 ca w4 hta4 hca).mono ?_
        rintro e w5 ⟨rfl, hta5, hu5⟩
        have htb5 := htb4.but hu5 hpq
        have hbl5 : Below W.heap.size W w5 := hbl4.trans (hu5.below (by rw [HP.out]; exact Nat.le_refl _) hbl4.size)
        rw [addC_same (by omega)] at hta5
        clear hta4 htb4 hu5 hbl4
        go_wp2_with fail
        refine (get_any p 1 ca w5 hta5).mono ?_
        rintro e w6 ⟨rfl, rfl⟩
        rw [HVA.out]
        go_wp2_with fail
        refine (get_any q 1 cb w5 htb5).mono ?_
        rintro e w6 ⟨rfl, rfl⟩
        rw [HVB2.out]
        go_wp2_with fail
        refine (add_any p 1 1099511627776 ca w5 hta5 hca).mono ?_
        rintro e w6 ⟨rfl, hta6, hu6⟩
        have hbl6 : Below W.heap.size W w6 := hbl5.trans (hu6.below (by rw [HP.out]; exact Nat.le_refl _) hbl5.size)
        have hv6 : vl (addC ca 1 1099511627776) 1 = 1099511627776 := by
          rw [vl_most hta5.1 (by decide) (by rw [HVA.out]; omega)]
        rw [hv6]
        have HV6 := hid hv6
        have hc6 := hca.add hta5.1 1 1099511627776
        clear hta5 htb5 hu6 hbl5 hv6
        generalize addC ca 1 1099511627776 = cc at *
        go_wp2_with fail
        refine (add_any p 1 1 cc w6 hta6 hc6).mono ?_
        rintro e w7 ⟨rfl, hta7, hu7⟩
        have hbl7 : Below W.heap.size W w7 := hbl6.trans (hu7.below (by rw [HP.out]; exact Nat.le_refl _) hbl6.size)
        have hv7 : vl (addC cc 1 1) 1 = 1099511627776 := by
          rw [vl_most hta6.1 (by decide) (by rw [HV6.out]; decide)]
        rw [hv7]
        clear hta7 hu7 hta6 hbl6 hv7
        go_wp2_with fail
        refine (awake_any w7).mono ?_
        rintro e w8 ⟨rfl, hb8⟩
        have hbl8 := hbl7.trans (hb8.mono hbl7.size)
        clear hb8 hbl7
        go_wp2
        go_ret
        exact ⟨rfl, hbl8⟩
end Go.Proofs.Ytpaglpcponkabaa
