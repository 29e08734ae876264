/- The walk of TallyRises. -/
import Derived.Test.YtpaglpcponkabaaTalScript
namespace Go.Proofs.Ytpaglpcponkabaa
open Go.RowKit
set_option linter.unusedVariables false

/-- No counter falls, none is above the most, none but i turns. -/
def Mon (c d : List Int) (i : Int) : Prop := ∀ j : Nat, j < 8 → c.getD j 0 ≤ d.getD j 0 ∧ d.getD j 0 ≤ 1099511627776 ∧ ((j : Int) ≠ i → d.getD j 0 = c.getD j 0)
theorem Mon.refl {c : List Int} (h : Cts c) (i : Int) : Mon c c i := fun j _ => ⟨Int.le_refl _, (h j).2, fun _ => rfl⟩
theorem Mon.set {c : List Int} (h : Cts c) (hl : c.length = 8) (k : Nat) (hk : k < 8) {x : Int} (h1 : c.getD k 0 ≤ x) (h2 : x ≤ 1099511627776) : Mon c (c.set k x) k := fun j hj => by
  rw [getD_set _ _ _ _ (by omega)]
  split
  · next e => subst e; exact ⟨h1, h2, fun hn => absurd rfl hn⟩
  · exact ⟨Int.le_refl _, (h j).2, fun _ => rfl⟩
theorem Mon.add {c : List Int} (h : Cts c) (hl : c.length = 8) (i n : Int) : Mon c (addC c i n) i := by
  by_cases hp : (0 ≤ i ∧ i < 8) ∧ 0 ≤ n ∧ n ≤ 1099511627776
  · obtain ⟨⟨h0, h8⟩, h1, h2⟩ := hp
    obtain ⟨k, rfl⟩ := Int.eq_ofNat_of_zero_le h0
    have := h k
    rw [addC_yes k (by omega) h1 h2]
    exact Mon.set h hl k (by omega) (by omega) (by omega)
  · rw [addC_no hp]; exact Mon.refl h i
theorem Mon.raise {c : List Int} (h : Cts c) (hl : c.length = 8) (i n : Int) : Mon c (raiseC c i n) i := by
  by_cases hp : (0 ≤ i ∧ i < 8) ∧ n ≤ 1099511627776
  · obtain ⟨⟨h0, h8⟩, h2⟩ := hp
    obtain ⟨k, rfl⟩ := Int.eq_ofNat_of_zero_le h0
    have := h k
    rw [raiseC_yes k (by omega) h2]
    exact Mon.set h hl k (by omega) (by omega) (by omega)
  · rw [raiseC_no hp]; exact Mon.refl h i
theorem get_at (p : Nat) (j : Nat) (y : Int) (d : List Int) (w : World) (h : Tl w p d) (hj : j < 8) (hy : d.getD j 0 = y) : Calls Try.prog 16 #[.pointer (some ⟨p, 0, none⟩), .int .i64 j] w fun e w' => e = .returned (.int .i64 y) ∧ w' = w := by
  have := get_any p j d w h
  rw [vl_at j hj, hy] at this
  exact this.mono fun e w' ⟨h1, h2⟩ => ⟨h1, h2.symm⟩
theorem get_quiet (p : Nat) (j : Nat) (y : Int) (d : List Int) (w : World) (t : Nat) (h : Tl w p d) (hj : j < 8) (hy : d.getD j 0 = y) : ∀ n, Calls Try.prog 16 #[.pointer (some ⟨p, 0, none⟩), .int .i64 j] (w.drewN (t + n)) fun e w' => e = .returned (.int .i64 y) ∧ ∃ m, w' = w.drewN (t + m) :=
  fun n => (get_at p j y d (w.drewN (t + n)) h hj hy).mono fun e w' ⟨h1, h2⟩ => ⟨h1, n, h2⟩
theorem own_at {w : World} {base g : Nat} {d : List Int} (h : w.ownsRow base 3 1 (.slice (some ⟨g, 0, none⟩) 8 8) 8 (ict d)) {j : Nat} (hj : j < 8) : w.cell? ⟨g, j, none⟩ = some (.int .i64 (d.getD j 0)) := by
  have hl : d.length = 8 := by have := h.1; rw [ict_length] at this; omega
  rw [h.cellAt j (by omega), ict_at (by omega)]

set_option maxHeartbeats 4000000 in
set_option maxRecDepth 100000 in
theorem tallyRises_walk (W : World) (v : Value) (l : List (Bool × Int × Int)) (h : rSlice 3 rAct W [v] l) : Calls Try.prog 4 #[v] W fun e W' => e = .returned (.bool true) ∧ Below W.heap.size W W' := by
  obtain ⟨ao, cap, hv, a1, a2, a3, a4⟩ := h
  obtain rfl : v = _ := by simpa using hv
  clear hv
  unfold maxLen at a2
  by_cases hlen : 100 < l.length
  · have hgt : (100 : Int) < (l.length : Int) := by omega
    clear a3 a4
    go_enter Try.func4, Try.ntmps4
    go_wp2_with fail
    refine (awake_any W).mono ?_
    rintro e w1 ⟨rfl, hb⟩
    go_wp2
    go_ret
    exact ⟨rfl, hb⟩
  · have hle : (l.length : Int) ≤ 100 := by omega
    have HA := hid a4
    clear a3 a4
    go_enter Try.func4, Try.ntmps4
    go_wp2_with fail
    refine (new_any W).mono ?_
    rintro e w1 ⟨rfl, hw1⟩
    have ht1 := Tl.new W 48
    have hb1 : Below W.heap.size W w1 := by rw [hw1]; exact (Below.refl _ _).alloc (Nat.le_refl _) _
    rw [← hw1] at ht1
    clear hw1
    obtain ⟨p, hp⟩ : ∃ p, W.heap.size = p := ⟨_, rfl⟩
    rw [hp] at ht1 ⊢
    have HP := hid hp
    clear hp
    go_wp2
    go_loopw [4] (fun iv wr => ∃ k : Nat, k ≤ l.length ∧ iv = .int .i64 k ∧ ∃ c, Tl wr p c ∧ Cts c ∧ Below W.heap.size W wr) (fun i _ => l.length - (intOf i).toNat)
    case atStart => exact ⟨0, by omega, rfl, zero8, ht1, Cts.zero, hb1⟩
    case round =>
      obtain ⟨k, hk, rfl, c, htp, hcc, hbel⟩ := hrel
      clear ht1 hb1
      by_cases hlt : k < l.length
      · obtain ⟨b, off, rfl, hbl, hc⟩ := HA.out (by intro e; rw [e] at hlt; simp at hlt)
        obtain ⟨hx0, hx1, hx2⟩ := acts_at hc hlt
        rcases hact : l[k] with ⟨r, i, n⟩
        rw [hact] at hx0 hx1 hx2
        replace hx0 := (hbel.cell (p := ⟨b, off + k * 3, none⟩) hbl).trans hx0
        replace hx1 := (hbel.cell (p := ⟨b, off + k * 3 + 1, none⟩) hbl).trans hx1
        replace hx2 := (hbel.cell (p := ⟨b, off + k * 3 + 2, none⟩) hbl).trans hx2
        clear hact hc HA
        go_wp2_with fail
        have hbx := (Below.refl wr.heap.size wr).alloc (Nat.le_refl _) (.cells #[.bool r, .int .i64 i, .int .i64 n] 31)
        have c0 : (wr.alloc (.cells #[.bool r, .int .i64 i, .int .i64 n] 31)).cell? ⟨wr.heap.size, 0, none⟩ = some (.bool r) := by simp
        have c1 : (wr.alloc (.cells #[.bool r, .int .i64 i, .int .i64 n] 31)).cell? ⟨wr.heap.size, 1, none⟩ = some (.int .i64 i) := by simp
        have c2 : (wr.alloc (.cells #[.bool r, .int .i64 i, .int .i64 n] 31)).cell? ⟨wr.heap.size, 2, none⟩ = some (.int .i64 n) := by simp
        have hgl : wr.heap.size < (wr.alloc (.cells #[.bool r, .int .i64 i, .int .i64 n] 31)).heap.size := by simp
        have htp3 := htp.below hbx
        have hbd3 := hbel.trans (hbx.mono hbel.size)
        have hgp : wr.heap.size ≠ p := by have := htp.2.1; omega
        clear htp hbel hbx
        generalize wr.alloc (.cells #[.bool r, .int .i64 i, .int .i64 n] 31) = w3 at *
        generalize wr.heap.size = g at *
        clear hx0 hx1 hx2 hbl
        refine (all_any p c w3 htp3).mono ?_
        rintro e w4 ⟨rfl, ho4, hb4⟩
        replace c0 := (hb4.cell (p := ⟨g, 0, none⟩) hgl).trans c0
        replace c1 := (hb4.cell (p := ⟨g, 1, none⟩) hgl).trans c1
        replace c2 := (hb4.cell (p := ⟨g, 2, none⟩) hgl).trans c2
        have htp4 := htp3.below hb4
        have hbd4 := hbd3.trans (hb4.mono hbd3.size)
        have hm4 : w3.heap.size < w4.heap.size := by have := ho4.lt w3.heap.size rfl; omega
        have hgl4 := Nat.lt_of_lt_of_le hgl hb4.size
        have hmp : w3.heap.size ≠ p := by have := htp3.2.1; omega
        have hwas : ∀ j, j < 8 → w4.cell? ⟨w3.heap.size, j, none⟩ = some (.int .i64 (c.getD j 0)) := fun j hj => own_at ho4 hj
        have HW := hid hwas
        clear hwas ho4 hb4 hbd3 htp3 hgl
        generalize w3.heap.size = m at *
        cases r with
        | true =>
          go_wp2_with fail
          refine (raise_any p i n c w4 htp4).mono ?_
          rintro e w5 ⟨rfl, htp5, hu5⟩
          have hmon := Mon.raise hcc htp4.1 i n
          have hcd := hcc.raise htp4.1 i n
          generalize vl (raiseC c i n) i = z at *
          generalize raiseC c i n = d at *
          replace c1 := (World.cell?_of_block (w := w4) (hu5.block g hgl4 hgp)).trans c1
          have HW5 := hid (fun j (hj : j < 8) => (World.cell?_of_block (w := w4) (hu5.block m hm4 hmp)).trans (HW.out j hj))
          have hbd5 := hbd4.trans (hu5.below (by rw [HP.out]; exact Nat.le_refl _) hbd4.size)
          have hgl5 := Nat.lt_of_lt_of_le hgl4 hu5.size
          have hm5 := Nat.lt_of_lt_of_le hm4 hu5.size
          clear c0 c2 HW hbd4 hgl4 hm4 hu5 htp4 hcc hgp hmp
          go_wp2_with fail
          refine (all_any p d w5 htp5).mono ?_
          rintro e w6 ⟨rfl, ho6, hb6⟩
          replace c1 := (hb6.cell (p := ⟨g, 1, none⟩) hgl5).trans c1
          have HW6 := hid (fun j (hj : j < 8) => (hb6.cell (p := ⟨m, j, none⟩) hm5).trans (HW5.out j hj))
          have HN6 := hid (fun j (hj : j < 8) => own_at ho6 hj)
          have htp6 := htp5.below hb6
          have hbd6 := hbd5.trans (hb6.mono hbd5.size)
          clear ho6 hb6 hbd5 HW5 htp5 hgl5 hm5
          generalize w5.heap.size = m2 at *
          have HM := hid hmon
          have HD := hid hcd
          clear hmon hcd
          go_wp2
          go_loopw [8] (fun jv wr => ∃ j : Nat, j ≤ 8 ∧ jv = .int .i64 j ∧ ∃ t, wr = w6.drewN t) (fun i _ => 8 - (intOf i).toNat)
          case atStart => exact ⟨0, by omega, rfl, 0, rfl⟩
          case round =>
            obtain ⟨j, hj, rfl, t, rfl⟩ := hrel
            by_cases hj8 : j < 8
            · obtain ⟨x, hx⟩ : ∃ x, c.getD j 0 = x := ⟨_, rfl⟩
              obtain ⟨y, hy⟩ : ∃ y, d.getD j 0 = y := ⟨_, rfl⟩
              have q1 := HW6.out j hj8
              have q2 := HN6.out j hj8
              obtain ⟨m1, m2', m3⟩ := HM.out j hj8
              rw [hx] at q1 m1 m3
              rw [hy] at q2 m1 m2' m3
              have HY := hid hy
              clear hx hy
              have e1 : decide (y < x) = false := by simp; omega
              have e2 : decide (1099511627776 < y) = false := by simp; omega
              have e5 : (y != y) = false := by simp
              have i1 : (j : Int) < 8 := by omega
              by_cases hi : (j : Int) = i
              · have e3 : ((j : Int) != i) = false := by simp [hi]
                clear m3 hi
                go_wp2_with fail
                go_quiet ((go_at_call 16; exact get_quiet p j y d w6 t htp6 hj8 HY.out _))
                go_wp2
                go_roundw
                case rel => exact ⟨j + 1, by omega, by go_num, _, rfl⟩
                case measure => simp [intOf]; omega
              · have e3 : ((j : Int) != i) = true := by simpa using hi
                obtain rfl : y = x := m3 hi
                clear m3 hi
                go_wp2_with fail
                go_quiet ((go_at_call 16; exact get_quiet p j y d w6 t htp6 hj8 HY.out _))
                go_wp2
                go_roundw
                case rel => exact ⟨j + 1, by omega, by go_num, _, rfl⟩
                case measure => simp [intOf]; omega
            · go_wp2
              go_roundw
              case rel => exact ⟨k + 1, by omega, by go_num, d, htp6.drewN _, HD.out, below_drewN hbd6 _⟩
              case measure => simp [intOf]; omega
        | false =>
          go_wp2_with fail
          refine (add_any p i n c w4 htp4 hcc).mono ?_
          rintro e w5 ⟨rfl, htp5, hu5⟩
          have hmon := Mon.add hcc htp4.1 i n
          have hcd := hcc.add htp4.1 i n
          generalize vl (addC c i n) i = z at *
          generalize addC c i n = d at *
          replace c1 := (World.cell?_of_block (w := w4) (hu5.block g hgl4 hgp)).trans c1
          have HW5 := hid (fun j (hj : j < 8) => (World.cell?_of_block (w := w4) (hu5.block m hm4 hmp)).trans (HW.out j hj))
          have hbd5 := hbd4.trans (hu5.below (by rw [HP.out]; exact Nat.le_refl _) hbd4.size)
          have hgl5 := Nat.lt_of_lt_of_le hgl4 hu5.size
          have hm5 := Nat.lt_of_lt_of_le hm4 hu5.size
          clear c0 c2 HW hbd4 hgl4 hm4 hu5 htp4 hcc hgp hmp
          go_wp2_with fail
          refine (all_any p d w5 htp5).mono ?_
          rintro e w6 ⟨rfl, ho6, hb6⟩
          replace c1 := (hb6.cell (p := ⟨g, 1, none⟩) hgl5).trans c1
          have HW6 := hid (fun j (hj : j < 8) => (hb6.cell (p := ⟨m, j, none⟩) hm5).trans (HW5.out j hj))
          have HN6 := hid (fun j (hj : j < 8) => own_at ho6 hj)
          have htp6 := htp5.below hb6
          have hbd6 := hbd5.trans (hb6.mono hbd5.size)
          clear ho6 hb6 hbd5 HW5 htp5 hgl5 hm5
          generalize w5.heap.size = m2 at *
          have HM := hid hmon
          have HD := hid hcd
          clear hmon hcd
          go_wp2
          go_loopw [8] (fun jv wr => ∃ j : Nat, j ≤ 8 ∧ jv = .int .i64 j ∧ ∃ t, wr = w6.drewN t) (fun i _ => 8 - (intOf i).toNat)
          case atStart => exact ⟨0, by omega, rfl, 0, rfl⟩
          case round =>
            obtain ⟨j, hj, rfl, t, rfl⟩ := hrel
            by_cases hj8 : j < 8
            · obtain ⟨x, hx⟩ : ∃ x, c.getD j 0 = x := ⟨_, rfl⟩
              obtain ⟨y, hy⟩ : ∃ y, d.getD j 0 = y := ⟨_, rfl⟩
              have q1 := HW6.out j hj8
              have q2 := HN6.out j hj8
              obtain ⟨m1, m2', m3⟩ := HM.out j hj8
              rw [hx] at q1 m1 m3
              rw [hy] at q2 m1 m2' m3
              have HY := hid hy
              clear hx hy
              have e1 : decide (y < x) = false := by simp; omega
              have e2 : decide (1099511627776 < y) = false := by simp; omega
              have e5 : (y != y) = false := by simp
              have i1 : (j : Int) < 8 := by omega
              by_cases hi : (j : Int) = i
              · have e3 : ((j : Int) != i) = false := by simp [hi]
                clear m3 hi
                go_wp2_with fail
                go_quiet ((go_at_call 16; exact get_quiet p j y d w6 t htp6 hj8 HY.out _))
                go_wp2
                go_roundw
                case rel => exact ⟨j + 1, by omega, by go_num, _, rfl⟩
                case measure => simp [intOf]; omega
              · have e3 : ((j : Int) != i) = true := by simpa using hi
                obtain rfl : y = x := m3 hi
                clear m3 hi
                go_wp2_with fail
                go_quiet ((go_at_call 16; exact get_quiet p j y d w6 t htp6 hj8 HY.out _))
                go_wp2
                go_roundw
                case rel => exact ⟨j + 1, by omega, by go_num, _, rfl⟩
                case measure => simp [intOf]; omega
            · go_wp2
              go_roundw
              case rel => exact ⟨k + 1, by omega, by go_num, d, htp6.drewN _, HD.out, below_drewN hbd6 _⟩
              case measure => simp [intOf]; omega
      · go_wp2_with fail
        refine (get_any p (-1) c wr htp).mono ?_
        rintro e w2 ⟨rfl, rfl⟩
        rw [vl_no (by omega)]
        go_wp2_with fail
        refine (get_any p 8 c wr htp).mono ?_
        rintro e w2 ⟨rfl, rfl⟩
        rw [vl_no (by omega)]
        go_wp2_with fail
        refine (awake_any wr).mono ?_
        rintro e w2 ⟨rfl, hb2⟩
        have hbd2 := hbel.trans (hb2.mono hbel.size)
        clear htp hbel hb2
        go_wp2
        go_ret
        exact ⟨rfl, hbd2⟩
end Go.Proofs.Ytpaglpcponkabaa
