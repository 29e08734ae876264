/- The walk of TallyScript. -/
import Derived.Test.YtpaglpcponkabaaTalAwake
import Derived.Test.YtpaglpcponkabaaIntsSame
import Derived.Test.YtpaglpcponkabaaRefTal
import Derived.Test.YtpaglpcponkabaaAct
import Derived.Deep.RegionHeld3
namespace Go.Proofs.Ytpaglpcponkabaa
open Go.RowKit
set_option linter.unusedVariables false

/-- Two tallies, and an act in a block of its own. -/
structure St (B g p q : Nat) (i n : Int) (c d : List Int) (W w : World) : Prop where
  tp : Tl w p c
  tq : Tl w q d
  c1 : w.cell? ⟨g, 1, none⟩ = some (.int .i64 i)
  c2 : w.cell? ⟨g, 2, none⟩ = some (.int .i64 n)
  lt : g < w.heap.size
  gp : g ≠ p
  gq : g ≠ q
  pq : p ≠ q
  Bp : B ≤ p
  Bq : B ≤ q
  Bw : B ≤ w.heap.size
  bel : Below B W w

theorem St.atP {B g p q : Nat} {i n : Int} {c c' d : List Int} {W w w' : World} (h : St B g p q i n c d W w) (ht : Tl w' p c') (hu : But p w w') : St B g p q i n c' d W w' :=
  ⟨ht, h.tq.but hu (Ne.symm h.pq), (World.cell?_of_block (w := w) (hu.block g h.lt h.gp)).trans h.c1, (World.cell?_of_block (w := w) (hu.block g h.lt h.gp)).trans h.c2, Nat.lt_of_lt_of_le h.lt hu.size, h.gp, h.gq, h.pq, h.Bp, h.Bq, Nat.le_trans h.Bw hu.size, h.bel.trans (hu.below h.Bp h.Bw)⟩
theorem St.atQ {B g p q : Nat} {i n : Int} {c d' d : List Int} {W w w' : World} (h : St B g p q i n c d W w) (ht : Tl w' q d') (hu : But q w w') : St B g p q i n c d' W w' :=
  ⟨h.tp.but hu h.pq, ht, (World.cell?_of_block (w := w) (hu.block g h.lt h.gq)).trans h.c1, (World.cell?_of_block (w := w) (hu.block g h.lt h.gq)).trans h.c2, Nat.lt_of_lt_of_le h.lt hu.size, h.gp, h.gq, h.pq, h.Bp, h.Bq, Nat.le_trans h.Bw hu.size, h.bel.trans (hu.below h.Bq h.Bw)⟩
theorem St.drew {B g p q : Nat} {i n : Int} {c d : List Int} {W w : World} (h : St B g p q i n c d W w) : St B g p q i n c d W w.drew :=
  ⟨h.tp, h.tq, h.c1, h.c2, h.lt, h.gp, h.gq, h.pq, h.Bp, h.Bq, h.Bw, h.bel.drew⟩

theorem raise_act {B g p q : Nat} {i n : Int} {c d : List Int} {W : World} (w : World) (h : St B g p q i n c d W w) : Calls Try.prog 9 #[.pointer (some ⟨p, 0, none⟩), .int .i64 i, .int .i64 n] w fun e w' => e = .returned (.int .i64 (vl (raiseC c i n) i)) ∧ St B g p q i n (raiseC c i n) d W w' :=
  (raise_any p i n c w h.tp).mono fun e w' ⟨h1, h2, h3⟩ => ⟨h1, h.atP h2 h3⟩
theorem add_act {B g p q : Nat} {i n : Int} {c d : List Int} {W : World} (w : World) (h : St B g p q i n c d W w) (hc : Cts c) : Calls Try.prog 11 #[.pointer (some ⟨p, 0, none⟩), .int .i64 i, .int .i64 n] w fun e w' => e = .returned (.int .i64 (vl (addC c i n) i)) ∧ St B g p q i n (addC c i n) d W w' :=
  (add_any p i n c w h.tp hc).mono fun e w' ⟨h1, h2, h3⟩ => ⟨h1, h.atP h2 h3⟩
theorem rraise_act {B g p q : Nat} {i n : Int} {c d : List Int} {W : World} (w : World) (h : St B g p q i n c d W w) : Calls Try.prog 10 #[.pointer (some ⟨q, 0, none⟩), .int .i64 i, .int .i64 n] w fun e w' => e = .returned (.int .i64 (vl (raiseC d i n) i)) ∧ St B g p q i n c (raiseC d i n) W w' :=
  (rraise_any q i n d w h.tq).mono fun e w' ⟨h1, h2, h3⟩ => ⟨h1, h.atQ h2 h3⟩
theorem radd_act {B g p q : Nat} {i n : Int} {c d : List Int} {W : World} (w : World) (h : St B g p q i n c d W w) (hc : Cts d) : Calls Try.prog 12 #[.pointer (some ⟨q, 0, none⟩), .int .i64 i, .int .i64 n] w fun e w' => e = .returned (.int .i64 (vl (addC d i n) i)) ∧ St B g p q i n c (addC d i n) W w' :=
  (radd_any q i n d w h.tq hc).mono fun e w' ⟨h1, h2, h3⟩ => ⟨h1, h.atQ h2 h3⟩

theorem St.mk0 {B p q : Nat} {r : Bool} {i n : Int} {c : List Int} {t : TypeId} {W w : World} (htp : Tl w p c) (htq : Tl w q c) (hb : Below B W w) (h1 : B ≤ W.heap.size) (hp : B ≤ p) (hq : B ≤ q) (hpq : p ≠ q) :
    St B w.heap.size p q i n c c W (w.alloc (.cells #[.bool r, .int .i64 i, .int .i64 n] t)) := by
  have hs := hb.size
  have hbx := (Below.refl w.heap.size w).alloc (Nat.le_refl _) (.cells #[.bool r, .int .i64 i, .int .i64 n] t)
  have h2 := htp.2.1
  have h3 := htq.2.1
  exact ⟨htp.below hbx, htq.below hbx, by simp, by simp, by simp, by omega, by omega, hpq, hp, hq, by simp; omega, hb.alloc (by omega) _⟩
theorem below_drewN {B : Nat} {a w : World} (h : Below B a w) (n : Nat) : Below B a (w.drewN n) := h.trans ⟨rfl, rfl, rfl, Nat.le_refl _, fun _ _ => rfl⟩
theorem Tl.grown {w w' : World} {b r : Nat} {c : List Int} (h : Tl w b c) (hg : w.grownBy w' (some r)) (hn : b ≠ r) : Tl w' b c := h.of_block hg.size (hg.block b h.2.1 (fun e => hn (Option.some.inj e)))
theorem own_drewN {w : World} {base e n : Nat} {v : Value} {xs : List Value} (h : w.ownsRow base e 1 v n xs) (m : Nat) : (w.drewN m).ownsRow base e 1 v n xs := h
theorem own_le {w : World} {base e n g cap : Nat} {xs : List Value} (h : w.ownsRow base e 1 (.slice (some ⟨g, 0, none⟩) n cap) n xs) : base ≤ w.heap.size := by
  have := h.lt g rfl
  omega
/-- The cells of an act in a slice of acts. -/
theorem acts_at {w : World} {l : List (Bool × Int × Int)} {b off : Nat} (hc : ∀ (j : Nat) (a : Bool × Int × Int), l[j]? = some a → ∃ ds : List Value, ds.length = 3 ∧ rAct w ds a ∧ ∀ (k : Nat) (u : Value), ds[k]? = some u → w.cell? ⟨b, off + j * 3 + k, none⟩ = some u) {k : Nat} (hk : k < l.length) :
    w.cell? ⟨b, off + k * 3, none⟩ = some (.bool l[k].1) ∧ w.cell? ⟨b, off + k * 3 + 1, none⟩ = some (.int .i64 l[k].2.1) ∧ w.cell? ⟨b, off + k * 3 + 2, none⟩ = some (.int .i64 l[k].2.2) := by
  obtain ⟨ds, hd, hr, hu⟩ := hc k l[k] (List.getElem?_eq_getElem hk)
  obtain ⟨rfl, -, -⟩ := rAct_cells hd hr
  exact ⟨hu 0 _ rfl, hu 1 _ rfl, hu 2 _ rfl⟩

set_option maxHeartbeats 4000000 in
set_option maxRecDepth 100000 in
theorem tallyScript_walk (W : World) (v : Value) (l : List (Bool × Int × Int)) (h : rSlice 3 rAct W [v] l) : Calls Try.prog 3 #[v] W fun e W' => e = .returned (.bool true) ∧ Below W.heap.size W W' := by
  obtain ⟨ao, cap, hv, a1, a2, a3, a4⟩ := h
  obtain rfl : v = _ := by simpa using hv
  clear hv
  unfold maxLen at a2
  by_cases hlen : 100 < l.length
  · have hgt : (100 : Int) < (l.length : Int) := by omega
    clear a3 a4
    go_enter Try.func3, Try.ntmps3
    go_wp2_with fail
    refine (awake_any W).mono ?_
    rintro e w1 ⟨rfl, hb⟩
    go_wp2
    go_ret
    exact ⟨rfl, hb⟩
  · have hle : (l.length : Int) ≤ 100 := by omega
    have HA := hid a4
    clear a3 a4
    go_enter Try.func3, Try.ntmps3
    go_wp2_with fail
    refine (new_any W).mono ?_
    rintro e w1 ⟨rfl, hw1⟩
    have hs1 : w1.heap.size = W.heap.size + 1 := by rw [hw1]; simp
    have ht1 := Tl.new W 48
    have hb1 : Below W.heap.size W w1 := by rw [hw1]; exact (Below.refl _ _).alloc (Nat.le_refl _) _
    rw [← hw1] at ht1
    clear hw1
    have HS1 := hid hs1
    clear hs1
    have ht2 := Tl.new w1 29
    have hb2 := (Below.refl w1.heap.size w1).alloc (Nat.le_refl _) (.cells #[.int .i64 0, .int .i64 0, .int .i64 0, .int .i64 0, .int .i64 0, .int .i64 0, .int .i64 0, .int .i64 0] 29)
    have ht3 := ht1.below hb2
    have hb3 := hb1.trans (hb2.mono hb1.size)
    clear hb2 hb1 ht1
    go_wp2
    generalize w1.alloc (.cells #[.int .i64 0, .int .i64 0, .int .i64 0, .int .i64 0, .int .i64 0, .int .i64 0, .int .i64 0, .int .i64 0] 29) = w2 at *
    obtain ⟨p, hp⟩ : ∃ p, W.heap.size = p := ⟨_, rfl⟩
    obtain ⟨q, hq⟩ : ∃ q, w1.heap.size = q := ⟨_, rfl⟩
    have hs1 := HS1.out
    rw [hp] at ht3 hs1 ⊢
    rw [hq] at ht2 hs1 ⊢
    have HP := hid hp
    have HQ := hid hs1
    clear hp hq hs1 HS1
    go_loopw [5] (fun iv wr => ∃ k : Nat, k ≤ l.length ∧ iv = .int .i64 k ∧ ∃ c, Tl wr p c ∧ Tl wr q c ∧ Cts c ∧ Below W.heap.size W wr) (fun i _ => l.length - (intOf i).toNat)
    case atStart => exact ⟨0, by omega, rfl, zero8, ht3, ht2, Cts.zero, hb3⟩
    case round =>
      obtain ⟨k, hk, rfl, c, htp, htq, hcc, hbel⟩ := hrel
      clear ht2 ht3 hb3
      by_cases hlt : k < l.length
      · obtain ⟨b, off, rfl, hbl, hc⟩ := HA.out (by intro e; rw [e] at hlt; simp at hlt)
        obtain ⟨hx0, hx1, hx2⟩ := acts_at hc hlt
        rcases hact : l[k] with ⟨r, i, n⟩
        rw [hact] at hx0 hx1 hx2
        replace hx0 := (hbel.cell (p := ⟨b, off + k * 3, none⟩) hbl).trans hx0
        replace hx1 := (hbel.cell (p := ⟨b, off + k * 3 + 1, none⟩) hbl).trans hx1
        replace hx2 := (hbel.cell (p := ⟨b, off + k * 3 + 2, none⟩) hbl).trans hx2
        clear hact hc HA
        cases r with
        | true =>
          go_wp2
          have hst := St.mk0 (r := true) (i := i) (n := n) (t := 31) htp htq hbel (Nat.le_refl _) (by rw [HP.out]; exact Nat.le_refl _) (by rw [HP.out, HQ.out]; omega) (by have := HQ.out; omega)
          generalize wr.alloc (.cells #[.bool true, .int .i64 i, .int .i64 n] 31) = w3 at *
          generalize wr.heap.size = g at *
          clear hx0 hx1 hx2 htp htq hbel hbl
          have k1 := hst.c1
          have k2 := hst.c2
          go_region_held3 (fun w' => w'.cell? ⟨g, 1, none⟩ = some (.int .i64 i) ∧ w'.cell? ⟨g, 2, none⟩ = some (.int .i64 n)) (go_keep)
            (first | (go_at_call 9; refine (raise_act (B := W.heap.size) (g := g) (q := q) (c := c) (d := c) (W := W) _ ?_).mono ?_; (exact hst.drew); rintro e w4 ⟨rfl, hst4⟩; have k3 := hst4.c1; have k4 := hst4.c2) | (go_at_call 10; refine (rraise_act (B := W.heap.size) (g := g) (p := p) (c := raiseC c i n) (d := c) (W := W) _ ?_).mono ?_; (exact hst4); rintro e w5 ⟨rfl, hst5⟩; have k5 := hst5.c1; have k6 := hst5.c2))
          have hcd := hcc.raise hst.tp.1 i n
          clear hst hst4 k1 k2 k3 k4 k5 k6
          generalize raiseC c i n = d at *
          generalize vl d i = y at *
          have htd := hst5.tp
          have hte := hst5.tq
          have hbd := hst5.bel
          clear hst5
          go_wp2_with fail
          refine (all_any p d w5 htd).mono ?_
          rintro e w6 ⟨rfl, ho6, hb6⟩
          have htd6 := htd.below hb6
          have hte6 := hte.below hb6
          have hbd6 := hbd.trans (hb6.mono hbd.size)
          have hz := htd.2.1
          have hz2 := hte.2.1
          clear htd hte hbd hb6
          generalize w5.heap.size = m at *
          go_wp2_with fail
          refine (sameInts_any _ _ d d w6 (Is.own ho6) (Is.tl hte6)).mono ?_
          rintro e w7 ⟨rfl, n7, rfl⟩
          rw [decide_eq_true rfl]
          go_wp2_with fail
          refine (overInts_any m 8 8 m _ _ (own_drewN ho6 n7) (own_le ho6) (by decide)).mono ?_
          rintro e w8 ⟨rfl, hg8⟩
          have htd8 : Tl w8 p d := (htd6.drewN n7).grown hg8 (by omega)
          have hte8 : Tl w8 q d := (hte6.drewN n7).grown hg8 (by omega)
          have hbd8 : Below W.heap.size W w8 := (below_drewN hbd6 n7).grown hg8 hbd6.size (by intro z hz; cases hz; have := HP.out; omega)
          clear hg8 ho6 htd6 hte6 hbd6
          go_wp2
          go_roundw
          case rel => exact ⟨k + 1, by omega, by go_num, d, htd8, hte8, hcd, hbd8⟩
          case measure => simp [intOf]; omega
        | false =>
          go_wp2
          have hst := St.mk0 (r := false) (i := i) (n := n) (t := 31) htp htq hbel (Nat.le_refl _) (by rw [HP.out]; exact Nat.le_refl _) (by rw [HP.out, HQ.out]; omega) (by have := HQ.out; omega)
          generalize wr.alloc (.cells #[.bool false, .int .i64 i, .int .i64 n] 31) = w3 at *
          generalize wr.heap.size = g at *
          clear hx0 hx1 hx2 htp htq hbel hbl
          have k1 := hst.c1
          have k2 := hst.c2
          go_region_held3 (fun w' => w'.cell? ⟨g, 1, none⟩ = some (.int .i64 i) ∧ w'.cell? ⟨g, 2, none⟩ = some (.int .i64 n)) (go_keep)
            (first | (go_at_call 11; refine (add_act (B := W.heap.size) (g := g) (q := q) (c := c) (d := c) (W := W) _ ?_ hcc).mono ?_; (exact hst.drew); rintro e w4 ⟨rfl, hst4⟩; have k3 := hst4.c1; have k4 := hst4.c2) | (go_at_call 12; refine (radd_act (B := W.heap.size) (g := g) (p := p) (c := addC c i n) (d := c) (W := W) _ ?_ hcc).mono ?_; (exact hst4); rintro e w5 ⟨rfl, hst5⟩; have k5 := hst5.c1; have k6 := hst5.c2))
          have hcd := hcc.add hst.tp.1 i n
          clear hst hst4 k1 k2 k3 k4 k5 k6
          generalize addC c i n = d at *
          generalize vl d i = y at *
          have htd := hst5.tp
          have hte := hst5.tq
          have hbd := hst5.bel
          clear hst5
          go_wp2_with fail
          refine (all_any p d w5 htd).mono ?_
          rintro e w6 ⟨rfl, ho6, hb6⟩
          have htd6 := htd.below hb6
          have hte6 := hte.below hb6
          have hbd6 := hbd.trans (hb6.mono hbd.size)
          have hz := htd.2.1
          have hz2 := hte.2.1
          clear htd hte hbd hb6
          generalize w5.heap.size = m at *
          go_wp2_with fail
          refine (sameInts_any _ _ d d w6 (Is.own ho6) (Is.tl hte6)).mono ?_
          rintro e w7 ⟨rfl, n7, rfl⟩
          rw [decide_eq_true rfl]
          go_wp2_with fail
          refine (overInts_any m 8 8 m _ _ (own_drewN ho6 n7) (own_le ho6) (by decide)).mono ?_
          rintro e w8 ⟨rfl, hg8⟩
          have htd8 : Tl w8 p d := (htd6.drewN n7).grown hg8 (by omega)
          have hte8 : Tl w8 q d := (hte6.drewN n7).grown hg8 (by omega)
          have hbd8 : Below W.heap.size W w8 := (below_drewN hbd6 n7).grown hg8 hbd6.size (by intro z hz; cases hz; have := HP.out; omega)
          clear hg8 ho6 htd6 hte6 hbd6
          go_wp2
          go_roundw
          case rel => exact ⟨k + 1, by omega, by go_num, d, htd8, hte8, hcd, hbd8⟩
          case measure => simp [intOf]; omega
      · go_wp2_with fail
        have hsz := htp.2.1
        go_region_held3 (fun w' => True) (trivial)
          (first | (go_at_call 13; refine (all_any p c _ ?_).mono ?_; (exact htp.drew); rintro e w6 ⟨rfl, ho6, hb6⟩; have hte6 := Tl.below htq.drew hb6; have hbd6 := Below.trans hbel.drew (hb6.mono hbel.size)) | (go_at_call 14; refine (sameInts_any _ _ c c _ ?_ ?_).mono ?_; (exact Is.own ho6); (exact Is.tl hte6); rintro e w7 ⟨rfl, n7, rfl⟩; rw [decide_eq_true rfl]) | (go_at_call 7; refine (awake_any _).mono ?_; rintro e w8 ⟨rfl, hb8⟩))
        have hbd8 : Below W.heap.size W w8 := (below_drewN hbd6 n7).trans (hb8.mono hbd6.size)
        clear hb8 hbd6 hb6 ho6 hte6 htp htq hbel
        go_wp2
        go_ret
        exact ⟨rfl, hbd8⟩
end Go.Proofs.Ytpaglpcponkabaa
