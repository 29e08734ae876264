/- StageScript: whatever is put, taken and dropped, each call answers as the document says. -/
import Derived.Test.YtejkboahjfcdcaaSgTwo
namespace Go.Proofs.Ytejkboahjfcdcaa
open Go.RowKit
set_option linter.unusedVariables false

/-- What Take answers. -/
def takeV (R : RowsS KV) (k : Int × Int) (c : Int) : List KV × Bool := if c = ((getS R k).length : Int) then ((getS R k).flatten, true) else ([], false)
def TakeIs (ps : List KV) (ok : Bool) (w : World) (e : Ending) (w' : World) : Prop := ∃ u, e = .returned (.tuple #[u, .bool ok]) ∧ w'.ownsRow w.heap.size 53 2 u ps.length (fl encP ps) ∧ Below w.heap.size w w'
theorem take_any (B b : Nat) (mv : Value) (X : List ((Int × Int) × Pay)) (k : Int × Int) (hk : W64 k) (c : Int) (w : World) (h : Sg B b mv X w) (hs : Short 20 (chS X)) :
    Calls Try.prog 16 #[.pointer (some ⟨b, 0, none⟩), .int .i64 k.1, .int .i64 k.2, .int .i64 c] w (TakeIs (takeV (chS X) k c).1 (takeV (chS X) k c).2 w) := by
  unfold takeV
  by_cases hc : c = ((getS (chS X) k).length : Int)
  · rw [if_pos hc]
    subst hc
    exact take_yes B b mv X k hk _ w h rfl (hs.flat h.ok k)
  · rw [if_neg hc]
    refine (take_no B b mv X k hk c w h hc).mono ?_
    rintro e w' ⟨rfl, rfl⟩
    exact ⟨_, rfl, World.ownsRow_nil _ _ _ _, Below.refl _ _⟩
theorem rtake_any (B q : Nat) (v : Value) (Y : List ((Int × Int) × Pay)) (k : Int × Int) (c : Int) (w : World) (h : Sf B q v Y w) (ho : OkS (chS Y)) (hs : Short 20 (chS Y)) :
    Calls Try.prog 17 #[.pointer (some ⟨q, 0, none⟩), .int .i64 k.1, .int .i64 k.2, .int .i64 c] w (TakeIs (takeV (chS Y) k c).1 (takeV (chS Y) k c).2 w) := by
  unfold takeV
  by_cases hc : c = ((getS (chS Y) k).length : Int)
  · rw [if_pos hc]
    subst hc
    exact rtake_yes B q v Y k _ w h ho rfl (hs.flat ho k)
  · rw [if_neg hc]
    refine (rtake_no B q v Y k c w h ho hc).mono ?_
    rintro e w' ⟨rfl, rfl⟩
    exact ⟨_, rfl, World.ownsRow_nil _ _ _ _, Below.refl _ _⟩
theorem takeV_small {R : RowsS KV} (hs : Short 20 R) (ho : OkS R) (k : Int × Int) (c : Int) : (takeV R k c).1.length ≤ 1000 := by
  unfold takeV
  split
  · exact hs.flat ho k
  · simp
/-- A lent list, as it is handed in. -/
theorem owns_lent {w : World} {base g n : Nat} {xs : List Value} (h : w.ownsRow base 53 2 (.slice (some ⟨g, 0, none⟩) (n + 3) (n + 3)) (n + 3) xs) : w.ownsRow base 53 2 (.slice (some ⟨g, 0, none⟩) n (n + 3)) n (xs.take (n * 2)) := by
  have hl := h.1
  rcases h.2 with ⟨h1, _⟩ | ⟨g', cap, cur, h1, h2, h3, h4, h5, h6, h7⟩
  · cases h1
  · cases h1
    refine ⟨by rw [List.length_take]; omega, .inr ⟨g, n + 3, cur, rfl, h2, h3, by omega, h5, h6, ?_⟩⟩
    rw [← h7, List.take_take]
    congr 1
    omega
def cellsX (xd xs xt xq : Int) (xo : Option Addr) (n xc : Nat) : Array Value := #[.int .i64 xd, .int .i64 xs, .int .i64 xt, .int .i64 xq, .slice xo n xc]
/-- What is loaded of an act. -/
structure XAt (P : Nat) (xs xt xq : Int) (xv : Value) (w : World) : Prop where
  c1 : w.cell? ⟨P, 1, none⟩ = some (.int .i64 xs)
  c2 : w.cell? ⟨P, 2, none⟩ = some (.int .i64 xt)
  c3 : w.cell? ⟨P, 3, none⟩ = some (.int .i64 xq)
  c4 : w.cell? ⟨P, 4, none⟩ = some xv
theorem XAt.of {b q P : Nat} {mv v : Value} {X Y : List ((Int × Int) × Pay)} {xd xs xt xq : Int} {xv : Value} {w : World} (h : Rest b q mv v X Y P (.cells #[.int .i64 xd, .int .i64 xs, .int .i64 xt, .int .i64 xq, xv] 33 (0, 0)) w) : XAt P xs xt xq xv w :=
  ⟨cell_of_cells h.obj, cell_of_cells h.obj, cell_of_cells h.obj, cell_of_cells h.obj⟩
theorem XAt.all {P : Nat} {xs xt xq : Int} {xv : Value} {w : World} (h : XAt P xs xt xq xv w) : w.cell? ⟨P, 1, none⟩ = some (.int .i64 xs) ∧ w.cell? ⟨P, 2, none⟩ = some (.int .i64 xt) ∧ w.cell? ⟨P, 3, none⟩ = some (.int .i64 xq) ∧ w.cell? ⟨P, 4, none⟩ = some xv := ⟨h.c1, h.c2, h.c3, h.c4⟩
set_option maxHeartbeats 8000000 in
set_option maxRecDepth 100000 in
theorem stageScript_walk (W : World) (v : Value) (l : List ActV) (hv : rSlice 5 rAct W [v] l) :
    Calls Try.prog 3 #[v] W fun e w' => e = .returned (.bool true) ∧ Below W.heap.size W w' := by
  have HV := hid hv
  obtain ⟨ao, ca, hv, a1, a2, a3, a4⟩ := hv
  obtain rfl : v = _ := by simpa using hv
  have HC := hid a4
  clear hv a4 a3
  unfold maxLen at a2
  go_enter Try.func3, Try.ntmps3
  go_wp2_with fail
  refine (great_any _ l 100 W HV.out (by decide)).mono ?_
  rintro e w1 ⟨⟨g, rfl, hg⟩, hw1⟩
  obtain rfl := hw1.symm
  have HGR := hid hg
  clear hg hw1
  cases g with
  | true =>
    go_wp2_with fail
    refine (awake_calls _).mono ?_
    rintro e w2 ⟨rfl, hb2⟩
    have HB2 := hid hb2
    clear hb2
    go_wp2
    go_ret
    exact ⟨rfl, HB2.out⟩
  | false =>
    obtain ⟨hl, hsm⟩ := HGR.out rfl
    have HSM := hid hsm
    clear hsm HGR
    go_wp2_with fail
    refine (new_stage _).mono ?_
    rintro e w1 ⟨rfl, hw1⟩
    have H1 := hid (show OnG W.heap.size W.heap.size (.map none) [] W w1 by rw [hw1]; exact OnG.new W)
    have hq1 : w1.heap.size = W.heap.size + 1 := by rw [hw1]; simp
    clear hw1
    have H2 := hid (show Both W.heap.size W.heap.size w1.heap.size (.map none) (.slice none 0 0) [] [] W (w1.alloc (.cells #[.slice none 0 0] 30)) from
      ⟨H1.out.below (alloc_one _ _), Sf.new w1 _ (by omega), fun g hg hf => by
        rcases hg with e | e | e
        · rcases hf with e2 | e2 | e2
          · omega
          · cases e2
          · obtain ⟨r, hr, _⟩ := e2
            cases hr
        · cases e
        · obtain ⟨r, hr, _⟩ := e
          cases hr⟩)
    clear H1 hq1
    go_wp2
    generalize w1.alloc (.cells #[.slice none 0 0] 30) = w2 at *
    generalize w1.heap.size = q at *
    go_loopw [5] (fun i wr => ∃ (j : Nat) (mv v : Value) (X Y : List ((Int × Int) × Pay)), j ≤ l.length ∧ i = .int .i64 j ∧ Hid (Both W.heap.size W.heap.size q mv v X Y W wr) ∧ Hid (chS X = chS Y) ∧ Hid (Short 20 (chS X))) (fun i _ => l.length - (intOf i).toNat)
    case atStart => exact ⟨0, _, _, [], [], by omega, rfl, H2, hid rfl, hid (Short.nil _)⟩
    case round =>
      clear H2
      obtain ⟨j, mv, v, X, Y, hj, rfl, H, HE, HSH⟩ := hrel
      by_cases hlt : j < l.length
      · obtain ⟨b, off, rfl, hb, hc⟩ := HC.out (by intro e; rw [e] at hlt; simp at hlt)
        obtain ⟨xo, xc, c0, c1, c2, c3, c4, hp, hw64⟩ := acts_later hc hb H.out.og.bel hlt
        have hx20 := HSM.out _ (List.getElem_mem hlt)
        have HXP := hid hp
        have HXW := hid hw64
        have hd4 : decide ((j : Int) < (l.length : Int)) = true := by simp; omega
        generalize l[j].1 = xd at c0
        generalize l[j].2.1 = xs at c1 HXW
        generalize l[j].2.2.1 = xt at c2 HXW
        generalize l[j].2.2.2.1 = xq at c3
        generalize l[j].2.2.2.2 = xp at c4 hx20 HXP
        clear hp hw64 hc
        have hbx := alloc_one wr (.cells #[.int .i64 xd, .int .i64 xs, .int .i64 xt, .int .i64 xq, .slice xo xp.length xc] 33)
        have HX := hid (H.out.below hbx)
        have HR := hid (Rest.new H.out (.cells #[.int .i64 xd, .int .i64 xs, .int .i64 xt, .int .i64 xq, .slice xo xp.length xc] 33))
        have HOK := hid (show OkS (chS Y) from by rw [← HE.out]; exact H.out.og.sg.ok)
        have HSY := hid (show Short 20 (chS Y) from by rw [← HE.out]; exact HSH.out)
        have x0 : (wr.alloc (.cells #[.int .i64 xd, .int .i64 xs, .int .i64 xt, .int .i64 xq, .slice xo xp.length xc] 33)).cell? ⟨wr.heap.size, 0, none⟩ = some (.int .i64 xd) := cell_of_cells HR.out.obj
        clear hbx H
        by_cases hd0 : xd = 0
        case pos =>
          subst hd0
          go_wp2_with fail
          have HP0 := hid (HXP.out.below HX.out.og.bel)
          refine (lendPairs_any _ xp _ HP0.out (by omega)).mono ?_
          rintro e w3 ⟨rfl, ho3, hb3⟩
          have H3 := hid (HX.out.below hb3)
          have R3 := hid (HR.out.below hb3)
          have HI3 := hid ho3
          have HNB := hid (HX.out.new (Nat.le_refl _))
          have hP : wr.heap.size < w3.heap.size := lt_of_block R3.out.obj
          generalize hg0 : (wr.alloc (.cells #[.int .i64 0, .int .i64 xs, .int .i64 xt, .int .i64 xq, .slice xo xp.length xc] 33)).heap.size = g0 at *
          have HG0 := hid (show g0 < w3.heap.size from owns_lt HI3.out rfl)
          have HGB := hid (show W.heap.size ≤ g0 from by rw [← hg0]; exact HX.out.og.sg.low)
          clear ho3 hb3 HX HR HP0 hg0 x0 c0 c1 c2 c3 c4
          go_wp2_with fail
          obtain ⟨pn, hpn⟩ : ∃ pn, putN (chS X) (xs, xt) xq = pn := ⟨_, rfl⟩
          have HPN := hid hpn
          have HPM := hid (show putN (chS Y) (xs, xt) xq = pn by rw [← HE.out]; exact hpn)
          clear hpn
          have H4 := hid (H3.out.below (below_drew1 w3))
          have R4 := hid (R3.out.below (below_drew1 w3))
          have HI4 := hid (owns_below HI3.out (below_drew1 w3))
          have HA4 := hid (XAt.of R4.out)
          go_region_held3 (fun w' => w'.cell? ⟨wr.heap.size, 1, none⟩ = some (.int .i64 xs) ∧ w'.cell? ⟨wr.heap.size, 2, none⟩ = some (.int .i64 xt) ∧ w'.cell? ⟨wr.heap.size, 3, none⟩ = some (.int .i64 xq) ∧ w'.cell? ⟨wr.heap.size, 4, none⟩ = some (.slice xo xp.length xc)) (first | exact HA4.out.all | exact HA5.out.all | exact HA6.out.all | exact HA7.out.all | go_keep) (first | (go_at_call 14; refine (keptPairs_any g0 _ xp w6 (Reads.own encP_len (by decide) HI6.out) (HXP.out.below H6.out.og.bel) (by omega)).mono ?_; rintro e w7 ⟨rfl, n7, rfl⟩; have H7 := hid (H6.out.below (below_drew w6 n7)); have R7 := hid (R6.out.below (below_drew w6 n7)); have HI7 := hid (owns_below HI6.out (below_drew w6 n7)); have HA7 := hid (XAt.of R7.out)) | (go_at_call 13; refine (rput_any W.heap.size q v Y (xs, xt) xq _ xp w5 H5.out.sf HOK.out (fun w' hs => HXP.out.below (H5.out.og.bel.trans (H5.out.sf.bel hs))) (by omega)).mono ?_; rintro e w6 ⟨rfl, v6, Y6, s6, r6, t6, n6⟩; rw [HPM.out]; have H6 := hid (H5.out.turnF s6 t6 n6); have R6 := hid (R5.out.turnF t6 n6); have HI6 := hid (owns_sav HI5.out t6 (fun g hg e => HNB5.out.2 (by cases hg; exact e))); have HNB6 := hid (show ¬ InG W.heap.size mv5 X5 g0 ∧ ¬ InF q v6 Y6 g0 from ⟨HNB5.out.1, fun e => (n6 g0 e).elim HNB5.out.2 (fun e2 => by have := owns_lt HI5.out (g := g0) rfl; omega)⟩); have HR6 := hid r6; have HA6 := hid (XAt.of R6.out); clear s6 r6 t6 n6) | (go_at_call 12; refine (put_any W.heap.size W.heap.size mv X (xs, xt) HXW.out xq _ xp w3.drew H4.out.og.sg (Reads.cut (Reads.own encP_len (by decide) HI4.out)) (by omega)).mono ?_; rintro e w5 ⟨rfl, mv5, X5, s5, r5, t5, n5⟩; rw [HPN.out]; have H5 := hid (H4.out.turnG s5 t5 n5); have R5 := hid (R4.out.turnG t5 n5); have HI5 := hid (owns_sav HI4.out t5 (fun g hg e => HNB.out.1 (by cases hg; exact e))); have HNB5 := hid (show ¬ InG W.heap.size mv5 X5 g0 ∧ ¬ InF q v Y g0 from ⟨fun e => (n5 g0 e).elim HNB.out.1 (fun e2 => by have := owns_lt HI4.out (g := g0) rfl; omega), HNB.out.2⟩); have HR5 := hid r5; have HA5 := hid (XAt.of R5.out); clear s5 r5 t5 n5))
          have HE8 := hid (show chS X5 = chS Y6 from by rw [HR5.out, HR6.out, HE.out])
          have HS8 := hid (show Short 20 (chS X5) from by rw [HR5.out]; exact HSH.out.put _ _ hx20)
          generalize w6.drewN n7 = w7 at *
          clear HA4 HA5 HA6 HA7 H4 H5 H6 R4 R5 R6 HI4 HI5 HI6 HNB HNB5 HR5 HR6 H3 R3 HI3 HPN HPM
          have hz7 : g0 ≤ w7.heap.size := Nat.le_of_lt (owns_lt HI7.out rfl)
          go_wp2_with fail
          refine (overPairs_grown xp.length g0 _ _ w7 (owns_lent HI7.out) hz7 (by omega)).mono ?_
          rintro e w8 ⟨rfl, hg8⟩
          have H8 := hid (H7.out.over (owns_mono (owns_lent HI7.out) HGB.out) hg8 (fun g hg => by cases hg; exact HNB6.out))
          have R8 := hid (R7.out.over (owns_lent HI7.out) (by decide) hg8)
          clear hg8 H7 R7 HI7 HNB6 HGB HG0 hz7
          have HXA := hid (XAt.of R8.out)
          have x1 := HXA.out.c1
          have x2 := HXA.out.c2
          obtain ⟨N, hN⟩ : ∃ N, (getS (chS X5) (xs, xt)).length = N := ⟨_, rfl⟩
          obtain ⟨L, hL⟩ : ∃ L, (chS X5).length = L := ⟨_, rfl⟩
          have HQ1 := hid (count_q W.heap.size W.heap.size mv5 X5 L w8 H8.out.og.sg hL)
          have HQ2 := hid (nextg_q W.heap.size W.heap.size mv5 X5 (xs, xt) HXW.out N w8 H8.out.og.sg hN)
          have HQ3 := hid (rnext_q W.heap.size q v6 Y6 (xs, xt) N w8 H8.out.sf (by rw [← HE8.out]; exact H8.out.og.sg.ok) (by rw [← HE8.out]; exact hN))
          obtain ⟨vo, vc, hv6⟩ := H8.out.sf.slice
          rw [H8.out.len HE8.out, hL] at hv6
          have xq0 := H8.out.sf.c0
          rw [hv6] at xq0
          clear hN hL hv6 HXA
          go_wp2_with fail
          go_quiet ((first | (go_at_call 21; exact HQ1.out _) | (go_at_call 22; exact HQ2.out _) | (go_at_call 23; exact HQ3.out _)))
          have H9 := hid (H8.out.below (below_drew w8 nq))
          clear HQ1 HQ2 HQ3 H8 R8 x1 x2 xq0
          go_wp2
          go_roundw
          case rel => exact ⟨j + 1, mv5, v6, X5, Y6, by omega, by go_num, H9, HE8, HS8⟩
          case measure => simp [intOf]; omega
        by_cases hd1 : xd = 1
        case pos =>
          subst hd1
          have HAX := hid (XAt.of HR.out)
          have x1 := HAX.out.c1
          have x2 := HAX.out.c2
          have x3 := HAX.out.c3
          obtain ⟨pl, pb, hpv⟩ : ∃ pl pb, takeV (chS X) (xs, xt) xq = (pl, pb) := ⟨_, _, rfl⟩
          have hC := take_any W.heap.size W.heap.size mv X (xs, xt) HXW.out xq _ HX.out.og.sg HSH.out
          have hpl := takeV_small HSH.out HX.out.og.sg.ok (xs, xt) xq
          rw [hpv] at hC hpl
          have HPV := hid hpv
          have HCC := hid hC
          clear hpv hC HAX
          go_wp2_with fail
          refine HCC.out.mono ?_
          rintro e w3 ⟨u3, rfl, ho3, hb3⟩
          have H3 := hid (HX.out.below hb3)
          have R3 := hid (HR.out.below hb3)
          have HNO := hid (fun g (hg : u3.ownBlock = some g) => HX.out.new (ho3.lt g hg).1)
          have HO3 := hid (owns_mono ho3 HX.out.og.sg.low)
          clear ho3 hb3 HX HR HCC x0 x1 x2 x3 c0 c1 c2 c3 c4
          have HAX := hid (XAt.of R3.out)
          have x1 := HAX.out.c1
          have x2 := HAX.out.c2
          have x3 := HAX.out.c3
          have hC := rtake_any W.heap.size q v Y (xs, xt) xq _ H3.out.sf HOK.out HSY.out
          rw [← HE.out, HPV.out] at hC
          have HCC := hid hC
          clear hC HAX
          go_wp2_with fail
          refine HCC.out.mono ?_
          rintro e w4 ⟨u4, rfl, ho4, hb4⟩
          have H4 := hid (H3.out.below hb4)
          have R4 := hid (R3.out.below hb4)
          have HO4 := hid (owns_below HO3.out hb4)
          have HP4 := hid (show Prs w4 u4 pl from Reads.own encP_len (by decide) ho4)
          clear ho4 hb4 H3 R3 HO3 HCC x1 x2 x3
          go_wp2_with fail
          refine (samePairs_dec _ _ pl pl w4 (Reads.own encP_len (by decide) HO4.out) HP4.out).mono ?_
          rintro e w5 ⟨rfl, n5, rfl⟩
          have H5 := hid (H4.out.below (below_drew w4 n5))
          have R5 := hid (R4.out.below (below_drew w4 n5))
          have HO5 := hid (owns_below HO4.out (below_drew w4 n5))
          rw [decide_eq_true rfl]
          generalize w4.drewN n5 = w5 at *
          clear H4 R4 HO4 HP4
          go_wp2_with fail
          refine (overPairs_grown pl.length W.heap.size _ _ w5 HO5.out H5.out.og.sg.low hpl).mono ?_
          rintro e w8 ⟨rfl, hg8⟩
          have H8 := hid (H5.out.over HO5.out hg8 HNO.out)
          have R8 := hid (R5.out.over HO5.out (by decide) hg8)
          have HE8 := HE
          have HS8 := HSH
          clear hg8 H5 R5 HO5 HNO HPV hpl
          have HXA := hid (XAt.of R8.out)
          have x1 := HXA.out.c1
          have x2 := HXA.out.c2
          obtain ⟨N, hN⟩ : ∃ N, (getS (chS X) (xs, xt)).length = N := ⟨_, rfl⟩
          obtain ⟨L, hL⟩ : ∃ L, (chS X).length = L := ⟨_, rfl⟩
          have HQ1 := hid (count_q W.heap.size W.heap.size mv X L w8 H8.out.og.sg hL)
          have HQ2 := hid (nextg_q W.heap.size W.heap.size mv X (xs, xt) HXW.out N w8 H8.out.og.sg hN)
          have HQ3 := hid (rnext_q W.heap.size q v Y (xs, xt) N w8 H8.out.sf (by rw [← HE8.out]; exact H8.out.og.sg.ok) (by rw [← HE8.out]; exact hN))
          obtain ⟨vo, vc, hv⟩ := H8.out.sf.slice
          rw [H8.out.len HE8.out, hL] at hv
          have xq0 := H8.out.sf.c0
          rw [hv] at xq0
          clear hN hL hv HXA
          go_wp2_with fail
          go_quiet ((first | (go_at_call 21; exact HQ1.out _) | (go_at_call 22; exact HQ2.out _) | (go_at_call 23; exact HQ3.out _)))
          have H9 := hid (H8.out.below (below_drew w8 nq))
          clear HQ1 HQ2 HQ3 H8 R8 x1 x2 xq0
          go_wp2
          go_roundw
          case rel => exact ⟨j + 1, mv, v, X, Y, by omega, by go_num, H9, HE8, HS8⟩
          case measure => simp [intOf]; omega
        by_cases hd2 : xd = 2
        case pos =>
          subst hd2
          go_wp2_with fail
          obtain ⟨dn, hdn⟩ : ∃ dn, dropN (chS X) xs = dn := ⟨_, rfl⟩
          have HDN := hid hdn
          have HDM := hid (show dropN (chS Y) xs = dn by rw [← HE.out]; exact hdn)
          clear hdn
          have H4 := hid (HX.out.below (below_drew1 _))
          have R4 := hid (HR.out.below (below_drew1 _))
          have HA4 := hid (XAt.of R4.out)
          go_region_held3 (fun w' => w'.cell? ⟨wr.heap.size, 1, none⟩ = some (.int .i64 xs)) (first | exact HA4.out.c1 | exact HA5.out.c1 | exact HA6.out.c1 | go_keep) (first | (go_at_call 20; refine (rdrop_any W.heap.size q v Y xs w5 H5.out.sf).mono ?_; rintro e w6 ⟨rfl, v6, Y6, s6, r6, t6, n6⟩; rw [HDM.out]; have H6 := hid (H5.out.turnF s6 t6 n6); have R6 := hid (R5.out.turnF t6 n6); have HR6 := hid r6; have HA6 := hid (XAt.of R6.out); clear s6 r6 t6 n6) | (go_at_call 19; refine (drop_any W.heap.size W.heap.size mv X xs _ H4.out.og.sg).mono ?_; rintro e w5 ⟨rfl, X5, s5, r5, t5, n5⟩; rw [HDN.out]; have H5 := hid (H4.out.turnG s5 t5 n5); have R5 := hid (R4.out.turnG t5 n5); have HR5 := hid r5; have HA5 := hid (XAt.of R5.out); clear s5 r5 t5 n5))
          have HE8 := hid (show chS X5 = chS Y6 from by rw [HR5.out, HR6.out, HE.out])
          have HS8 := hid (show Short 20 (chS X5) from by rw [HR5.out]; exact HSH.out.drop _)
          have H8 := H6
          have R8 := R6
          clear HA4 HA5 HA6 H4 H5 H6 R4 R5 R6 HR5 HR6 HDN HDM HX HR x0 c0 c1 c2 c3 c4
          have HXA := hid (XAt.of R8.out)
          have x1 := HXA.out.c1
          have x2 := HXA.out.c2
          obtain ⟨N, hN⟩ : ∃ N, (getS (chS X5) (xs, xt)).length = N := ⟨_, rfl⟩
          obtain ⟨L, hL⟩ : ∃ L, (chS X5).length = L := ⟨_, rfl⟩
          have HQ1 := hid (count_q W.heap.size W.heap.size mv X5 L w6 H8.out.og.sg hL)
          have HQ2 := hid (nextg_q W.heap.size W.heap.size mv X5 (xs, xt) HXW.out N w6 H8.out.og.sg hN)
          have HQ3 := hid (rnext_q W.heap.size q v6 Y6 (xs, xt) N w6 H8.out.sf (by rw [← HE8.out]; exact H8.out.og.sg.ok) (by rw [← HE8.out]; exact hN))
          obtain ⟨vo, vc, hv6⟩ := H8.out.sf.slice
          rw [H8.out.len HE8.out, hL] at hv6
          have xq0 := H8.out.sf.c0
          rw [hv6] at xq0
          clear hN hL hv6 HXA
          go_wp2_with fail
          go_quiet ((first | (go_at_call 21; exact HQ1.out _) | (go_at_call 22; exact HQ2.out _) | (go_at_call 23; exact HQ3.out _)))
          have H9 := hid (H8.out.below (below_drew w6 nq))
          clear HQ1 HQ2 HQ3 H8 R8 x1 x2 xq0
          go_wp2
          go_roundw
          case rel => exact ⟨j + 1, mv, v6, X5, Y6, by omega, by go_num, H9, HE8, HS8⟩
          case measure => simp [intOf]; omega
        obtain ⟨w8, hw8⟩ : ∃ w8, (wr.alloc (.cells #[.int .i64 xd, .int .i64 xs, .int .i64 xt, .int .i64 xq, .slice xo xp.length xc] 33)) = w8 := ⟨_, rfl⟩
        have H8 := HX
        have R8 := HR
        have HE8 := HE
        have HS8 := HSH
        rw [hw8] at H8 R8
        have HW8 := hid hw8
        clear HX HR hw8
        go_upto_region 23 with fail
        rw [HW8.out]
        clear HW8 x0 c0 c1 c2 c3 c4
        have HXA := hid (XAt.of R8.out)
        have x1 := HXA.out.c1
        have x2 := HXA.out.c2
        obtain ⟨N, hN⟩ : ∃ N, (getS (chS X) (xs, xt)).length = N := ⟨_, rfl⟩
        obtain ⟨L, hL⟩ : ∃ L, (chS X).length = L := ⟨_, rfl⟩
        have HQ1 := hid (count_q W.heap.size W.heap.size mv X L w8 H8.out.og.sg hL)
        have HQ2 := hid (nextg_q W.heap.size W.heap.size mv X (xs, xt) HXW.out N w8 H8.out.og.sg hN)
        have HQ3 := hid (rnext_q W.heap.size q v Y (xs, xt) N w8 H8.out.sf (by rw [← HE8.out]; exact H8.out.og.sg.ok) (by rw [← HE8.out]; exact hN))
        obtain ⟨vo, vc, hv⟩ := H8.out.sf.slice
        rw [H8.out.len HE8.out, hL] at hv
        have xq0 := H8.out.sf.c0
        rw [hv] at xq0
        clear hN hL hv HXA
        go_wp2_with fail
        go_quiet ((first | (go_at_call 21; exact HQ1.out _) | (go_at_call 22; exact HQ2.out _) | (go_at_call 23; exact HQ3.out _)))
        have H9 := hid (H8.out.below (below_drew w8 nq))
        clear HQ1 HQ2 HQ3 H8 R8 x1 x2 xq0
        go_wp2
        go_roundw
        case rel => exact ⟨j + 1, mv, v, X, Y, by omega, by go_num, H9, HE8, HS8⟩
        case measure => simp [intOf]; omega
      · have hd4 : decide ((j : Int) < (l.length : Int)) = false := by simp; omega
        go_wp2_with fail
        refine (awake_calls _).mono ?_
        rintro e w4 ⟨rfl, hb4⟩
        have HB4 := hid (H.out.og.bel.trans (hb4.mono H.out.og.sg.low))
        clear hb4
        go_wp2
        go_ret
        exact ⟨rfl, HB4.out⟩
end Go.Proofs.Ytejkboahjfcdcaa
