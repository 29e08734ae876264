/- The program reads a record. -/
import Derived.Test.YtpkobobandcclaaRcState
import Derived.Test.YtpkobobandcclaaHeldBy
import Derived.Laws.Rows
namespace Go.Proofs.Ytpkobobandcclaa
open Go.RowKit
set_option linter.unusedVariables false

theorem Try.infoR : (Try.prog.info? 33).map (fun i => (i.zero, i.size, i.bytes)) = some (some (.agg #[.int .i64 0, .int .i64 0, .int .i64 0, .int .i64 0, .int .i64 0, .slice none 0 0, .slice none 0 0]), 7, 88) := by kernel_rfl
theorem nums_lt (r : RecV) {n : Nat} (h : n < 7) : n < (numsR r).length := by rw [numsR_length]; omega
/-- append onto what the call owns, as one step of a region that draws its order; the slot is written out. -/
theorem step_append_at {P : Program} {ops : Array Oper} {o : Oper} {a : Act} {w : World} {K : Act → World → Prop} {Q : Exit → Act → World → Prop} {C : Prop}
    (d : Nat) (hdst : o.dst = some d) (hg : o.guard = none) (s x : Operand) (t : TypeId) (hop : o.op = Op.call { callee := Callee.builtin Builtin.append, args := #[s, x], argTypes := #[t, t] })
    (base : Nat) (e : TypeId) (i : TypeInfo) (z : Value) (size bytes : Nat) (h1 : P.underlying t = some (.slice e)) (h2 : P.info? e = some i) (h3 : i.zero = some z) (h4 : i.size = size) (h5 : i.bytes = bytes) (h6 : z.cells.size = size) (h7 : 0 < size)
    (v : Value) (n : Nat) (xs : List Value) (hs : a.eval s = v) (hown : w.ownsRow base e size v n xs)
    (ad : Addr) (m c : Nat) (news : List Value) (hx : a.eval x = .slice (some ad) m c) (hn : news.length = m * size) (hc : ∀ j u, news[j]? = some u → w.cell? (ad.add j) = some u) (h1c : ∀ u ∈ news, u.oneCell' = true)
    (b1 : n + m ≤ maxLen) (b2 : (n + m) * bytes ≤ 140737488355328) (hb : base ≤ w.heap.size)
    (hK : ∀ v' w', w'.ownsRow base e size v' (n + m) (xs ++ news) → w.grownBy w' v.ownBlock → K (a.put (some d) v') w') :
    if Region.wanted o (yielded ops a.tmps) = true then Oper.wp P o a w K Q else C :=
  step_append_own hg s x t hop base e i z size bytes h1 h2 h3 h4 h5 h6 h7 v n xs hs hown ad m c news hx hn hc h1c b1 b2 hb (by rw [hdst]; exact hK)
theorem seven_heap {w : World} {b : Nat} {t : TypeId} {z0 z1 z2 z3 z4 z5 z6 : Value} (h : w.heap[b]? = some (.cells #[z0, z1, z2, z3, z4, z5, z6] t (0, 0))) (v0 v1 v2 v3 v4 v5 v6 : Value) :
    (((((((w.setCell ⟨b, 0, none⟩ v0).setCell ⟨b, 1, none⟩ v1).setCell ⟨b, 2, none⟩ v2).setCell ⟨b, 3, none⟩ v3).setCell ⟨b, 4, none⟩ v4).setCell ⟨b, 5, none⟩ v5).setCell ⟨b, 6, none⟩ v6).heap[b]? = some (.cells #[v0, v1, v2, v3, v4, v5, v6] t (0, 0)) := by
  have h0 : (w.setCell ⟨b, 0, none⟩ v0).heap[b]? = some (.cells #[v0, z1, z2, z3, z4, z5, z6] t (0, 0)) := by rw [set_same h]; simp
  have h1 : ((w.setCell ⟨b, 0, none⟩ v0).setCell ⟨b, 1, none⟩ v1).heap[b]? = some (.cells #[v0, v1, z2, z3, z4, z5, z6] t (0, 0)) := by rw [set_same h0]; simp
  have h2 : (((w.setCell ⟨b, 0, none⟩ v0).setCell ⟨b, 1, none⟩ v1).setCell ⟨b, 2, none⟩ v2).heap[b]? = some (.cells #[v0, v1, v2, z3, z4, z5, z6] t (0, 0)) := by rw [set_same h1]; simp
  have h3 : ((((w.setCell ⟨b, 0, none⟩ v0).setCell ⟨b, 1, none⟩ v1).setCell ⟨b, 2, none⟩ v2).setCell ⟨b, 3, none⟩ v3).heap[b]? = some (.cells #[v0, v1, v2, v3, z4, z5, z6] t (0, 0)) := by rw [set_same h2]; simp
  have h4 : (((((w.setCell ⟨b, 0, none⟩ v0).setCell ⟨b, 1, none⟩ v1).setCell ⟨b, 2, none⟩ v2).setCell ⟨b, 3, none⟩ v3).setCell ⟨b, 4, none⟩ v4).heap[b]? = some (.cells #[v0, v1, v2, v3, v4, z5, z6] t (0, 0)) := by rw [set_same h3]; simp
  have h5 : ((((((w.setCell ⟨b, 0, none⟩ v0).setCell ⟨b, 1, none⟩ v1).setCell ⟨b, 2, none⟩ v2).setCell ⟨b, 3, none⟩ v3).setCell ⟨b, 4, none⟩ v4).setCell ⟨b, 5, none⟩ v5).heap[b]? = some (.cells #[v0, v1, v2, v3, v4, v5, z6] t (0, 0)) := by rw [set_same h4]; simp
  have h6 : (((((((w.setCell ⟨b, 0, none⟩ v0).setCell ⟨b, 1, none⟩ v1).setCell ⟨b, 2, none⟩ v2).setCell ⟨b, 3, none⟩ v3).setCell ⟨b, 4, none⟩ v4).setCell ⟨b, 5, none⟩ v5).setCell ⟨b, 6, none⟩ v6).heap[b]? = some (.cells #[v0, v1, v2, v3, v4, v5, v6] t (0, 0)) := by rw [set_same h5]; simp
  exact h6
theorem set_seven {w : World} {b : Nat} {t : TypeId} {z0 z1 z2 z3 z4 z5 z6 : Value} (h : w.heap[b]? = some (.cells #[z0, z1, z2, z3, z4, z5, z6] t (0, 0))) (v0 v1 v2 v3 v4 v5 v6 : Value) :
    (((((((w.setCell ⟨b, 0, none⟩ v0).setCell ⟨b, 1, none⟩ v1).setCell ⟨b, 2, none⟩ v2).setCell ⟨b, 3, none⟩ v3).setCell ⟨b, 4, none⟩ v4).setCell ⟨b, 5, none⟩ v5).setCell ⟨b, 6, none⟩ v6).heap[b]? = some (.cells #[v0, v1, v2, v3, v4, v5, v6] t (0, 0)) ∧
    Sav (Just b) w (((((((w.setCell ⟨b, 0, none⟩ v0).setCell ⟨b, 1, none⟩ v1).setCell ⟨b, 2, none⟩ v2).setCell ⟨b, 3, none⟩ v3).setCell ⟨b, 4, none⟩ v4).setCell ⟨b, 5, none⟩ v5).setCell ⟨b, 6, none⟩ v6) :=
  ⟨seven_heap h v0 v1 v2 v3 v4 v5 v6, ((((((((Sav.refl _ w).setCell (just b) 0 v0).setCell (just b) 1 v1).setCell (just b) 2 v2).setCell (just b) 3 v3).setCell (just b) 4 v4).setCell (just b) 5 v5).setCell (just b) 6 v6)⟩
/-- What is told of a reading. -/
structure Told (c : List Int) (p : Nat) (f0 f1 f2 f3 f4 : Int) (ys : List Int) (ps : List KV) (q a : Nat) (ok : Bool) : Prop where
  yl : ys.length ≤ 6
  pl : ps.length ≤ 40
  yes : ok = true → Got c p ([f0, f1, f2, f3, f4, (ys.length : Int)] ++ (ys ++ [(ps.length : Int)])) q ∧ GotP c q ps a
  no : ok = false → ∀ r, ¬ Body c p r
theorem RS.new {W : World} {X : Nat} {sb : Value} {c : List Int} {f0 f1 f2 f3 f4 : Int} {a0 a : Nat} {ok0 ok : Bool} {w : World} (h0 : Rdr X sb c a0 ok0 W) (h : Rdr X sb c a ok w) (hz : w.heap[W.heap.size]? = some (.cells #[.int .i64 0, .int .i64 0, .int .i64 0, .int .i64 0, .int .i64 0, .slice none 0 0, .slice none 0 0] 33 (0, 0))) (hs : Sav (Just X) W w) :
    RS W X sb c w.heap.size f0 f1 f2 f3 f4 (.slice none 0 0) (.slice none 0 0) [] [] a ok (w.alloc (.cells #[.int .i64 f0, .int .i64 f1, .int .i64 f2, .int .i64 f3, .int .i64 f4, .slice none 0 0, .slice none 0 0] 33)) :=
  ⟨h.below (alloc_one _ _), ⟨_, _, h0⟩, new_block _ _, World.ownsRow_nil _ _ _ _, World.ownsRow_nil _ _ _ _, ((alloc_one w _).block _ (lt_of_block hz)).trans hz, hs.alloc _, lt_of_block hz⟩

set_option maxRecDepth 100000 in
set_option maxHeartbeats 16000000 in
theorem rdrRecord_any (X : Nat) (sb : Value) (c : List Int) (p : Nat) (w : World) (h : Rdr X sb c p true w) :
    Calls Try.prog 54 #[.pointer (some ⟨X, 0, none⟩)] w fun e w' => ∃ f0 f1 f2 f3 f4 sv pv ys ps q a ok, e = .returned (.agg #[.int .i64 f0, .int .i64 f1, .int .i64 f2, .int .i64 f3, .int .i64 f4, sv, pv]) ∧ Rdr X sb c a ok w' ∧ w'.ownsRow w.heap.size 3 1 sv ys.length (ict ys) ∧ w'.ownsRow w.heap.size 57 2 pv ps.length (fl encP ps) ∧ Sav (Just X) w w' ∧ Told c p f0 f1 f2 f3 f4 ys ps q a ok := by
  have H := hid h
  have hlt := lt_of_block h.blk
  have HX := hid (show w.heap.size ≠ X by omega)
  have HY := hid h.byt
  have A0 := hid (h.below (alloc_one w (.cells #[.int .i64 0, .int .i64 0, .int .i64 0, .int .i64 0, .int .i64 0, .slice none 0 0, .slice none 0 0] 33)))
  have Z0 := hid (new_block w (.cells #[.int .i64 0, .int .i64 0, .int .i64 0, .int .i64 0, .int .i64 0, .slice none 0 0, .slice none 0 0] 33))
  have S0 := hid ((Sav.refl (Just X) w).alloc (.cells #[.int .i64 0, .int .i64 0, .int .i64 0, .int .i64 0, .int .i64 0, .slice none 0 0, .slice none 0 0] 33))
  have N0 := hid (NSt.start c p h.le)
  obtain ⟨i0, hi, hz0, hz1, hz2⟩ := info_parts Try.info3
  clear h
  go_enter Try.func54, Try.ntmps54
  go_wp2_with fail
  refine (rdrNum_any X sb c _ _ _ A0.out).mono ?_
  rintro e w1 ⟨f0, a1, k1, rfl, h1, s1, n1⟩
  have A1 := hid h1
  have S1 := hid (S0.out.trans s1)
  have Z1 := hid (s1.at Z0.out HX.out)
  have N1 := hid (N0.out.num HY.out n1 (fun _ r _ => nums_lt r (by simp)))
  clear A0 S0 Z0 N0 h1 s1 n1
  go_wp2_with fail
  refine (rdrNum_any X sb c _ _ _ A1.out).mono ?_
  rintro e w2 ⟨f1, a2, k2, rfl, h1, s1, n1⟩
  have A2 := hid h1
  have S2 := hid (S1.out.trans s1)
  have Z2 := hid (s1.at Z1.out HX.out)
  have N2 := hid (N1.out.num HY.out n1 (fun _ r _ => nums_lt r (by simp)))
  clear A1 S1 Z1 N1 h1 s1 n1
  go_wp2_with fail
  refine (rdrNum_any X sb c _ _ _ A2.out).mono ?_
  rintro e w3 ⟨f2, a3, k3, rfl, h1, s1, n1⟩
  have A3 := hid h1
  have S3 := hid (S2.out.trans s1)
  have Z3 := hid (s1.at Z2.out HX.out)
  have N3 := hid (N2.out.num HY.out n1 (fun _ r _ => nums_lt r (by simp)))
  clear A2 S2 Z2 N2 h1 s1 n1
  go_wp2_with fail
  refine (rdrNum_any X sb c _ _ _ A3.out).mono ?_
  rintro e w4 ⟨f3, a4, k4, rfl, h1, s1, n1⟩
  have A4 := hid h1
  have S4 := hid (S3.out.trans s1)
  have Z4 := hid (s1.at Z3.out HX.out)
  have N4 := hid (N3.out.num HY.out n1 (fun _ r _ => nums_lt r (by simp)))
  clear A3 S3 Z3 N3 h1 s1 n1
  go_wp2_with fail
  refine (rdrNum_any X sb c _ _ _ A4.out).mono ?_
  rintro e w5 ⟨f4, a5, k5, rfl, h1, s1, n1⟩
  have A5 := hid h1
  have S5 := hid (S4.out.trans s1)
  have Z5 := hid (s1.at Z4.out HX.out)
  have N5 := hid (N4.out.num HY.out n1 (fun _ r _ => nums_lt r (by simp)))
  clear A4 S4 Z4 N4 h1 s1 n1
  have RS0 := hid (RS.new (f0 := f0) (f1 := f1) (f2 := f2) (f3 := f3) (f4 := f4) H.out A5.out Z5.out S5.out)
  simp only [List.nil_append, List.cons_append] at N5
  clear A5 S5 Z5
  go_wp2_with fail
  refine (rdrCount_any X sb c _ _ 6 _ RS0.out.rd (by decide)).mono ?_
  rintro e w6 ⟨n, a6, k6, rfl, h1, s1, n1⟩
  have RS1 := hid (RS0.out.goes h1 s1)
  have N6 := hid (N5.out.count HY.out n1 (fun _ r _ => nums_lt r (by simp)) (fun x hg r k => by
    have h6 := (Got.six hg k).2.2.2.2.2
    have h7 := (may_fit k.1).slen
    exact inI_iff.2 ⟨by omega, by omega⟩))
  obtain ⟨m, rfl⟩ := Int.eq_ofNat_of_zero_le n1.lo
  have hm6 : m ≤ 6 := by have := n1.hi; omega
  simp only [List.nil_append, List.cons_append] at N6
  clear RS0 N5 h1 s1 n1
  go_wp2
  go_loopw [17] (fun i wr => ∃ k : Nat, k ≤ m ∧ i = .int .i64 k ∧ ∃ sv ys a ok, ys.length = k ∧ RS w X sb c w5.heap.size f0 f1 f2 f3 f4 sv (.slice none 0 0) ys [] a ok wr ∧ NSt c p ([f0, f1, f2, f3, f4, (m : Int)] ++ ys) ok a) (fun i _ => m - (intOf i).toNat)
  case atStart => exact ⟨0, by omega, rfl, _, [], _, _, rfl, RS1.out, by rw [List.append_nil]; exact N6.out⟩
  case round =>
    obtain ⟨k, hk, rfl, sv, ys, a, ok, hyl, hrs, hn⟩ := hrel
    have HS := hid hrs
    have HN := hid hn
    have HL := hid hyl
    clear hrs hn hyl RS1 N6
    by_cases hlt : k < m
    · have hd : decide ((k : Int) < (m : Int)) = true := by simp; omega
      have c5 : wr.cell? ⟨w5.heap.size, 5, none⟩ = some sv := cell_of_cells HS.out.rcd
      go_wp2
      refine wp_region_held_drew (S := fun _ => True) (by kernel_rfl) trivial (fun hHeld => ?_)
      refine takeH 0 19 (.pointer (some ⟨w5.heap.size, 5, none⟩)) rfl rfl (by kernel_rfl) (by kernel_rfl) (by kernel_rfl) (fun _ _ _ h => h) (by rfl) ?_ trivial ?_
      · intro w' hSw
        go_simp
      try simp only [Act.put, List.setIfInBounds_toArray, List.set_cons_zero, List.set_cons_succ]
      refine takeH 2 21 (.pointer (some ⟨X, 0, none⟩)) rfl rfl (by kernel_rfl) (by kernel_rfl) (by kernel_rfl) (fun _ _ _ h => h) (by rfl) ?_ trivial ?_
      · intro w' hSw
        go_simp
      try simp only [Act.put, List.setIfInBounds_toArray, List.set_cons_zero, List.set_cons_succ]
      refine wpAnyH_ready (rs := [1, 3]) (by kernel_rfl) (by simp) (nextH 1 rfl (by rfl) (fun K hK => ?_) (nextH 3 rfl (by rfl) (fun K hK => ?_) AllReadyH.nil))
      · go_simp
        refine hK.out _ _ trivial (fun hHeld => ?_)
        clear hK K
        try simp only [Act.put, List.setIfInBounds_toArray, List.set_cons_zero, List.set_cons_succ]
        refine wpAnyH_ready (rs := [3]) (by kernel_rfl) (by simp) (nextH 3 rfl (by rfl) (fun K hK => ?_) AllReadyH.nil)
        go_simp
        refine (rdrNum_any X sb c _ _ _ (HS.out.on (below_drew1 _)).rd).mono ?_
        rintro e w7 ⟨x, a7, ok7, rfl, h7, s7, n7⟩
        have H7 := hid ((HS.out.on (below_drew1 _)).goes h7 s7)
        have N7 := hid n7
        have q5 : w7.cell? ⟨w5.heap.size, 5, none⟩ = some sv := cell_of_cells H7.out.rcd
        clear h7 s7 n7
        refine hK.out _ _ trivial (fun hHeld => ?_)
        clear hK K
        try simp only [Act.put, List.setIfInBounds_toArray, List.set_cons_zero, List.set_cons_succ]
        refine wpAnyH_ready (rs := [4]) (by kernel_rfl) (by simp) (nextH 4 rfl (by rfl) (fun K hK => ?_) AllReadyH.nil)
        go_simp
        refine hK.out _ _ trivial (fun hHeld => ?_)
        clear hK K
        try simp only [Act.put, List.setIfInBounds_toArray, List.set_cons_zero, List.set_cons_succ]
        have HX := hid (H7.out.on (alloc_one w7 (.cells #[.int .i64 x] 3)))
        have hsz := HX.out.low
        refine wpAnyH_ready (rs := [5]) (by kernel_rfl) (by simp) (AllReadyH.cons rfl (fun K hK => ?_) AllReadyH.nil)
        refine step_append_at 24 rfl rfl (.tmp 20) (.tmp 23) 30 rfl w.heap.size 3 i0 _ 1 8 Try.underlying30 hi hz0 hz1 hz2 rfl (by decide) sv ys.length (ict ys) (by simp [Act.eval]) HX.out.set ⟨w7.heap.size, 0, none⟩ 1 1 [.int .i64 x] (by simp [Act.eval]) rfl (one_new w7 _ _) (by intro u hu; simp at hu; subst hu; rfl) (by have := HL.out; unfold maxLen; omega) (by have := HL.out; omega) hsz ?_
        intro v1 w2 ho1 hg1
        have HP := hid (HX.out.pushSet ho1 hg1)
        have hq5 : w2.heap[w5.heap.size]? = _ := grown_at HX.out.set hg1 HX.out.rcd (by decide)
        have e5 : w2.cell? ⟨w5.heap.size, 5, none⟩ = some sv := cell_of_cells hq5
        have g5 : w2.frozen? ⟨w5.heap.size, 5, none⟩ = false := free_of_cells hq5
        obtain ⟨ao1, cc1, rfl⟩ := owns_slice ho1
        clear ho1 hg1 hq5
        refine hK.out _ _ trivial (fun hHeld => ?_)
        clear hK K
        try simp only [Act.put, List.setIfInBounds_toArray, List.set_cons_zero, List.set_cons_succ]
        refine takeH 6 25 (.pointer (some ⟨w5.heap.size, 5, none⟩)) rfl rfl (by kernel_rfl) (by kernel_rfl) (by kernel_rfl) (fun _ _ _ h => h) (by rfl) ?_ trivial ?_
        · intro w' hSw
          go_simp
        try simp only [Act.put, List.setIfInBounds_toArray, List.set_cons_zero, List.set_cons_succ]
        refine wpAnyH_ready (rs := [7]) (by kernel_rfl) (by simp) (nextH 7 rfl (by rfl) (fun K hK => ?_) AllReadyH.nil)
        go_simp
        refine hK.out _ _ trivial (fun hHeld => ?_)
        clear hK K
        try simp only [Act.put, List.setIfInBounds_toArray, List.set_cons_zero, List.set_cons_succ]
        refine wpAnyH_done (by kernel_rfl) ?_ _
        have HN7 := hid (show NSt c p ([f0, f1, f2, f3, f4, (m : Int)] ++ (ys ++ [x])) ok7 a7 by
          rw [← List.append_assoc]
          refine HN.out.num HY.out N7.out fun hg r hb => ?_
          have h6 := (Got.six hg.pre hb).2.2.2.2.2
          have h8 := HL.out
          rw [numsR_length, List.length_append]
          simp only [List.length_cons, List.length_nil]
          omega)
        go_wp2
        go_roundw
        case rel => exact ⟨k + 1, by omega, by go_num, _, ys ++ [x], a7, ok7, by rw [List.length_append, HL.out]; rfl, HP.out, HN7.out⟩
        case measure => simp [intOf]; omega
      · go_simp
        refine (rdrNum_any X sb c _ _ _ (HS.out.on (below_drew1 _)).rd).mono ?_
        rintro e w7 ⟨x, a7, ok7, rfl, h7, s7, n7⟩
        have H7 := hid ((HS.out.on (below_drew1 _)).goes h7 s7)
        have N7 := hid n7
        have q5 : w7.cell? ⟨w5.heap.size, 5, none⟩ = some sv := cell_of_cells H7.out.rcd
        clear h7 s7 n7
        refine hK.out _ _ trivial (fun hHeld => ?_)
        clear hK K
        try simp only [Act.put, List.setIfInBounds_toArray, List.set_cons_zero, List.set_cons_succ]
        refine wpAnyH_ready (rs := [1, 4]) (by kernel_rfl) (by simp) (nextH 1 rfl (by rfl) (fun K hK => ?_) (nextH 4 rfl (by rfl) (fun K hK => ?_) AllReadyH.nil))
        · go_simp
          refine hK.out _ _ trivial (fun hHeld => ?_)
          clear hK K
          try simp only [Act.put, List.setIfInBounds_toArray, List.set_cons_zero, List.set_cons_succ]
          refine wpAnyH_ready (rs := [4]) (by kernel_rfl) (by simp) (nextH 4 rfl (by rfl) (fun K hK => ?_) AllReadyH.nil)
          go_simp
          refine hK.out _ _ trivial (fun hHeld => ?_)
          clear hK K
          try simp only [Act.put, List.setIfInBounds_toArray, List.set_cons_zero, List.set_cons_succ]
          have HX := hid (H7.out.on (alloc_one w7 (.cells #[.int .i64 x] 3)))
          have hsz := HX.out.low
          refine wpAnyH_ready (rs := [5]) (by kernel_rfl) (by simp) (AllReadyH.cons rfl (fun K hK => ?_) AllReadyH.nil)
          refine step_append_at 24 rfl rfl (.tmp 20) (.tmp 23) 30 rfl w.heap.size 3 i0 _ 1 8 Try.underlying30 hi hz0 hz1 hz2 rfl (by decide) sv ys.length (ict ys) (by simp [Act.eval]) HX.out.set ⟨w7.heap.size, 0, none⟩ 1 1 [.int .i64 x] (by simp [Act.eval]) rfl (one_new w7 _ _) (by intro u hu; simp at hu; subst hu; rfl) (by have := HL.out; unfold maxLen; omega) (by have := HL.out; omega) hsz ?_
          intro v1 w2 ho1 hg1
          have HP := hid (HX.out.pushSet ho1 hg1)
          have hq5 : w2.heap[w5.heap.size]? = _ := grown_at HX.out.set hg1 HX.out.rcd (by decide)
          have e5 : w2.cell? ⟨w5.heap.size, 5, none⟩ = some sv := cell_of_cells hq5
          have g5 : w2.frozen? ⟨w5.heap.size, 5, none⟩ = false := free_of_cells hq5
          obtain ⟨ao1, cc1, rfl⟩ := owns_slice ho1
          clear ho1 hg1 hq5
          refine hK.out _ _ trivial (fun hHeld => ?_)
          clear hK K
          try simp only [Act.put, List.setIfInBounds_toArray, List.set_cons_zero, List.set_cons_succ]
          refine takeH 6 25 (.pointer (some ⟨w5.heap.size, 5, none⟩)) rfl rfl (by kernel_rfl) (by kernel_rfl) (by kernel_rfl) (fun _ _ _ h => h) (by rfl) ?_ trivial ?_
          · intro w' hSw
            go_simp
          try simp only [Act.put, List.setIfInBounds_toArray, List.set_cons_zero, List.set_cons_succ]
          refine wpAnyH_ready (rs := [7]) (by kernel_rfl) (by simp) (nextH 7 rfl (by rfl) (fun K hK => ?_) AllReadyH.nil)
          go_simp
          refine hK.out _ _ trivial (fun hHeld => ?_)
          clear hK K
          try simp only [Act.put, List.setIfInBounds_toArray, List.set_cons_zero, List.set_cons_succ]
          refine wpAnyH_done (by kernel_rfl) ?_ _
          have HN7 := hid (show NSt c p ([f0, f1, f2, f3, f4, (m : Int)] ++ (ys ++ [x])) ok7 a7 by
            rw [← List.append_assoc]
            refine HN.out.num HY.out N7.out fun hg r hb => ?_
            have h6 := (Got.six hg.pre hb).2.2.2.2.2
            have h8 := HL.out
            rw [numsR_length, List.length_append]
            simp only [List.length_cons, List.length_nil]
            omega)
          go_wp2
          go_roundw
          case rel => exact ⟨k + 1, by omega, by go_num, _, ys ++ [x], a7, ok7, by rw [List.length_append, HL.out]; rfl, HP.out, HN7.out⟩
          case measure => simp [intOf]; omega
        · go_simp
          refine hK.out _ _ trivial (fun hHeld => ?_)
          clear hK K
          try simp only [Act.put, List.setIfInBounds_toArray, List.set_cons_zero, List.set_cons_succ]
          have q6 : (w7.alloc (.cells #[.int .i64 x] 3)).cell? ⟨w5.heap.size, 5, none⟩ = some sv := cell_of_cells (H7.out.on (alloc_one w7 (.cells #[.int .i64 x] 3))).rcd
          refine wpAnyH_ready (rs := [1]) (by kernel_rfl) (by simp) (nextH 1 rfl (by rfl) (fun K hK => ?_) AllReadyH.nil)
          go_simp
          refine hK.out _ _ trivial (fun hHeld => ?_)
          clear hK K
          try simp only [Act.put, List.setIfInBounds_toArray, List.set_cons_zero, List.set_cons_succ]
          have HX := hid (H7.out.on (alloc_one w7 (.cells #[.int .i64 x] 3)))
          have hsz := HX.out.low
          refine wpAnyH_ready (rs := [5]) (by kernel_rfl) (by simp) (AllReadyH.cons rfl (fun K hK => ?_) AllReadyH.nil)
          refine step_append_at 24 rfl rfl (.tmp 20) (.tmp 23) 30 rfl w.heap.size 3 i0 _ 1 8 Try.underlying30 hi hz0 hz1 hz2 rfl (by decide) sv ys.length (ict ys) (by simp [Act.eval]) HX.out.set ⟨w7.heap.size, 0, none⟩ 1 1 [.int .i64 x] (by simp [Act.eval]) rfl (one_new w7 _ _) (by intro u hu; simp at hu; subst hu; rfl) (by have := HL.out; unfold maxLen; omega) (by have := HL.out; omega) hsz ?_
          intro v1 w2 ho1 hg1
          have HP := hid (HX.out.pushSet ho1 hg1)
          have hq5 : w2.heap[w5.heap.size]? = _ := grown_at HX.out.set hg1 HX.out.rcd (by decide)
          have e5 : w2.cell? ⟨w5.heap.size, 5, none⟩ = some sv := cell_of_cells hq5
          have g5 : w2.frozen? ⟨w5.heap.size, 5, none⟩ = false := free_of_cells hq5
          obtain ⟨ao1, cc1, rfl⟩ := owns_slice ho1
          clear ho1 hg1 hq5
          refine hK.out _ _ trivial (fun hHeld => ?_)
          clear hK K
          try simp only [Act.put, List.setIfInBounds_toArray, List.set_cons_zero, List.set_cons_succ]
          refine takeH 6 25 (.pointer (some ⟨w5.heap.size, 5, none⟩)) rfl rfl (by kernel_rfl) (by kernel_rfl) (by kernel_rfl) (fun _ _ _ h => h) (by rfl) ?_ trivial ?_
          · intro w' hSw
            go_simp
          try simp only [Act.put, List.setIfInBounds_toArray, List.set_cons_zero, List.set_cons_succ]
          refine wpAnyH_ready (rs := [7]) (by kernel_rfl) (by simp) (nextH 7 rfl (by rfl) (fun K hK => ?_) AllReadyH.nil)
          go_simp
          refine hK.out _ _ trivial (fun hHeld => ?_)
          clear hK K
          try simp only [Act.put, List.setIfInBounds_toArray, List.set_cons_zero, List.set_cons_succ]
          refine wpAnyH_done (by kernel_rfl) ?_ _
          have HN7 := hid (show NSt c p ([f0, f1, f2, f3, f4, (m : Int)] ++ (ys ++ [x])) ok7 a7 by
            rw [← List.append_assoc]
            refine HN.out.num HY.out N7.out fun hg r hb => ?_
            have h6 := (Got.six hg.pre hb).2.2.2.2.2
            have h8 := HL.out
            rw [numsR_length, List.length_append]
            simp only [List.length_cons, List.length_nil]
            omega)
          go_wp2
          go_roundw
          case rel => exact ⟨k + 1, by omega, by go_num, _, ys ++ [x], a7, ok7, by rw [List.length_append, HL.out]; rfl, HP.out, HN7.out⟩
          case measure => simp [intOf]; omega
    · have hd : decide ((k : Int) < (m : Int)) = false := by simp; omega
      have HM := hid (show (m : Int) = (ys.length : Int) by have := HL.out; omega)
      have hy6 := hid (show ys.length ≤ 6 by have := HL.out; omega)
      go_wp2_with fail
      refine (rdrCount_any X sb c _ _ 40 _ HS.out.rd (by decide)).mono ?_
      rintro e w10 ⟨n2, q, k10, rfl, h1, s1, n1⟩
      have RS2 := hid (HS.out.goes h1 s1)
      have N11 := hid (show NSt c p ([f0, f1, f2, f3, f4, (ys.length : Int)] ++ (ys ++ [n2])) k10 q by
        have hn := HN.out
        rw [HM.out] at hn
        rw [← List.append_assoc]
        refine hn.count HY.out n1 (fun hg r hb => ?_) (fun x hg r hb => ?_)
        · have h6 := (Got.six hg.pre hb).2.2.2.2.2
          rw [numsR_length, List.length_append]
          simp only [List.length_cons, List.length_nil]
          omega
        · rw [List.append_assoc] at hg
          have h7 := (Got.all hg hb).2.2.2.2.2.2.1
          have h8 := (may_fit hb.1).plen
          exact inI_iff.2 ⟨by omega, by omega⟩)
      obtain ⟨m2, rfl⟩ := Int.eq_ofNat_of_zero_le n1.lo
      have hm40 : m2 ≤ 40 := by have := n1.hi; omega
      clear HS HN h1 s1 n1
      obtain ⟨i1, hj, hw0, hw1, hw2⟩ := info_parts Try.infoP
      go_wp2
      go_loopw [29] (fun i wr => ∃ k : Nat, k ≤ m2 ∧ i = .int .i64 k ∧ ∃ pv ps a ok, ps.length = k ∧ RS w X sb c w5.heap.size f0 f1 f2 f3 f4 sv pv ys ps a ok wr ∧ PSt c p q ([f0, f1, f2, f3, f4, (ys.length : Int)] ++ (ys ++ [(m2 : Int)])) ps ok a) (fun i _ => m2 - (intOf i).toNat)
      case atStart => exact ⟨0, by omega, rfl, _, [], _, _, rfl, RS2.out, PSt.start N11.out⟩
      case round =>
        obtain ⟨k, hk, rfl, pv, ps, a, ok, hyl, hrs, hn⟩ := hrel
        have HS := hid hrs
        have HN2 := hid hn
        have HL2 := hid hyl
        clear hrs hn hyl RS2 N11 HL HM
        by_cases hlt : k < m2
        · have hd : decide ((k : Int) < (m2 : Int)) = true := by simp; omega
          have c6 : wr.cell? ⟨w5.heap.size, 6, none⟩ = some pv := cell_of_cells HS.out.rcd
          go_wp2
          refine wp_region_held_drew (S := fun _ => True) (by kernel_rfl) trivial (fun hHeld => ?_)
          refine takeH 0 31 (.pointer (some ⟨w5.heap.size, 6, none⟩)) rfl rfl (by kernel_rfl) (by kernel_rfl) (by kernel_rfl) (fun _ _ _ h => h) (by rfl) ?_ trivial ?_
          · intro w' hSw
            go_simp
          try simp only [Act.put, List.setIfInBounds_toArray, List.set_cons_zero, List.set_cons_succ]
          refine takeH 2 33 (.pointer (some ⟨X, 0, none⟩)) rfl rfl (by kernel_rfl) (by kernel_rfl) (by kernel_rfl) (fun _ _ _ h => h) (by rfl) ?_ trivial ?_
          · intro w' hSw
            go_simp
          try simp only [Act.put, List.setIfInBounds_toArray, List.set_cons_zero, List.set_cons_succ]
          refine takeH 4 35 (.pointer (some ⟨X, 0, none⟩)) rfl rfl (by kernel_rfl) (by kernel_rfl) (by kernel_rfl) (fun _ _ _ h => h) (by rfl) ?_ trivial ?_
          · intro w' hSw
            go_simp
          try simp only [Act.put, List.setIfInBounds_toArray, List.set_cons_zero, List.set_cons_succ]
          refine wpAnyH_ready (rs := [1, 3]) (by kernel_rfl) (by simp) (nextH 1 rfl (by rfl) (fun K hK => ?_) (nextH 3 rfl (by rfl) (fun K hK => ?_) AllReadyH.nil))
          · go_simp
            refine hK.out _ _ trivial (fun hHeld => ?_)
            clear hK K
            try simp only [Act.put, List.setIfInBounds_toArray, List.set_cons_zero, List.set_cons_succ]
            refine wpAnyH_ready (rs := [3]) (by kernel_rfl) (by simp) (nextH 3 rfl (by rfl) (fun K hK => ?_) AllReadyH.nil)
            go_simp
            refine (rdrText_any X sb c _ _ _ (HS.out.on (below_drew1 _)).rd).mono ?_
            rintro e w8 ⟨s, a8, ok8, rfl, h8, s8, n8⟩
            have H8 := hid ((HS.out.on (below_drew1 _)).goes h8 s8)
            have N8 := hid n8
            have p8 : w8.cell? ⟨w5.heap.size, 6, none⟩ = some pv := cell_of_cells H8.out.rcd
            clear h8 s8 n8
            refine hK.out _ _ trivial (fun hHeld => ?_)
            clear hK K
            try simp only [Act.put, List.setIfInBounds_toArray, List.set_cons_zero, List.set_cons_succ]
            refine wpAnyH_ready (rs := [5]) (by kernel_rfl) (by simp) (nextH 5 rfl (by rfl) (fun K hK => ?_) AllReadyH.nil)
            go_simp
            refine (rdrText_any X sb c _ _ _ (H8.out).rd).mono ?_
            rintro e w9 ⟨u, a9, ok9, rfl, h9, s9, n9⟩
            have H9 := hid ((H8.out).goes h9 s9)
            have N9 := hid n9
            have p9 : w9.cell? ⟨w5.heap.size, 6, none⟩ = some pv := cell_of_cells H9.out.rcd
            clear h9 s9 n9
            refine hK.out _ _ trivial (fun hHeld => ?_)
            clear hK K
            try simp only [Act.put, List.setIfInBounds_toArray, List.set_cons_zero, List.set_cons_succ]
            refine takeH 6 37 (.agg #[.string s, .string u]) rfl rfl (by kernel_rfl) (by kernel_rfl) (by kernel_rfl) (fun _ _ _ h => h) (by rfl) ?_ trivial ?_
            · intro w' hSw
              go_simp
            try simp only [Act.put, List.setIfInBounds_toArray, List.set_cons_zero, List.set_cons_succ]
            refine wpAnyH_ready (rs := [7]) (by kernel_rfl) (by simp) (nextH 7 rfl (by rfl) (fun K hK => ?_) AllReadyH.nil)
            go_simp
            refine hK.out _ _ trivial (fun hHeld => ?_)
            clear hK K
            try simp only [Act.put, List.setIfInBounds_toArray, List.set_cons_zero, List.set_cons_succ]
            have HX := hid (H9.out.on (alloc_one w9 (.cells #[.string s, .string u] 57)))
            have hsz := HX.out.low
            refine wpAnyH_ready (rs := [8]) (by kernel_rfl) (by simp) (AllReadyH.cons rfl (fun K hK => ?_) AllReadyH.nil)
            refine step_append_at 39 rfl rfl (.tmp 32) (.tmp 38) 31 rfl w.heap.size 57 i1 _ 2 32 Try.underlying31 hj hw0 hw1 hw2 rfl (by decide) pv ps.length (fl encP ps) (by simp [Act.eval]) HX.out.prs ⟨w9.heap.size, 0, none⟩ 1 1 [.string s, .string u] (by simp [Act.eval]) rfl (two_new w9 _ _ _) (by intro u hu; simp at hu; rcases hu with rfl | rfl <;> rfl) (by have := HL2.out; unfold maxLen; omega) (by have := HL2.out; omega) hsz ?_
            intro v1 w2 ho1 hg1
            have HP := hid (HX.out.pushPair (x := (s, u)) ho1 hg1)
            have hq5 : w2.heap[w5.heap.size]? = _ := grown_at HX.out.prs hg1 HX.out.rcd (by decide)
            have e5 : w2.cell? ⟨w5.heap.size, 6, none⟩ = some pv := cell_of_cells hq5
            have g5 : w2.frozen? ⟨w5.heap.size, 6, none⟩ = false := free_of_cells hq5
            obtain ⟨ao1, cc1, rfl⟩ := owns_slice ho1
            clear ho1 hg1 hq5
            refine hK.out _ _ trivial (fun hHeld => ?_)
            clear hK K
            try simp only [Act.put, List.setIfInBounds_toArray, List.set_cons_zero, List.set_cons_succ]
            refine takeH 9 40 (.pointer (some ⟨w5.heap.size, 6, none⟩)) rfl rfl (by kernel_rfl) (by kernel_rfl) (by kernel_rfl) (fun _ _ _ h => h) (by rfl) ?_ trivial ?_
            · intro w' hSw
              go_simp
            try simp only [Act.put, List.setIfInBounds_toArray, List.set_cons_zero, List.set_cons_succ]
            refine wpAnyH_ready (rs := [10]) (by kernel_rfl) (by simp) (nextH 10 rfl (by rfl) (fun K hK => ?_) AllReadyH.nil)
            go_simp
            refine hK.out _ _ trivial (fun hHeld => ?_)
            clear hK K
            try simp only [Act.put, List.setIfInBounds_toArray, List.set_cons_zero, List.set_cons_succ]
            refine wpAnyH_done (by kernel_rfl) ?_ _
            have HN7 := hid (HN2.out.pair HY.out N8.out N9.out fun hg r hb => by
              obtain ⟨e0, e1, e2, e3, e4, e5, e6, e7⟩ := Got.all hg hb
              have h8 := HL2.out
              exact ⟨fitP_small (may_fit hb.1).prs, e7, by omega⟩)
            go_wp2
            go_roundw
            case rel => exact ⟨k + 1, by omega, by go_num, _, ps ++ [(s, u)], a9, ok9, by rw [List.length_append, HL2.out]; rfl, HP.out, HN7.out⟩
            case measure => simp [intOf]; omega
          · go_simp
            refine (rdrText_any X sb c _ _ _ (HS.out.on (below_drew1 _)).rd).mono ?_
            rintro e w8 ⟨s, a8, ok8, rfl, h8, s8, n8⟩
            have H8 := hid ((HS.out.on (below_drew1 _)).goes h8 s8)
            have N8 := hid n8
            have p8 : w8.cell? ⟨w5.heap.size, 6, none⟩ = some pv := cell_of_cells H8.out.rcd
            clear h8 s8 n8
            refine hK.out _ _ trivial (fun hHeld => ?_)
            clear hK K
            try simp only [Act.put, List.setIfInBounds_toArray, List.set_cons_zero, List.set_cons_succ]
            refine wpAnyH_ready (rs := [1, 5]) (by kernel_rfl) (by simp) (nextH 1 rfl (by rfl) (fun K hK => ?_) (nextH 5 rfl (by rfl) (fun K hK => ?_) AllReadyH.nil))
            · go_simp
              refine hK.out _ _ trivial (fun hHeld => ?_)
              clear hK K
              try simp only [Act.put, List.setIfInBounds_toArray, List.set_cons_zero, List.set_cons_succ]
              refine wpAnyH_ready (rs := [5]) (by kernel_rfl) (by simp) (nextH 5 rfl (by rfl) (fun K hK => ?_) AllReadyH.nil)
              go_simp
              refine (rdrText_any X sb c _ _ _ (H8.out).rd).mono ?_
              rintro e w9 ⟨u, a9, ok9, rfl, h9, s9, n9⟩
              have H9 := hid ((H8.out).goes h9 s9)
              have N9 := hid n9
              have p9 : w9.cell? ⟨w5.heap.size, 6, none⟩ = some pv := cell_of_cells H9.out.rcd
              clear h9 s9 n9
              refine hK.out _ _ trivial (fun hHeld => ?_)
              clear hK K
              try simp only [Act.put, List.setIfInBounds_toArray, List.set_cons_zero, List.set_cons_succ]
              refine takeH 6 37 (.agg #[.string s, .string u]) rfl rfl (by kernel_rfl) (by kernel_rfl) (by kernel_rfl) (fun _ _ _ h => h) (by rfl) ?_ trivial ?_
              · intro w' hSw
                go_simp
              try simp only [Act.put, List.setIfInBounds_toArray, List.set_cons_zero, List.set_cons_succ]
              refine wpAnyH_ready (rs := [7]) (by kernel_rfl) (by simp) (nextH 7 rfl (by rfl) (fun K hK => ?_) AllReadyH.nil)
              go_simp
              refine hK.out _ _ trivial (fun hHeld => ?_)
              clear hK K
              try simp only [Act.put, List.setIfInBounds_toArray, List.set_cons_zero, List.set_cons_succ]
              have HX := hid (H9.out.on (alloc_one w9 (.cells #[.string s, .string u] 57)))
              have hsz := HX.out.low
              refine wpAnyH_ready (rs := [8]) (by kernel_rfl) (by simp) (AllReadyH.cons rfl (fun K hK => ?_) AllReadyH.nil)
              refine step_append_at 39 rfl rfl (.tmp 32) (.tmp 38) 31 rfl w.heap.size 57 i1 _ 2 32 Try.underlying31 hj hw0 hw1 hw2 rfl (by decide) pv ps.length (fl encP ps) (by simp [Act.eval]) HX.out.prs ⟨w9.heap.size, 0, none⟩ 1 1 [.string s, .string u] (by simp [Act.eval]) rfl (two_new w9 _ _ _) (by intro u hu; simp at hu; rcases hu with rfl | rfl <;> rfl) (by have := HL2.out; unfold maxLen; omega) (by have := HL2.out; omega) hsz ?_
              intro v1 w2 ho1 hg1
              have HP := hid (HX.out.pushPair (x := (s, u)) ho1 hg1)
              have hq5 : w2.heap[w5.heap.size]? = _ := grown_at HX.out.prs hg1 HX.out.rcd (by decide)
              have e5 : w2.cell? ⟨w5.heap.size, 6, none⟩ = some pv := cell_of_cells hq5
              have g5 : w2.frozen? ⟨w5.heap.size, 6, none⟩ = false := free_of_cells hq5
              obtain ⟨ao1, cc1, rfl⟩ := owns_slice ho1
              clear ho1 hg1 hq5
              refine hK.out _ _ trivial (fun hHeld => ?_)
              clear hK K
              try simp only [Act.put, List.setIfInBounds_toArray, List.set_cons_zero, List.set_cons_succ]
              refine takeH 9 40 (.pointer (some ⟨w5.heap.size, 6, none⟩)) rfl rfl (by kernel_rfl) (by kernel_rfl) (by kernel_rfl) (fun _ _ _ h => h) (by rfl) ?_ trivial ?_
              · intro w' hSw
                go_simp
              try simp only [Act.put, List.setIfInBounds_toArray, List.set_cons_zero, List.set_cons_succ]
              refine wpAnyH_ready (rs := [10]) (by kernel_rfl) (by simp) (nextH 10 rfl (by rfl) (fun K hK => ?_) AllReadyH.nil)
              go_simp
              refine hK.out _ _ trivial (fun hHeld => ?_)
              clear hK K
              try simp only [Act.put, List.setIfInBounds_toArray, List.set_cons_zero, List.set_cons_succ]
              refine wpAnyH_done (by kernel_rfl) ?_ _
              have HN7 := hid (HN2.out.pair HY.out N8.out N9.out fun hg r hb => by
                obtain ⟨e0, e1, e2, e3, e4, e5, e6, e7⟩ := Got.all hg hb
                have h8 := HL2.out
                exact ⟨fitP_small (may_fit hb.1).prs, e7, by omega⟩)
              go_wp2
              go_roundw
              case rel => exact ⟨k + 1, by omega, by go_num, _, ps ++ [(s, u)], a9, ok9, by rw [List.length_append, HL2.out]; rfl, HP.out, HN7.out⟩
              case measure => simp [intOf]; omega
            · go_simp
              refine (rdrText_any X sb c _ _ _ (H8.out).rd).mono ?_
              rintro e w9 ⟨u, a9, ok9, rfl, h9, s9, n9⟩
              have H9 := hid ((H8.out).goes h9 s9)
              have N9 := hid n9
              have p9 : w9.cell? ⟨w5.heap.size, 6, none⟩ = some pv := cell_of_cells H9.out.rcd
              clear h9 s9 n9
              refine hK.out _ _ trivial (fun hHeld => ?_)
              clear hK K
              try simp only [Act.put, List.setIfInBounds_toArray, List.set_cons_zero, List.set_cons_succ]
              refine takeH 6 37 (.agg #[.string s, .string u]) rfl rfl (by kernel_rfl) (by kernel_rfl) (by kernel_rfl) (fun _ _ _ h => h) (by rfl) ?_ trivial ?_
              · intro w' hSw
                go_simp
              try simp only [Act.put, List.setIfInBounds_toArray, List.set_cons_zero, List.set_cons_succ]
              refine wpAnyH_ready (rs := [1, 7]) (by kernel_rfl) (by simp) (nextH 1 rfl (by rfl) (fun K hK => ?_) (nextH 7 rfl (by rfl) (fun K hK => ?_) AllReadyH.nil))
              · go_simp
                refine hK.out _ _ trivial (fun hHeld => ?_)
                clear hK K
                try simp only [Act.put, List.setIfInBounds_toArray, List.set_cons_zero, List.set_cons_succ]
                refine wpAnyH_ready (rs := [7]) (by kernel_rfl) (by simp) (nextH 7 rfl (by rfl) (fun K hK => ?_) AllReadyH.nil)
                go_simp
                refine hK.out _ _ trivial (fun hHeld => ?_)
                clear hK K
                try simp only [Act.put, List.setIfInBounds_toArray, List.set_cons_zero, List.set_cons_succ]
                have HX := hid (H9.out.on (alloc_one w9 (.cells #[.string s, .string u] 57)))
                have hsz := HX.out.low
                refine wpAnyH_ready (rs := [8]) (by kernel_rfl) (by simp) (AllReadyH.cons rfl (fun K hK => ?_) AllReadyH.nil)
                refine step_append_at 39 rfl rfl (.tmp 32) (.tmp 38) 31 rfl w.heap.size 57 i1 _ 2 32 Try.underlying31 hj hw0 hw1 hw2 rfl (by decide) pv ps.length (fl encP ps) (by simp [Act.eval]) HX.out.prs ⟨w9.heap.size, 0, none⟩ 1 1 [.string s, .string u] (by simp [Act.eval]) rfl (two_new w9 _ _ _) (by intro u hu; simp at hu; rcases hu with rfl | rfl <;> rfl) (by have := HL2.out; unfold maxLen; omega) (by have := HL2.out; omega) hsz ?_
                intro v1 w2 ho1 hg1
                have HP := hid (HX.out.pushPair (x := (s, u)) ho1 hg1)
                have hq5 : w2.heap[w5.heap.size]? = _ := grown_at HX.out.prs hg1 HX.out.rcd (by decide)
                have e5 : w2.cell? ⟨w5.heap.size, 6, none⟩ = some pv := cell_of_cells hq5
                have g5 : w2.frozen? ⟨w5.heap.size, 6, none⟩ = false := free_of_cells hq5
                obtain ⟨ao1, cc1, rfl⟩ := owns_slice ho1
                clear ho1 hg1 hq5
                refine hK.out _ _ trivial (fun hHeld => ?_)
                clear hK K
                try simp only [Act.put, List.setIfInBounds_toArray, List.set_cons_zero, List.set_cons_succ]
                refine takeH 9 40 (.pointer (some ⟨w5.heap.size, 6, none⟩)) rfl rfl (by kernel_rfl) (by kernel_rfl) (by kernel_rfl) (fun _ _ _ h => h) (by rfl) ?_ trivial ?_
                · intro w' hSw
                  go_simp
                try simp only [Act.put, List.setIfInBounds_toArray, List.set_cons_zero, List.set_cons_succ]
                refine wpAnyH_ready (rs := [10]) (by kernel_rfl) (by simp) (nextH 10 rfl (by rfl) (fun K hK => ?_) AllReadyH.nil)
                go_simp
                refine hK.out _ _ trivial (fun hHeld => ?_)
                clear hK K
                try simp only [Act.put, List.setIfInBounds_toArray, List.set_cons_zero, List.set_cons_succ]
                refine wpAnyH_done (by kernel_rfl) ?_ _
                have HN7 := hid (HN2.out.pair HY.out N8.out N9.out fun hg r hb => by
                  obtain ⟨e0, e1, e2, e3, e4, e5, e6, e7⟩ := Got.all hg hb
                  have h8 := HL2.out
                  exact ⟨fitP_small (may_fit hb.1).prs, e7, by omega⟩)
                go_wp2
                go_roundw
                case rel => exact ⟨k + 1, by omega, by go_num, _, ps ++ [(s, u)], a9, ok9, by rw [List.length_append, HL2.out]; rfl, HP.out, HN7.out⟩
                case measure => simp [intOf]; omega
              · go_simp
                refine hK.out _ _ trivial (fun hHeld => ?_)
                clear hK K
                try simp only [Act.put, List.setIfInBounds_toArray, List.set_cons_zero, List.set_cons_succ]
                have q6 : (w9.alloc (.cells #[.string s, .string u] 57)).cell? ⟨w5.heap.size, 6, none⟩ = some pv := cell_of_cells (H9.out.on (alloc_one w9 (.cells #[.string s, .string u] 57))).rcd
                refine wpAnyH_ready (rs := [1]) (by kernel_rfl) (by simp) (nextH 1 rfl (by rfl) (fun K hK => ?_) AllReadyH.nil)
                go_simp
                refine hK.out _ _ trivial (fun hHeld => ?_)
                clear hK K
                try simp only [Act.put, List.setIfInBounds_toArray, List.set_cons_zero, List.set_cons_succ]
                have HX := hid (H9.out.on (alloc_one w9 (.cells #[.string s, .string u] 57)))
                have hsz := HX.out.low
                refine wpAnyH_ready (rs := [8]) (by kernel_rfl) (by simp) (AllReadyH.cons rfl (fun K hK => ?_) AllReadyH.nil)
                refine step_append_at 39 rfl rfl (.tmp 32) (.tmp 38) 31 rfl w.heap.size 57 i1 _ 2 32 Try.underlying31 hj hw0 hw1 hw2 rfl (by decide) pv ps.length (fl encP ps) (by simp [Act.eval]) HX.out.prs ⟨w9.heap.size, 0, none⟩ 1 1 [.string s, .string u] (by simp [Act.eval]) rfl (two_new w9 _ _ _) (by intro u hu; simp at hu; rcases hu with rfl | rfl <;> rfl) (by have := HL2.out; unfold maxLen; omega) (by have := HL2.out; omega) hsz ?_
                intro v1 w2 ho1 hg1
                have HP := hid (HX.out.pushPair (x := (s, u)) ho1 hg1)
                have hq5 : w2.heap[w5.heap.size]? = _ := grown_at HX.out.prs hg1 HX.out.rcd (by decide)
                have e5 : w2.cell? ⟨w5.heap.size, 6, none⟩ = some pv := cell_of_cells hq5
                have g5 : w2.frozen? ⟨w5.heap.size, 6, none⟩ = false := free_of_cells hq5
                obtain ⟨ao1, cc1, rfl⟩ := owns_slice ho1
                clear ho1 hg1 hq5
                refine hK.out _ _ trivial (fun hHeld => ?_)
                clear hK K
                try simp only [Act.put, List.setIfInBounds_toArray, List.set_cons_zero, List.set_cons_succ]
                refine takeH 9 40 (.pointer (some ⟨w5.heap.size, 6, none⟩)) rfl rfl (by kernel_rfl) (by kernel_rfl) (by kernel_rfl) (fun _ _ _ h => h) (by rfl) ?_ trivial ?_
                · intro w' hSw
                  go_simp
                try simp only [Act.put, List.setIfInBounds_toArray, List.set_cons_zero, List.set_cons_succ]
                refine wpAnyH_ready (rs := [10]) (by kernel_rfl) (by simp) (nextH 10 rfl (by rfl) (fun K hK => ?_) AllReadyH.nil)
                go_simp
                refine hK.out _ _ trivial (fun hHeld => ?_)
                clear hK K
                try simp only [Act.put, List.setIfInBounds_toArray, List.set_cons_zero, List.set_cons_succ]
                refine wpAnyH_done (by kernel_rfl) ?_ _
                have HN7 := hid (HN2.out.pair HY.out N8.out N9.out fun hg r hb => by
                  obtain ⟨e0, e1, e2, e3, e4, e5, e6, e7⟩ := Got.all hg hb
                  have h8 := HL2.out
                  exact ⟨fitP_small (may_fit hb.1).prs, e7, by omega⟩)
                go_wp2
                go_roundw
                case rel => exact ⟨k + 1, by omega, by go_num, _, ps ++ [(s, u)], a9, ok9, by rw [List.length_append, HL2.out]; rfl, HP.out, HN7.out⟩
                case measure => simp [intOf]; omega
        · have hd : decide ((k : Int) < (m2 : Int)) = false := by simp; omega
          obtain ⟨so, sc, hso⟩ := owns_slice HS.out.set
          obtain ⟨po, pc, hpo⟩ := owns_slice HS.out.prs
          subst hso hpo
          have HM2 := hid (show (m2 : Int) = (ps.length : Int) by have := HL2.out; omega)
          have hp40 := hid (show ps.length ≤ 40 by have := HL2.out; omega)
          have c0 : wr.cell? ⟨w5.heap.size, 0, none⟩ = some (.int .i64 f0) := cell_of_cells HS.out.rcd
          have c1 : wr.cell? ⟨w5.heap.size, 1, none⟩ = some (.int .i64 f1) := cell_of_cells HS.out.rcd
          have c2 : wr.cell? ⟨w5.heap.size, 2, none⟩ = some (.int .i64 f2) := cell_of_cells HS.out.rcd
          have c3 : wr.cell? ⟨w5.heap.size, 3, none⟩ = some (.int .i64 f3) := cell_of_cells HS.out.rcd
          have c4 : wr.cell? ⟨w5.heap.size, 4, none⟩ = some (.int .i64 f4) := cell_of_cells HS.out.rcd
          have c5 : wr.cell? ⟨w5.heap.size, 5, none⟩ = some (.slice so ys.length sc) := cell_of_cells HS.out.rcd
          have c6 : wr.cell? ⟨w5.heap.size, 6, none⟩ = some (.slice po ps.length pc) := cell_of_cells HS.out.rcd
          have z0 : wr.cell? ⟨w.heap.size, 0, none⟩ = some (.int .i64 0) := cell_of_cells HS.out.res
          have y0 : wr.frozen? ⟨w.heap.size, 0, none⟩ = false := free_of_cells HS.out.res
          have z1 : wr.cell? ⟨w.heap.size, 1, none⟩ = some (.int .i64 0) := cell_of_cells HS.out.res
          have y1 : wr.frozen? ⟨w.heap.size, 1, none⟩ = false := free_of_cells HS.out.res
          have z2 : wr.cell? ⟨w.heap.size, 2, none⟩ = some (.int .i64 0) := cell_of_cells HS.out.res
          have y2 : wr.frozen? ⟨w.heap.size, 2, none⟩ = false := free_of_cells HS.out.res
          have z3 : wr.cell? ⟨w.heap.size, 3, none⟩ = some (.int .i64 0) := cell_of_cells HS.out.res
          have y3 : wr.frozen? ⟨w.heap.size, 3, none⟩ = false := free_of_cells HS.out.res
          have z4 : wr.cell? ⟨w.heap.size, 4, none⟩ = some (.int .i64 0) := cell_of_cells HS.out.res
          have y4 : wr.frozen? ⟨w.heap.size, 4, none⟩ = false := free_of_cells HS.out.res
          have z5 : wr.cell? ⟨w.heap.size, 5, none⟩ = some (.slice none 0 0) := cell_of_cells HS.out.res
          have y5 : wr.frozen? ⟨w.heap.size, 5, none⟩ = false := free_of_cells HS.out.res
          have z6 : wr.cell? ⟨w.heap.size, 6, none⟩ = some (.slice none 0 0) := cell_of_cells HS.out.res
          have y6 : wr.frozen? ⟨w.heap.size, 6, none⟩ = false := free_of_cells HS.out.res
          go_wp2
          obtain ⟨hblk, hs7⟩ := set_seven HS.out.res (.int .i64 f0) (.int .i64 f1) (.int .i64 f2) (.int .i64 f3) (.int .i64 f4) (.slice so ys.length sc) (.slice po ps.length pc)
          refine bodyPost_ret (results_cell_row rfl _ _ w.heap.size 33 _ (0, 0) _ (by rfl) hblk Try.underlying33 rfl (by kernel_rfl)) rfl ?_
          have hX := HX.out
          refine ⟨f0, f1, f2, f3, f4, _, _, ys, ps, q, a, ok, rfl, ⟨hs7.at HS.out.rd.blk (fun e => hX e.symm), HS.out.rd.bs.apart hs7 HS.out.res ?_, HY.out, HS.out.rd.le⟩, ?_, ?_, HS.out.sav.then hs7 (fun i hi e => by unfold Just at e; omega), ⟨hy6.out, hp40.out, fun e => ?_, HN2.out.no⟩⟩
          · intro j n e
            match j with
            | 0 | 1 | 2 | 3 | 4 | 5 | 6 => simp at e
            | j + 7 => simp at e
          · exact owns_sav HS.out.set hs7 (fun g hg e => owns_ne HS.out.set HS.out.res (by decide) (by rw [hg, e]))
          · exact owns_sav HS.out.prs hs7 (fun g hg e => owns_ne HS.out.prs HS.out.res (by decide) (by rw [hg, e]))
          · have := HN2.out.yes e
            rw [HM2.out] at this
            exact this
end Go.Proofs.Ytpkobobandcclaa
