/- Pairs lent, kept, great or not; what is owned; an append as one step of a region: what stages from 8 on take of stage 7, without its program. -/
import Derived.Test.YtejkboahjfcdcaaSSame
import Derived.Laws.AppendOwnNone
import Derived.Deep.RegionHeld3
namespace Go.Proofs.Ytejkboahjfcdcaa
open Go.RowKit
set_option linter.unusedVariables false

theorem one_new (w : World) (x : Value) (t : TypeId) : ∀ j u, [x][j]? = some u → (w.alloc (.cells #[x] t)).cell? ((⟨w.heap.size, 0, none⟩ : Addr).add j) = some u := by
  intro j u h
  have : j = 0 := by
    have := (List.getElem?_eq_some_iff.1 h).1
    simp at this
    omega
  subst this
  simp at h
  subst h
  simp [go_sem, Addr.add]
theorem owns_off {w : World} {b : Nat} {e s n base : Nat} {v : Value} {xs : List Value} {t : TypeId} {cs : Array Value} {f : Nat × Nat} (h : w.ownsRow base e s v n xs) (hb : w.heap[b]? = some (.cells cs t f)) (ht : t ≠ e) : v.ownBlock ≠ some b := by
  intro hq
  rcases h.2 with ⟨rfl, _⟩ | ⟨g, cap, cur, rfl, _, hg, _⟩
  · cases hq
  · cases hq
    rw [hb] at hg
    cases hg
    exact ht rfl
/-- What is owned stays, while a row of another type grows. -/
theorem owns_grown {w : World} {e s n base base2 e2 s2 n2 : Nat} {v v2 : Value} {xs xs2 : List Value} {w' : World} (h : w.ownsRow base e s v n xs) (h2 : w.ownsRow base2 e2 s2 v2 n2 xs2) (he : e ≠ e2) (hg : w.grownBy w' v2.ownBlock) : w'.ownsRow base e s v n xs := by
  refine ⟨h.1, ?_⟩
  rcases h.2 with h1 | ⟨g, cap, cur, rfl, hb, hh, r⟩
  · exact .inl h1
  · have hne := owns_off h2 hh he
    refine .inr ⟨g, cap, cur, rfl, hb, ?_, r⟩
    rw [hg.block g (Array.getElem?_eq_some_iff.1 hh).1 (Ne.symm hne)]
    exact hh
theorem own_slice {w : World} {v : Value} {base e s n : Nat} {xs : List Value} (h : w.ownsRow base e s v n xs) : ∃ ao c, v = .slice ao n c := by
  rcases h.2 with ⟨h1, rfl⟩ | ⟨g, cap, cur, h1, _⟩
  · exact ⟨_, _, h1⟩
  · exact ⟨_, _, h1⟩
/-- append onto what the call owns, as one step of a region that draws its order. -/
theorem step_append_own {P : Program} {ops : Array Oper} {o : Oper} {a : Act} {w : World} {K : Act → World → Prop} {Q : Exit → Act → World → Prop} {C : Prop}
    (hg : o.guard = none) (s x : Operand) (t : TypeId) (hop : o.op = Op.call { callee := Callee.builtin Builtin.append, args := #[s, x], argTypes := #[t, t] })
    (base : Nat) (e : TypeId) (i : TypeInfo) (z : Value) (size bytes : Nat) (h1 : P.underlying t = some (.slice e)) (h2 : P.info? e = some i) (h3 : i.zero = some z) (h4 : i.size = size) (h5 : i.bytes = bytes) (h6 : z.cells.size = size) (h7 : 0 < size)
    (v : Value) (n : Nat) (xs : List Value) (hs : a.eval s = v) (hown : w.ownsRow base e size v n xs)
    (ad : Addr) (m c : Nat) (news : List Value) (hx : a.eval x = .slice (some ad) m c) (hn : news.length = m * size) (hc : ∀ j u, news[j]? = some u → w.cell? (ad.add j) = some u) (h1c : ∀ u ∈ news, u.oneCell' = true)
    (b1 : n + m ≤ maxLen) (b2 : (n + m) * bytes ≤ 140737488355328) (hb : base ≤ w.heap.size)
    (hK : ∀ v' w', w'.ownsRow base e size v' (n + m) (xs ++ news) → w.grownBy w' v.ownBlock → K (a.put o.dst v') w') :
    if Region.wanted o (yielded ops a.tmps) = true then Oper.wp P o a w K Q else C := by
  have hw : Region.wanted o (yielded ops a.tmps) = true := by simp [Region.wanted, hg]
  rw [if_pos hw]
  obtain ⟨v', w', hrun, r1, r2, _⟩ := run_append_own (P := P) w base t o.type e i z size bytes h1 h2 h3 h4 h5 h6 h7 v n xs hown ad m c news hn hc h1c b1 b2 hb
  unfold Oper.wp
  simp [execOp, hop, resolve, invoke, builtin, hs, hx, hrun, Result.andThen]
  exact hK v' w' r1 r2
/-- append of a slice, nil or not, onto what the call owns, as one step of a region that draws its order. -/
theorem step_append_any {P : Program} {ops : Array Oper} {o : Oper} {a : Act} {w : World} {K : Act → World → Prop} {Q : Exit → Act → World → Prop} {C : Prop}
    (hg : o.guard = none) (s x : Operand) (t : TypeId) (hop : o.op = Op.call { callee := Callee.builtin Builtin.append, args := #[s, x], argTypes := #[t, t] })
    (base : Nat) (e : TypeId) (i : TypeInfo) (z : Value) (size bytes : Nat) (h1 : P.underlying t = some (.slice e)) (h2 : P.info? e = some i) (h3 : i.zero = some z) (h4 : i.size = size) (h5 : i.bytes = bytes) (h6 : z.cells.size = size) (h7 : 0 < size)
    (v : Value) (n : Nat) (xs : List Value) (hs : a.eval s = v) (hown : w.ownsRow base e size v n xs)
    (ao : Option Addr) (m c : Nat) (news : List Value) (hx : a.eval x = .slice ao m c) (hn : news.length = m * size) (hnone : ao = none → m = 0 ∧ c = 0) (hc : ∀ ad, ao = some ad → ∀ j u, news[j]? = some u → w.cell? (ad.add j) = some u) (h1c : ∀ u ∈ news, u.oneCell' = true)
    (b1 : n + m ≤ maxLen) (b2 : (n + m) * bytes ≤ 140737488355328) (hb : base ≤ w.heap.size)
    (hK : ∀ v' w', w'.ownsRow base e size v' (n + m) (xs ++ news) → w.grownBy w' v.ownBlock → K (a.put o.dst v') w') :
    if Region.wanted o (yielded ops a.tmps) = true then Oper.wp P o a w K Q else C := by
  cases ao with
  | some ad => exact step_append_own hg s x t hop base e i z size bytes h1 h2 h3 h4 h5 h6 h7 v n xs hs hown ad m c news hx hn (hc ad rfl) h1c b1 b2 hb hK
  | none =>
    obtain ⟨rfl, rfl⟩ := hnone rfl
    have hnil : news = [] := List.eq_nil_of_length_eq_zero (by simpa using hn)
    subst hnil
    have hw : Region.wanted o (yielded ops a.tmps) = true := by simp [Region.wanted, hg]
    rw [if_pos hw]
    have hrun := run_append_owned_none (P := P) (w := w) base t o.type e i size h1 h2 v n xs hown
    unfold Oper.wp
    simp [execOp, hop, resolve, invoke, builtin, hs, hx, hrun, Result.andThen]
    exact hK v w (by simpa using hown) (World.grownBy.refl _ _)
theorem owns_mono {w : World} {base base' e s n : Nat} {v : Value} {xs : List Value} (h : w.ownsRow base e s v n xs) (hb : base' ≤ base) : w.ownsRow base' e s v n xs := by
  refine ⟨h.1, ?_⟩
  rcases h.2 with h1 | ⟨g, cap, cur, h1, h2, r⟩
  · exact .inl h1
  · exact .inr ⟨g, cap, cur, h1, by omega, r⟩
theorem addr_add (b off j : Nat) : (⟨b, off, none⟩ : Addr).add j = ⟨b, off + j, none⟩ := by unfold Addr.add; split <;> simp_all
theorem keepc {W w' : World} {b o : Nat} {v : Value} (h : Below W.heap.size W w') (hb : b < W.heap.size) (hc : W.cell? ⟨b, o, none⟩ = some v) : w'.cell? ⟨b, o, none⟩ = some v := (h.cell (p := ⟨b, o, none⟩) hb).trans hc
theorem alloc_one (w : World) (o : Obj) : Below w.heap.size w (w.alloc o) := (Below.refl _ w).alloc (Nat.le_refl _) o
theorem below_none {w w' : World} (h : w.grownBy w' (Value.slice none 0 0).ownBlock) : Below w.heap.size w w' := ⟨h.os, h.tape, h.output, h.size, fun k hk => h.block k hk (fun e => by cases e)⟩
/-- A new row of pairs is answered. -/
def PairsNew (w : World) (l : List KV) (e : Ending) (w' : World) : Prop := ∃ u, e = .returned u ∧ w'.ownsRow w.heap.size 53 2 u l.length (fl encP l) ∧ Below w.heap.size w w'
theorem pairs_made (l : List KV) (w : World) (h : l.length ≤ 1000) : Prs (w.alloc (.cells (fl encP l).toArray 53)) (.slice (some ⟨w.heap.size, 0, none⟩) l.length l.length) l := Reads.made encP_len (by decide) 53 l w h
def lentP : KV := (⟨#[108, 101, 110, 116]⟩, ⟨#[]⟩)
set_option maxHeartbeats 1000000 in
theorem lendPairs_any (v : Value) (l : List KV) (w : World) (hv : Prs w v l) (hr : l.length ≤ 1000) :
    Calls Try.prog 11 #[v] w fun e w' => e = .returned (.slice (some ⟨w.heap.size, 0, none⟩) l.length (l.length + 3)) ∧ w'.ownsRow w.heap.size 53 2 (.slice (some ⟨w.heap.size, 0, none⟩) (l.length + 3) (l.length + 3)) (l.length + 3) (fl encP (l ++ List.replicate 3 lentP)) ∧ Below w.heap.size w w' := by
  have HV := hid hv
  obtain ⟨ao, cap, rfl, h1, h2, h3, -⟩ := hv
  obtain ⟨i0, hi, hz0, hz1, hz2⟩ := info_parts Try.infoP
  unfold maxLen at h2
  go_enter Try.func11, Try.ntmps11
  go_wp2_with (first | (at_make; refine wpList_make_own _ rfl _ _ 31 rfl w.heap.size 53 i0 _ 2 Try.underlying31 hi hz0 hz1 .i64 .i64 _ (l.length + 3) rfl rfl (by omega) (by rw [hz2]; omega) (by unfold maxLen; omega) (Nat.le_refl _) ?_; intro w1 ho1 hg1) | (at_builtin; refine wpList_append_fits_any _ rfl _ _ 31 rfl w.heap.size 53 i0 2 Try.underlying31 hi hz1 w.heap.size 0 (l.length + 3) _ rfl ho1 ao l.length cap (fl encP l) rfl (fl_length encP_len l) (fun e => ⟨by rw [(h3 e).1]; rfl, (h3 e).2⟩) (HV.out.news encP_len (by decide) ((Below.refl _ _).grown hg1 (Nat.le_refl _) (by intro q hq; cases hq))) (fl_one encP_one l) (by omega) ?_; intro w2 ho2 hg2))
  have hb1 : Below w.heap.size w w1 := (Below.refl _ _).grown hg1 (Nat.le_refl _) (by intro q hq; cases hq)
  have hb2 : Below w.heap.size w w2 := hb1.grown hg2 hb1.size (by intro q hq; cases hq; exact Nat.le_refl _)
  clear hg1 hg2 ho1 hb1 h3
  simp only [Nat.zero_add, List.nil_append] at ho2 ⊢
  obtain ⟨ys, hoy, hty⟩ := owns_full ho2
  clear ho2
  go_loopw [5] (fun i wr => ∃ k : Nat, k ≤ 3 ∧ i = .int .i64 k ∧ ∃ xs, wr.ownsRow w.heap.size 53 2 (.slice (some ⟨w.heap.size, 0, none⟩) (l.length + 3) (l.length + 3)) (l.length + 3) xs ∧ xs.take ((l.length + k) * 2) = fl encP (l ++ List.replicate k lentP) ∧ Below w.heap.size w wr) (fun i _ => 3 - (intOf i).toNat)
  case atStart => exact ⟨0, by omega, rfl, ys, hoy, by simpa using hty, hb2⟩
  case round =>
    obtain ⟨k, hk, rfl, xs, hox, hxt, hbr⟩ := hrel
    by_cases hlt : k < 3
    · obtain ⟨x0, hx0⟩ := owns_cell hox (j := l.length * 2 + k * 2) (by omega)
      obtain ⟨x1, hx1⟩ := owns_cell hox (j := l.length * 2 + k * 2 + 1) (by omega)
      have hf0 := hox.frozenAt (l.length * 2 + k * 2)
      have hf1 := hox.frozenAt (l.length * 2 + k * 2 + 1)
      have HO := hid hox
      clear hox
      have hxl : xs.length = (l.length + 3) * 2 := HO.out.1
      have s1 := HO.out.stored (l.length * 2 + k * 2) (.string lentP.1)
      have s2 := s1.1.stored (l.length * 2 + k * 2 + 1) (.string lentP.2)
      have HS := hid s2.1
      have b1 := hbr.grown s1.2 hbr.size (by intro q hq; cases hq; exact Nat.le_refl _)
      have HB := hid (b1.grown s2.2 b1.size (by intro q hq; cases hq; exact Nat.le_refl _))
      have HT := hid (show ((xs.set (l.length * 2 + k * 2) (.string lentP.1)).set (l.length * 2 + k * 2 + 1) (.string lentP.2)).take ((l.length + (k + 1)) * 2) = fl encP (l ++ List.replicate (k + 1) lentP) by
        rw [show (l.length + (k + 1)) * 2 = l.length * 2 + k * 2 + 2 by omega, set_snoc2 (by omega), show l.length * 2 + k * 2 = (l.length + k) * 2 by omega, hxt, List.replicate_succ', ← List.append_assoc, fl_append _ [lentP]]
        rfl)
      clear s1 s2 b1 hxt HO hxl
      simp only [lentP] at HS HB HT
      go_wp2
      go_roundw
      case rel => exact ⟨k + 1, by omega, by go_num, _, HS.out, HT.out, HB.out⟩
      case measure => simp [intOf]; omega
    · obtain rfl : k = 3 := by omega
      have hxl : xs.length = (l.length + 3) * 2 := hox.1
      rw [List.take_of_length_le (by omega)] at hxt
      rw [hxt] at hox
      have HO := hid hox
      clear hox hxt hxl
      go_wp2
      go_ret
      exact ⟨rfl, HO.out, hbr⟩
set_option maxHeartbeats 1000000 in
theorem keptPairs_any (g : Nat) (b : Value) (l : List KV) (w : World) (hv : Prs w (.slice (some ⟨g, 0, none⟩) (l.length + 3) (l.length + 3)) (l ++ List.replicate 3 lentP)) (hb : Prs w b l) (hr : l.length ≤ 1000) :
    Calls Try.prog 14 #[.slice (some ⟨g, 0, none⟩) l.length (l.length + 3), b] w fun e w' => e = .returned (.bool true) ∧ ∃ n, w' = w.drewN n := by
  have HT := hid hv.cut
  have HB := hid hb
  have hcell : ∀ k, k < 3 → w.cell? ⟨g, l.length * 2 + k * 2, none⟩ = some (.string lentP.1) ∧ w.cell? ⟨g, l.length * 2 + k * 2 + 1, none⟩ = some (.string lentP.2) := by
    intro k hk
    obtain ⟨b0, off, x, hx, e, _, c0, c1⟩ := Prs.cell? hv (j := l.length + k) (by simp; omega)
    cases e
    rw [List.getElem?_append_right (by omega), Nat.add_sub_cancel_left, List.getElem?_replicate, if_pos hk] at hx
    cases hx
    rw [Nat.zero_add, show (l.length + k) * 2 = l.length * 2 + k * 2 by omega] at c0 c1
    exact ⟨c0, c1⟩
  have HC := hid hcell
  have hm := guard_pair
  clear hcell hv hb
  go_enter Try.func14, Try.ntmps14
  go_wp2
  go_loop [6] (fun i => ∃ k : Nat, k ≤ 3 ∧ i = .int .i64 k) (fun i => 3 - (intOf i).toNat)
  case atStart => exact ⟨0, by omega, rfl⟩
  case round =>
    obtain ⟨k, hk, rfl⟩ := hrel
    by_cases hlt3 : k < 3
    · obtain ⟨c0, c1⟩ := HC.out k hlt3
      have hn := pair_neq lentP
      simp only [prV, lentP] at hn c0 c1
      go_wp2
      go_round
      case rel => exact ⟨k + 1, by omega, by go_num⟩
      case measure => simp [intOf]; omega
    · go_wp2_with fail
      refine (samePairs_any _ _ l w HT.out HB.out).mono ?_
      rintro e w3 ⟨rfl, n3, rfl⟩
      go_wp2
      go_ret
      exact ⟨rfl, n3, rfl⟩
def GreatP (l : List KV) (n : Nat) (e : Ending) : Prop := ∃ g, e = .returned (.bool g) ∧ (g = false → l.length ≤ n ∧ ∀ x ∈ l, x.1.size ≤ 100)
theorem small_take {l : List KV} {k : Nat} {x : KV} (h : ∀ y ∈ l.take k, y.1.size ≤ 100) (hx : l[k]? = some x) (ho : x.1.size ≤ 100) : ∀ y ∈ l.take (k + 1), y.1.size ≤ 100 := by
  obtain ⟨hk, rfl⟩ := List.getElem?_eq_some_iff.1 hx
  rw [List.take_succ_eq_append_getElem hk]
  intro y hy
  rcases List.mem_append.1 hy with hy | hy
  · exact h y hy
  · rw [List.mem_singleton.1 hy]
    exact ho
set_option maxHeartbeats 1000000 in
theorem greatPairs_any (v : Value) (l : List KV) (n : Nat) (w : World) (hv : Prs w v l) :
    Calls Try.prog 25 #[v, .int .i64 n] w fun e w' => GreatP l n e ∧ w' = w := by
  have HV := hid hv
  obtain ⟨ao, ca, rfl, a1, a2, a3, -⟩ := hv
  unfold maxLen at a2
  by_cases hbig : n < l.length
  · have hd : decide ((l.length : Int) ≤ (n : Int)) = false := by simp; omega
    have hd2 : decide ((n : Int) < (l.length : Int)) = true := by simp; omega
    have hd3 : decide ((0 : Int) < (l.length : Int)) = true := by simp; omega
    clear a3
    go_enter Try.func25, Try.ntmps25
    go_wp2
    go_loop [5] (fun i => i = .int .i64 0) (fun _ => 0)
    case atStart => rfl
    case round =>
      subst hrel
      go_wp2
      go_ret
      exact ⟨⟨true, rfl, fun h => by cases h⟩, rfl⟩
  · have HB := hid hbig
    have hd : decide ((l.length : Int) ≤ (n : Int)) = true := by simp; omega
    have hd2 : decide ((n : Int) < (l.length : Int)) = false := by simp; omega
    have hle : l.length ≤ n := by omega
    clear hbig a3
    go_enter Try.func25, Try.ntmps25
    go_wp2
    go_loop [5] (fun i => ∃ k : Nat, k ≤ l.length ∧ i = .int .i64 k ∧ Hid (∀ y ∈ l.take k, y.1.size ≤ 100)) (fun i => l.length - (intOf i).toNat)
    case atStart => exact ⟨0, by omega, rfl, hid (fun y hy => by simp at hy)⟩
    case round =>
      obtain ⟨k, hk, rfl, HK⟩ := hrel
      by_cases hlt : k < l.length
      · obtain ⟨b, off, x, hx, rfl, hb, c1, c2⟩ := HV.out.cell? hlt
        have HX := hid hx
        clear hx
        obtain ⟨s, t⟩ := x
        simp only at c1 c2
        have hd4 : decide ((k : Int) < (l.length : Int)) = true := by simp; omega
        by_cases hs : 100 < s.size
        · have hd5 : decide ((100 : Int) < (s.size : Int)) = true := by simp; omega
          go_wp2
          go_ret
          exact ⟨⟨true, rfl, fun h => by cases h⟩, rfl⟩
        · have hd5 : decide ((100 : Int) < (s.size : Int)) = false := by simp; omega
          by_cases ht : 100 < t.size
          · have hd6 : decide ((100 : Int) < (t.size : Int)) = true := by simp; omega
            go_wp2
            go_ret
            exact ⟨⟨true, rfl, fun h => by cases h⟩, rfl⟩
          · have hd6 : decide ((100 : Int) < (t.size : Int)) = false := by simp; omega
            have HK2 := hid (small_take HK.out HX.out (show s.size ≤ 100 by omega))
            clear HK
            go_wp2
            go_round
            case rel => exact ⟨k + 1, by omega, by go_num, HK2⟩
            case measure => simp [intOf]; omega
      · have hd4 : decide ((k : Int) < (l.length : Int)) = false := by simp; omega
        go_wp2
        go_ret
        exact ⟨⟨decide (n < l.length), rfl, fun _ => ⟨by have := HB.out; omega, fun x hx => HK.out x (by rw [List.take_of_length_le (by omega)]; exact hx)⟩⟩, rfl⟩
end Go.Proofs.Ytejkboahjfcdcaa
