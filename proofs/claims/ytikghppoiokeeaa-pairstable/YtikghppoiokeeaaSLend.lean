/- LendPairs, KeptPairs, OverTexts. -/
import Derived.Test.YtikghppoiokeeaaSKeys
namespace Go.Proofs.Ytikghppoiokeeaa
open Go.RowKit
set_option linter.unusedVariables false

def lentP : KV := (⟨#[108, 101, 110, 116]⟩, ⟨#[]⟩)
set_option maxHeartbeats 1000000 in
theorem lendPairs_any (v : Value) (l : List KV) (w : World) (hv : Prs w v l) (hr : l.length ≤ 1000) :
    Calls Try.prog 8 #[v] w fun e w' => e = .returned (.slice (some ⟨w.heap.size, 0, none⟩) l.length (l.length + 3)) ∧ w'.ownsRow w.heap.size 36 2 (.slice (some ⟨w.heap.size, 0, none⟩) (l.length + 3) (l.length + 3)) (l.length + 3) (fl encP (l ++ List.replicate 3 lentP)) ∧ Below w.heap.size w w' := by
  have HV := hid hv
  obtain ⟨ao, cap, rfl, h1, h2, h3, -⟩ := hv
  obtain ⟨i0, hi, hz0, hz1, hz2⟩ := info_parts Try.infoP
  unfold maxLen at h2
  go_enter Try.func8, Try.ntmps8
  go_wp2_with (first | (at_make; refine wpList_make_own _ rfl _ _ 22 rfl w.heap.size 36 i0 _ 2 Try.underlying22 hi hz0 hz1 .i64 .i64 _ (l.length + 3) rfl rfl (by omega) (by rw [hz2]; omega) (by unfold maxLen; omega) (Nat.le_refl _) ?_; intro w1 ho1 hg1) | (at_builtin; refine wpList_append_fits_any _ rfl _ _ 22 rfl w.heap.size 36 i0 2 Try.underlying22 hi hz1 w.heap.size 0 (l.length + 3) _ rfl ho1 ao l.length cap (fl encP l) rfl (fl_length encP_len l) (fun e => ⟨by rw [(h3 e).1]; rfl, (h3 e).2⟩) (HV.out.news encP_len (by decide) ((Below.refl _ _).grown hg1 (Nat.le_refl _) (by intro q hq; cases hq))) (fl_one encP_one l) (by omega) ?_; intro w2 ho2 hg2))
  have hb1 : Below w.heap.size w w1 := (Below.refl _ _).grown hg1 (Nat.le_refl _) (by intro q hq; cases hq)
  have hb2 : Below w.heap.size w w2 := hb1.grown hg2 hb1.size (by intro q hq; cases hq; exact Nat.le_refl _)
  clear hg1 hg2 ho1 hb1 h3
  simp only [Nat.zero_add, List.nil_append] at ho2 ⊢
  obtain ⟨ys, hoy, hty⟩ := owns_full ho2
  clear ho2
  go_loopw [5] (fun i wr => ∃ k : Nat, k ≤ 3 ∧ i = .int .i64 k ∧ ∃ xs, wr.ownsRow w.heap.size 36 2 (.slice (some ⟨w.heap.size, 0, none⟩) (l.length + 3) (l.length + 3)) (l.length + 3) xs ∧ xs.take ((l.length + k) * 2) = fl encP (l ++ List.replicate k lentP) ∧ Below w.heap.size w wr) (fun i _ => 3 - (intOf i).toNat)
  case atStart => exact ⟨0, by omega, rfl, ys, hoy, by simpa using hty, hb2⟩
  case round =>
    obtain ⟨k, hk, rfl, xs, hox, hxt, hbr⟩ := hrel
    by_cases hlt : k < 3
    · obtain ⟨x0, hx0⟩ := owns_cell hox (j := l.length * 2 + k * 2) (by omega)
      obtain ⟨x1, hx1⟩ := owns_cell hox (j := l.length * 2 + k * 2 + 1) (by omega)
      have hf0 := hox.frozenAt (l.length * 2 + k * 2)
      have hf1 := hox.frozenAt (l.length * 2 + k * 2 + 1)
      have HO := hid hox
      clear hox
      have hxl : xs.length = (l.length + 3) * 2 := HO.out.1
      have s1 := HO.out.stored (l.length * 2 + k * 2) (.string lentP.1)
      have s2 := s1.1.stored (l.length * 2 + k * 2 + 1) (.string lentP.2)
      have HS := hid s2.1
      have b1 := hbr.grown s1.2 hbr.size (by intro q hq; cases hq; exact Nat.le_refl _)
      have HB := hid (b1.grown s2.2 b1.size (by intro q hq; cases hq; exact Nat.le_refl _))
      have HT := hid (show ((xs.set (l.length * 2 + k * 2) (.string lentP.1)).set (l.length * 2 + k * 2 + 1) (.string lentP.2)).take ((l.length + (k + 1)) * 2) = fl encP (l ++ List.replicate (k + 1) lentP) by
        rw [show (l.length + (k + 1)) * 2 = l.length * 2 + k * 2 + 2 by omega, set_snoc2 (by omega), show l.length * 2 + k * 2 = (l.length + k) * 2 by omega, hxt, List.replicate_succ', ← List.append_assoc, fl_append _ [lentP]]
        rfl)
      clear s1 s2 b1 hxt HO hxl
      simp only [lentP] at HS HB HT
      go_wp2
      go_roundw
      case rel => exact ⟨k + 1, by omega, by go_num, _, HS.out, HT.out, HB.out⟩
      case measure => simp [intOf]; omega
    · obtain rfl : k = 3 := by omega
      have hxl : xs.length = (l.length + 3) * 2 := hox.1
      rw [List.take_of_length_le (by omega)] at hxt
      rw [hxt] at hox
      have HO := hid hox
      clear hox hxt hxl
      go_wp2
      go_ret
      exact ⟨rfl, HO.out, hbr⟩

set_option maxHeartbeats 1000000 in
theorem keptPairs_any (g : Nat) (b : Value) (l : List KV) (w : World) (hv : Prs w (.slice (some ⟨g, 0, none⟩) (l.length + 3) (l.length + 3)) (l ++ List.replicate 3 lentP)) (hb : Prs w b l) (hr : l.length ≤ 1000) :
    Calls Try.prog 24 #[.slice (some ⟨g, 0, none⟩) l.length (l.length + 3), b] w fun e w' => e = .returned (.bool true) ∧ ∃ n, w' = w.drewN n := by
  have HT := hid hv.cut
  have HB := hid hb
  have hcell : ∀ k, k < 3 → w.cell? ⟨g, l.length * 2 + k * 2, none⟩ = some (.string lentP.1) ∧ w.cell? ⟨g, l.length * 2 + k * 2 + 1, none⟩ = some (.string lentP.2) := by
    intro k hk
    obtain ⟨b0, off, x, hx, e, _, c0, c1⟩ := Prs.cell? hv (j := l.length + k) (by simp; omega)
    cases e
    rw [List.getElem?_append_right (by omega), Nat.add_sub_cancel_left, List.getElem?_replicate, if_pos hk] at hx
    cases hx
    rw [Nat.zero_add, show (l.length + k) * 2 = l.length * 2 + k * 2 by omega] at c0 c1
    exact ⟨c0, c1⟩
  have HC := hid hcell
  have hm := guard_pair
  clear hcell hv hb
  go_enter Try.func24, Try.ntmps24
  go_wp2
  go_loop [6] (fun i => ∃ k : Nat, k ≤ 3 ∧ i = .int .i64 k) (fun i => 3 - (intOf i).toNat)
  case atStart => exact ⟨0, by omega, rfl⟩
  case round =>
    obtain ⟨k, hk, rfl⟩ := hrel
    by_cases hlt3 : k < 3
    · obtain ⟨c0, c1⟩ := HC.out k hlt3
      have hn := pair_neq lentP
      simp only [prV, lentP] at hn c0 c1
      go_wp2
      go_round
      case rel => exact ⟨k + 1, by omega, by go_num⟩
      case measure => simp [intOf]; omega
    · go_wp2_with fail
      refine (samePairs_any _ _ l w HT.out HB.out).mono ?_
      rintro e w3 ⟨rfl, n3, rfl⟩
      go_wp2
      go_ret
      exact ⟨rfl, n3, rfl⟩

set_option maxHeartbeats 1000000 in
/-- What is owned is written over: nothing else turns. -/
theorem overTexts_grown (n base : Nat) (v : Value) (xs : List Value) (w : World) (ho : w.ownsRow base 9 1 v n xs) (hb : base ≤ w.heap.size) (hn : n ≤ 1000) :
    Calls Try.prog 23 #[v] w fun e w' => e = .returned (.tuple #[]) ∧ w.grownBy w' v.ownBlock := by
  obtain ⟨i0, hi, hz0, hz1, hz2⟩ := info_parts Try.infoT
  rcases ho.2 with ⟨rfl, rfl⟩ | ⟨g, cap, cur, rfl, hbase, hg, r⟩
  · go_enter Try.func23, Try.ntmps23
    go_wp2
    go_loop [2] (fun i => i = .int .i64 0) (fun _ => 0)
    case atStart => rfl
    case round =>
      subst hrel
      go_wp2_with (at_builtin; refine wpList_append_own _ rfl _ _ 26 rfl w.heap.size 9 i0 _ 1 16 Try.underlying26 hi hz0 hz1 hz2 rfl (by decide) _ 0 [] rfl ((World.ownsRow_nil _ _ _ _).alloc _) ⟨w.heap.size, 0, none⟩ 1 1 [.string overB] rfl rfl (one_new _ _ _) (by intro u hu; simp at hu; subst hu; rfl) (by unfold maxLen; omega) (by omega) (by simp) ?_; intro v1 w1 ho1 hg1 _)
      go_end0
      exact ⟨rfl, grownBy_trans (grownBy_alloc _ _ _) hg1⟩
  · clear r hg
    go_enter Try.func23, Try.ntmps23
    go_wp2
    go_loopw [2] (fun i wr => ∃ k : Nat, k ≤ n ∧ i = .int .i64 k ∧ ∃ ys, wr.ownsRow base 9 1 (.slice (some ⟨g, 0, none⟩) n cap) n ys ∧ w.grownBy wr (some g)) (fun i _ => n - (intOf i).toNat)
    case atStart => exact ⟨0, by omega, rfl, xs, ho, World.grownBy.refl _ _⟩
    case round =>
      obtain ⟨k, hk, rfl, ys, hoy, hgr⟩ := hrel
      by_cases hlt : k < n
      · obtain ⟨x0, hx0⟩ := owns_cell hoy (j := k) (by omega)
        have hf0 := hoy.frozenAt k
        have s1 := hoy.stored k (.string overB)
        have H1 := hid s1.1
        have H2 := hid (grownBy_trans hgr s1.2)
        unfold overB at H1 H2
        clear s1 hoy hgr
        go_wp2
        go_roundw
        case rel => exact ⟨k + 1, by omega, by go_num, _, H1.out, H2.out⟩
        case measure => simp [intOf]; omega
      · obtain rfl : k = n := by omega
        have hsz := hgr.size
        go_wp2_with (at_builtin; refine wpList_append_own _ rfl _ _ 26 rfl base 9 i0 _ 1 16 Try.underlying26 hi hz0 hz1 hz2 rfl (by decide) _ k _ rfl (hoy.alloc _) ⟨wr.heap.size, 0, none⟩ 1 1 [.string overB] rfl rfl (one_new _ _ _) (by intro u hu; simp at hu; subst hu; rfl) (by unfold maxLen; omega) (by omega) (by simp; omega) ?_; intro v1 w1 ho1 hg1 _)
        go_end0
        exact ⟨rfl, grownBy_trans (grownBy_trans hgr (grownBy_alloc _ _ _)) hg1⟩
end Go.Proofs.Ytikghppoiokeeaa
