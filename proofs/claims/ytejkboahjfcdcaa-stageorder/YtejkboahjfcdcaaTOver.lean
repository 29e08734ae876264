/- OverPairs: what is owned is written over, and nothing else turns. -/
import Derived.Test.YtejkboahjfcdcaaTPairs
namespace Go.Proofs.Ytejkboahjfcdcaa
open Go.RowKit
set_option linter.unusedVariables false

theorem owns_grown_ne {w w' : World} {e s n base : Nat} {v : Value} {xs : List Value} {r : Option Nat} (h : w.ownsRow base e s v n xs) (hg : w.grownBy w' r) (hne : ∀ g, v.ownBlock = some g → r ≠ some g) : w'.ownsRow base e s v n xs := by
  refine ⟨h.1, ?_⟩
  rcases h.2 with h1 | ⟨g, cap, cur, rfl, hb, hh, q⟩
  · exact .inl h1
  · refine .inr ⟨g, cap, cur, rfl, hb, ?_, q⟩
    rw [hg.block g (Array.getElem?_eq_some_iff.1 hh).1 (fun e => hne g rfl e.symm)]
    exact hh
theorem owns_lt {w : World} {e s n base : Nat} {v : Value} {xs : List Value} (h : w.ownsRow base e s v n xs) {g : Nat} (hg : v.ownBlock = some g) : g < w.heap.size := by
  rcases h.2 with ⟨rfl, _⟩ | ⟨g', cap, cur, rfl, hb, hh, q⟩
  · cases hg
  · cases hg
    exact (Array.getElem?_eq_some_iff.1 hh).1
set_option maxHeartbeats 1000000 in
/-- What is owned is written over: nothing else turns. -/
theorem overPairs_grown (n base : Nat) (v : Value) (xs : List Value) (w : World) (ho : w.ownsRow base 53 2 v n xs) (hb : base ≤ w.heap.size) (hn : n ≤ 1000) :
    Calls Try.prog 15 #[v] w fun e w' => e = .returned (.tuple #[]) ∧ w.grownBy w' v.ownBlock := by
  obtain ⟨i0, hi, hz0, hz1, hz2⟩ := info_parts Try.infoP
  rcases ho.2 with ⟨rfl, rfl⟩ | ⟨g, cap, cur, rfl, hbase, hg, r⟩
  · go_enter Try.func15, Try.ntmps15
    go_wp2
    go_loop [2] (fun i => i = .int .i64 0) (fun _ => 0)
    case atStart => rfl
    case round =>
      subst hrel
      go_wp2_with (at_builtin; refine wpList_append_own _ rfl _ _ 31 rfl w.heap.size 53 i0 _ 2 32 Try.underlying31 hi hz0 hz1 hz2 rfl (by decide) _ 0 [] rfl ((World.ownsRow_nil _ _ _ _).alloc _) ⟨w.heap.size, 0, none⟩ 1 1 [.string overB, .string ⟨#[]⟩] rfl rfl (two_new _ _ _ _) (by intro u hu; simp at hu; rcases hu with rfl | rfl <;> rfl) (by unfold maxLen; omega) (by omega) (by simp) ?_; intro v1 w1 ho1 hg1 _)
      go_end0
      exact ⟨rfl, grownBy_trans (grownBy_alloc _ _ _) hg1⟩
  · clear r hg
    go_enter Try.func15, Try.ntmps15
    go_wp2
    go_loopw [2] (fun i wr => ∃ k : Nat, k ≤ n ∧ i = .int .i64 k ∧ ∃ ys, wr.ownsRow base 53 2 (.slice (some ⟨g, 0, none⟩) n cap) n ys ∧ w.grownBy wr (some g)) (fun i _ => n - (intOf i).toNat)
    case atStart => exact ⟨0, by omega, rfl, xs, ho, World.grownBy.refl _ _⟩
    case round =>
      obtain ⟨k, hk, rfl, ys, hoy, hgr⟩ := hrel
      by_cases hlt : k < n
      · obtain ⟨x0, hx0⟩ := owns_cell hoy (j := k * 2) (by omega)
        obtain ⟨x1, hx1⟩ := owns_cell hoy (j := k * 2 + 1) (by omega)
        have hf0 := hoy.frozenAt (k * 2)
        have hf1 := hoy.frozenAt (k * 2 + 1)
        have s1 := hoy.stored (k * 2) (.string overB)
        have s2 := s1.1.stored (k * 2 + 1) (.string ⟨#[]⟩)
        have H1 := hid s2.1
        have H2 := hid (grownBy_trans hgr (grownBy_trans s1.2 s2.2))
        unfold overB at H1 H2
        clear s1 s2 hoy hgr
        go_wp2
        go_roundw
        case rel => exact ⟨k + 1, by omega, by go_num, _, H1.out, H2.out⟩
        case measure => simp [intOf]; omega
      · obtain rfl : k = n := by omega
        have hsz := hgr.size
        go_wp2_with (at_builtin; refine wpList_append_own _ rfl _ _ 31 rfl base 53 i0 _ 2 32 Try.underlying31 hi hz0 hz1 hz2 rfl (by decide) _ k _ rfl (hoy.alloc _) ⟨wr.heap.size, 0, none⟩ 1 1 [.string overB, .string ⟨#[]⟩] rfl rfl (two_new _ _ _ _) (by intro u hu; simp at hu; rcases hu with rfl | rfl <;> rfl) (by unfold maxLen; omega) (by omega) (by simp; omega) ?_; intro v1 w1 ho1 hg1 _)
        go_end0
        exact ⟨rfl, grownBy_trans (grownBy_trans hgr (grownBy_alloc _ _ _)) hg1⟩
end Go.Proofs.Ytejkboahjfcdcaa
