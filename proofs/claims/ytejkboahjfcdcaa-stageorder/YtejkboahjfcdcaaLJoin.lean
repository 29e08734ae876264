/- Join: lists one behind the other (slices.Grow, slices.Concat, by the library's own text). -/
import Derived.Test.YtejkboahjfcdcaaLis
import Derived.Test.YtejkboahjfcdcaaAppAny
import Derived.Lib.AppendZerosOnto
namespace Go.Proofs.Ytejkboahjfcdcaa
open Go.RowKit
set_option linter.unusedVariables false

set_option maxHeartbeats 2000000 in
theorem grow_nil (n : Nat) (hn : n ≤ 1000) (w : World) :
    Calls Try.prog 32 #[.slice none 0 0, .int .i64 n] w fun e w' => ∃ u, e = .returned u ∧ w'.ownsRow w.heap.size 53 2 u 0 [] ∧ Below w.heap.size w w' := by
  obtain ⟨i0, hi, hz0, hz1, hz2⟩ := info_parts Try.infoP
  by_cases h0 : n = 0
  · subst h0
    go_enter Try.func32, Try.ntmps32
    go_wp2
    go_ret
    exact ⟨_, rfl, World.ownsRow_nil _ _ _ _, Below.refl _ _⟩
  · have d1 : decide ((0 : Int) < (n : Int)) = true := by simp; omega
    have d2 : decide ((n : Int) < (0 : Int)) = false := by simp
    have hr := fun ty => Lib.run_append_nil_zeros (P := Try.prog) w 31 3 ty 53 i0 _ .i64 .i64 Try.underlying31 Try.underlying3 hi hz0 n (by omega) (by omega) (by omega) (by rw [hz2]; omega)
    have hge := grownCap_ge w n 0 53
    have hle := grownCap_le_maxLen w n 0 53 (by unfold maxLen; omega)
    obtain ⟨G, hG⟩ : ∃ G, grownCap w n 0 53 = G := ⟨_, rfl⟩
    rw [hG] at hr hge hle
    clear hG
    have HO := hid (show (w.drew.alloc (.cells (Builtin.zeroCells (Value.cells (.agg #[.string ⟨#[]⟩, .string ⟨#[]⟩])) n ++ Builtin.zeroCells (Value.cells (.agg #[.string ⟨#[]⟩, .string ⟨#[]⟩])) (G - n)) 53)).ownsRow w.heap.size 53 2 (.slice (some ⟨w.heap.size, 0, none⟩) 0 G) 0 [] from
      ⟨rfl, .inr ⟨w.heap.size, G, _, rfl, Nat.le_refl _, new_block _ _, by omega, hle, by rw [Array.size_append, size_zeroCells, size_zeroCells, ← Nat.add_mul, show n + (G - n) = G by omega]; rfl, by simp⟩⟩)
    have HB := hid (show Below w.heap.size w (w.drew.alloc (.cells (Builtin.zeroCells (Value.cells (.agg #[.string ⟨#[]⟩, .string ⟨#[]⟩])) n ++ Builtin.zeroCells (Value.cells (.agg #[.string ⟨#[]⟩, .string ⟨#[]⟩])) (G - n)) 53)) from below_then (below_drew1 w) (alloc_one _ _) (Nat.le_refl _))
    unfold maxLen at hle
    go_enter Try.func32, Try.ntmps32
    go_wp2_with (at_builtin; refine Lib.wpList_append_run _ rfl _ _ _ _ rfl _ _ rfl rfl _ _ (hr _) ?_)
    go_ret
    exact ⟨_, rfl, HO.out, HB.out⟩

set_option maxHeartbeats 2000000 in
theorem concat_any (v : Value) (ls : List (List KV)) (w : World) (hv : Lis w v ls) (hn : ls.flatten.length ≤ 1000) :
    Calls Try.prog 31 #[v] w (PairsNew w ls.flatten) := by
  have HV := hid hv
  obtain ⟨ao, ca, rfl, a1, a2, -⟩ := hv.slice
  unfold maxLen at a2
  clear hv
  obtain ⟨i0, hi, hz0, hz1, hz2⟩ := info_parts Try.infoP
  go_enter Try.func31, Try.ntmps31
  go_wp2
  go_loop [3, 11] (fun z i => ∃ k m : Nat, k ≤ ls.length ∧ i = .int .i64 k ∧ z = .int .i64 m ∧ m = (ls.take k).flatten.length) (fun _ i => ls.length - (intOf i).toNat)
  case atStart => exact ⟨0, 0, by omega, rfl, rfl, rfl⟩
  case round =>
    obtain ⟨k, m, hk, rfl, rfl, hm⟩ := hrel
    have HM := hid hm
    have hml : m ≤ 1000 := by have := flat_take_le ls k; omega
    clear hm
    by_cases hlt : k < ls.length
    · obtain ⟨b, off, l, xo, xc, hl, rfl, hb, c1, hp⟩ := HV.out.cell hlt
      have HF := hid (show m + l.length = (ls.take (k + 1)).flatten.length by rw [flat_take hl, List.length_append, ← HM.out])
      have hml2 : m + l.length ≤ 1000 := by have := flat_take_le ls (k + 1); have := HF.out; omega
      clear hl hp HM
      have d4 : decide ((k : Int) < (ls.length : Int)) = true := by simp; omega
      have d5 : decide ((m : Int) + (l.length : Int) < 0) = false := by simp; omega
      go_wp2
      go_round
      case rel => exact ⟨k + 1, m + l.length, by omega, by go_num, by go_num, HF.out⟩
      case measure => simp [intOf]; omega
    · obtain rfl : k = ls.length := by omega
      have d4 : decide ((ls.length : Int) < (ls.length : Int)) = false := by simp
      go_wp2_with fail
      refine (grow_nil m (by omega) w).mono ?_
      rintro e w1 ⟨u, rfl, ho1, hb1⟩
      have HO1 := hid ho1
      have HB1 := hid hb1
      clear ho1 hb1 HM
      go_wp2
      go_loopw [6, 27] (fun u i wr => ∃ k : Nat, k ≤ ls.length ∧ i = .int .i64 k ∧ wr.ownsRow w.heap.size 53 2 u (ls.take k).flatten.length (fl encP (ls.take k).flatten) ∧ Below w.heap.size w wr) (fun _ i _ => ls.length - (intOf i).toNat)
      case atStart => exact ⟨0, by omega, rfl, by simpa [fl] using HO1.out, HB1.out⟩
      case round =>
        obtain ⟨k, hk, rfl, ho, hbel⟩ := hrel
        have HO := hid ho
        have hsz := hbel.size
        clear ho
        have hml3 := flat_take_le ls k
        by_cases hlt : k < ls.length
        · obtain ⟨b, off, l, xo, xc, hl, rfl, hb, c1, hp⟩ := (HV.out.below hbel).cell hlt
          have HF := hid (flat_take hl)
          have hml2 : (ls.take k).flatten.length + l.length ≤ 1000 := by have := flat_take_le ls (k + 1); rw [flat_take hl, List.length_append] at this; omega
          have HP := hid hp
          obtain ⟨-, -, -, hx1, -, hx3, -⟩ := id hp
          clear hl hp
          have d4 : decide ((k : Int) < (ls.length : Int)) = true := by simp; omega
          generalize (ls.take k).flatten = ks at HO HF hml2 hml3
          go_wp2_with (at_builtin; refine wpList_append_own_any _ rfl _ _ 31 rfl w.heap.size 53 i0 (.agg #[.string ⟨#[]⟩, .string ⟨#[]⟩]) 2 32 Try.underlying31 hi hz0 hz1 hz2 rfl (by decide) _ ks.length _ rfl HO.out xo l.length xc (fl encP l) rfl (fl_length encP_len l) (fun e => by obtain ⟨ao2, c2, e2, _, _, h3, _⟩ := HP.out; cases e2; obtain ⟨h4, h5⟩ := h3 e; exact ⟨by rw [h4]; rfl, h5⟩) (HP.out.news encP_len (by decide) (Below.refl _ _)) (fl_one encP_one l) (by unfold maxLen; omega) (by omega) (by omega) ?_; intro v3 w3 ho3 hg3)
          have HB3 := hid (hbel.grown hg3 (by omega) (by intro q hq; exact owns_base HO.out hq))
          have HO3 := hid (show w3.ownsRow w.heap.size 53 2 v3 (ls.take (k + 1)).flatten.length (fl encP (ls.take (k + 1)).flatten) by rw [HF.out, fl_append, List.length_append]; exact ho3)
          clear ho3 hg3 HF HO hbel c1 HP
          go_wp2
          go_roundw
          case rel => exact ⟨k + 1, by omega, by go_num, HO3.out, HB3.out⟩
          case measure => simp [intOf]; omega
        · obtain rfl : k = ls.length := by omega
          have d4 : decide ((ls.length : Int) < (ls.length : Int)) = false := by simp
          rw [List.take_length] at HO
          go_wp2
          go_ret
          exact ⟨_, rfl, HO.out, hbel⟩
theorem join_any (v : Value) (ls : List (List KV)) (w : World) (hv : Lis w v ls) (hn : ls.flatten.length ≤ 1000) :
    Calls Try.prog 28 #[v] w (PairsNew w ls.flatten) := by
  have HV := hid hv
  clear hv
  go_enter Try.func28, Try.ntmps28
  go_wp2_with fail
  refine (concat_any v ls w HV.out hn).mono ?_
  rintro e w1 ⟨u, rfl, ho, hb⟩
  have HO := hid ho
  have HB := hid hb
  clear ho hb
  go_wp2
  go_ret
  exact ⟨_, rfl, HO.out, HB.out⟩
end Go.Proofs.Ytejkboahjfcdcaa
