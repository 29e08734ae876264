/- Sort of the program: a copy, in order. -/
import Derived.Test.YtcahfnjhcngceaaGreatDoorLPairs
import Derived.Test.YtcahfnjhcngceaaGreatDoorSStab
import Derived.Test.YtcahfnjhcngceaaGreatDoorAppAny
namespace Go.Proofs.YtcahfnjhcngceaaGreatDoor
open Go.RowKit
set_option linter.unusedVariables false
set_option maxRecDepth 100000

theorem owns_none (w : World) (t : TypeId) : (w.alloc (.cells #[] t)).ownsRow w.heap.size t 2 (.slice (some ⟨w.heap.size, 0, none⟩) 0 0) 0 [] :=
  ⟨rfl, .inr ⟨w.heap.size, 0, #[], rfl, Nat.le_refl _, new_block _ _, Nat.le_refl _, by unfold maxLen; omega, rfl, rfl⟩⟩

theorem seq_nil (w : World) : (binOp .eql 31 (.slice none 0 0) (.slice none 0 0)).run Tryz.prog w = .ok (.bool true) w := by kernel_rfl
theorem seq_some (w : World) (ad : Addr) (n c : Nat) : (binOp .eql 31 (.slice (some ad) n c) (.slice none 0 0)).run Tryz.prog w = .ok (.bool false) w := by kernel_rfl

set_option maxHeartbeats 1000000 in
theorem clone_any (v : Value) (l : List KV) (w : World) (hv : Prs w v l) (hl : l.length ≤ 1000) : Calls Tryz.prog 54 #[v] w (PairsNew w l) := by
  have HV := hid hv
  obtain ⟨ao, ca, rfl, a1, a2, a3, -⟩ := hv
  obtain ⟨i0, hi, hz0, hz1, hz2⟩ := info_parts Tryz.infoP
  cases ao with
  | none =>
    obtain ⟨rfl, rfl⟩ := a3 rfl
    clear a3
    have hq := seq_nil
    go_enter Tryz.func54, Tryz.ntmps54
    go_wp2
    go_ret
    exact ⟨_, rfl, World.ownsRow_nil _ _ _ _, Below.refl _ _⟩
  | some ad =>
    clear a3
    unfold maxLen at a2
    have hq := seq_some
    have hb1 : Below w.heap.size w (w.alloc (.cells #[] 53)) := (Below.refl _ w).alloc (Nat.le_refl _) _
    go_enter Tryz.func54, Tryz.ntmps54
    go_wp2_with (at_builtin; refine wpList_append_own_any _ rfl _ _ 31 rfl w.heap.size 53 i0 _ 2 32 Tryz.underlying31 hi hz0 hz1 hz2 rfl (by decide) _ 0 [] rfl (owns_none w 53) (some ad) l.length ca (fl encP l) rfl (fl_length encP_len l) (fun e => by cases e) (HV.out.news encP_len (by decide) hb1) (fl_one encP_one l) (by unfold maxLen; omega) (by omega) (by simp) ?_; intro v1 w1 ho1 hg1)
    have HO := hid ho1
    have HB := hid (hb1.grown hg1 (by simp) (by intro q hq; cases hq; exact Nat.le_refl _))
    clear ho1 hg1
    go_wp2
    go_ret
    exact ⟨_, rfl, by have := HO.out; simpa using this, HB.out⟩

set_option maxHeartbeats 1000000 in
theorem insertion_nil (w : World) : Calls Tryz.prog 88 #[.slice none 0 0, .int .i64 0, .int .i64 0, keyFn] w fun e w' => e = .returned (.tuple #[]) ∧ w' = w := by
  go_enter Tryz.func88, Tryz.ntmps88
  go_wp2
  go_loop [8] (fun i => i = .int .i64 1) (fun _ => 0)
  case atStart => rfl
  case round =>
    subst hrel
    go_wp2
    go_end0
    exact ⟨rfl, rfl⟩
set_option maxHeartbeats 1000000 in
theorem stable_nil (w : World) : Calls Tryz.prog 75 #[.slice none 0 0, .int .i64 0, keyFn] w fun e w' => e = .returned (.tuple #[]) ∧ w' = w := by
  go_enter Tryz.func75, Tryz.ntmps75
  go_wp2
  go_loop [7, 8] (fun i j => i = .int .i64 0 ∧ j = .int .i64 20) (fun _ _ => 0)
  case atStart => exact ⟨rfl, rfl⟩
  case round =>
    obtain ⟨rfl, rfl⟩ := hrel
    go_wp2_with fail
    refine (insertion_nil _).mono ?_
    rintro e w1 ⟨rfl, rfl⟩
    go_wp2
    go_loop [6] (fun i => i = .int .i64 20) (fun _ => 0)
    case atStart => rfl
    case round =>
      subst hrel
      go_wp2
      go_end0
      exact ⟨rfl, rfl⟩

set_option maxHeartbeats 1000000 in
theorem stableFunc_own (base n : Nat) (v : Value) (l : List KV) (w : World) (ho : w.ownsRow base 53 2 v n (fl encP l)) (hn : n ≤ 1000) :
    Calls Tryz.prog 55 #[v, keyFn] w fun e w' => e = .returned (.tuple #[]) ∧ w'.ownsRow base 53 2 v n (fl encP (srt l)) ∧ w.grownBy w' v.ownBlock := by
  have hl : l.length = n := by have := ho.1; rw [fl_length encP_len] at this; omega
  rcases ho.2 with ⟨rfl, rfl⟩ | ⟨g, cap, cur, rfl, hbase, hg, r⟩
  · obtain rfl := List.eq_nil_of_length_eq_zero hl
    have HO := hid ho
    clear ho
    go_enter Tryz.func55, Tryz.ntmps55
    go_wp2_with fail
    refine (stable_nil _).mono ?_
    rintro e w1 ⟨rfl, rfl⟩
    go_wp2
    go_end0
    exact ⟨rfl, HO.out, World.grownBy.refl _ _⟩
  · have HO := hid (show Row base g n cap l w from ho)
    clear ho r hg
    go_enter Tryz.func55, Tryz.ntmps55
    go_wp2_with fail
    refine (stable_calls base g n cap l w HO.out hn).mono ?_
    rintro e w1 ⟨rfl, hr, hg⟩
    have HR := hid hr
    clear hr
    go_wp2
    go_end0
    exact ⟨rfl, HR.out, hg⟩

set_option maxHeartbeats 1000000 in
theorem sort_any (v : Value) (l : List KV) (w : World) (hv : Prs w v l) (hl : l.length ≤ 1000) : Calls Tryz.prog 37 #[v] w (PairsNew w (srt l)) := by
  have HV := hid hv
  clear hv
  go_enter Tryz.func37, Tryz.ntmps37
  go_wp2_with fail
  refine (clone_any v l w HV.out hl).mono ?_
  rintro e w1 ⟨u, rfl, ho1, hb1⟩
  have HO := hid ho1
  have HB := hid hb1
  clear ho1 hb1
  go_wp2_with fail
  refine (stableFunc_own _ _ _ _ w1 HO.out hl).mono ?_
  rintro e w2 ⟨rfl, ho2, hg2⟩
  have HO2 := hid ho2
  have HB2 := hid (HB.out.grown hg2 HB.out.size (by intro q hq; exact owns_base HO.out hq))
  clear ho2 hg2
  go_wp2
  go_ret
  exact ⟨_, rfl, by rw [length_srt]; exact HO2.out, HB2.out⟩
end Go.Proofs.YtcahfnjhcngceaaGreatDoor
