/- Laid together: SStab SPair. -/
import Derived.Test.YtfimoobgbodbmaaGreatDoorSSymM
import Derived.Test.YtfimoobgbodbmaaGreatDoorGKeys
import Derived.Test.YtfimoobgbodbmaaGreatDoorLPairs
import Derived.Test.YtfimoobgbodbmaaGreatDoorAppAny
/-! stable of the library: blocks of 20 in order, then merged, two by two. -/
namespace Go.Proofs.YtfimoobgbodbmaaGreatDoor
open Go.RowKit
set_option linter.unusedVariables false
set_option maxRecDepth 100000

set_option maxRecDepth 100000 in
set_option maxHeartbeats 8000000 in
theorem stable_calls (base g n cap : Nat) (l : List KV) (w : World) (hr : Row base g n cap l w) (hn : n ≤ 1000) :
    Calls Tryz.prog 188 #[.slice (some ⟨g, 0, none⟩) n cap, .int .i64 n, keyFn] w fun e w' => e = .returned (.tuple #[]) ∧ Row base g n cap (srt l) w' ∧ w.grownBy w' (some g) := by
  have HR := hid hr
  have hlen := hr.len
  clear hr
  go_enter Tryz.func188, Tryz.ntmps188
  go_wp2
  go_loopw [7, 8] (fun i j wr => ∃ (a b : Nat) (D Y : List KV), i = .int .i64 a ∧ j = .int .i64 b ∧ a + 20 = b ∧ D.length = a ∧ D.length + Y.length = n ∧ D ++ runs 20 Y = runs 20 l ∧ Row base g n cap (D ++ Y) wr ∧ w.grownBy wr (some g)) (fun i j _ => n + 20 - (intOf j).toNat)
  case atStart => exact ⟨0, 20, [], l, rfl, rfl, rfl, rfl, by simpa using hlen, by simp, by simpa using HR.out, World.grownBy.refl _ _⟩
  case round =>
    obtain ⟨a, b, D, Y, rfl, rfl, hab, hD, hDY, hruns, hrow, hgr⟩ := hrel
    have HU := hid hruns
    clear hruns
    by_cases hle : b ≤ n
    · as_aux_lemma =>
        have hd : decide (b ≤ n) = true := by simp; omega
        obtain ⟨Y1, Y2, rfl, hY1⟩ := split_at (l := Y) (s := 20) (by omega)
        have HW := hid (show Row base g n cap (D ++ Y1 ++ Y2) wr by simpa using hrow)
        clear hrow
        go_wp2_with fail
        refine (insertion_calls base g n cap a b _ _ _ wr HW.out hn hD (by omega)).mono ?_
        rintro e w2 ⟨rfl, hr2, hg2⟩
        have HG2 := hid (grownBy_trans hgr hg2)
        have HR2 := hid (show Row base g n cap ((D ++ srt Y1) ++ Y2) w2 by simpa using hr2)
        clear hr2 hg2
        rw [List.length_append] at hDY
        go_wp2
        go_roundw
        case rel =>
          refine ⟨b, b + 20, D ++ srt Y1, Y2, rfl, by go_num, rfl, by rw [List.length_append, length_srt]; omega, by rw [List.length_append, length_srt]; omega, ?_, HR2.out, HG2.out⟩
          rw [← HU.out, runs_cons (by omega) hY1, List.append_assoc]
        case measure => simp [intOf]; omega
    · as_aux_lemma =>
        have hd : decide (b ≤ n) = false := by simp; omega
        have HW := hid (show Row base g n cap (D ++ Y ++ []) wr by simpa using hrow)
        clear hrow
        go_wp2_with fail
        refine (insertion_calls base g n cap a n _ _ _ wr HW.out hn hD (by omega)).mono ?_
        rintro e w2 ⟨rfl, hr2, hg2⟩
        have HG2 := hid (grownBy_trans hgr hg2)
        have HR2 := hid (show Row base g n cap (runs 20 l) w2 by
          rw [← HU.out, runs_le (by omega)]
          simpa using hr2)
        clear hr2 hg2 hgr HW HU
        go_wp2
        go_loopw [6] (fun i wr => ∃ s : Nat, 20 ≤ s ∧ s ≤ 2000 ∧ i = .int .i64 s ∧ Row base g n cap (runs s l) wr ∧ w.grownBy wr (some g)) (fun i _ => n - (intOf i).toNat)
        case atStart => exact ⟨20, by omega, by omega, rfl, HR2.out, HG2.out⟩
        case round =>
          clear HR2 HG2
          obtain ⟨s, hs1, hs2, rfl, hrow, hgr⟩ := hrel
          by_cases hsn : s < n
          · as_aux_lemma =>
              have hd2 : decide (s < n) = true := by simp; omega
              obtain ⟨s2, hs2⟩ : ∃ s2, 2 * s = s2 := ⟨_, rfl⟩
              have hm1 : (2 * (s : Int)) = (s2 : Int) := by omega
              have hm2 : ((s : Int) * 2) = (s2 : Int) := by omega
              have HW := hid hrow
              clear hrow
              go_wp2
              go_loopw [7, 8] (fun i j wq => ∃ (a b : Nat) (D Y : List KV), i = .int .i64 a ∧ j = .int .i64 b ∧ a + s2 = b ∧ D.length = a ∧ D.length + Y.length = n ∧ D ++ runs s2 Y = runs s2 l ∧ Row base g n cap (D ++ runs s Y) wq ∧ w.grownBy wq (some g)) (fun i j _ => n + s2 - (intOf j).toNat)
              case atStart => exact ⟨0, s2, [], l, rfl, rfl, by omega, rfl, by simpa using hlen, by simp, by simpa using HW.out, hgr⟩
              case round =>
                clear hgr HW
                obtain ⟨a, b, D, Y, rfl, rfl, hab, hD, hDY, hruns, hrow, hgr⟩ := hrel
                have HU := hid hruns
                clear hruns
                by_cases hle : b ≤ n
                · as_aux_lemma =>
                    have hd3 : decide (b ≤ n) = true := by simp; omega
                    obtain ⟨Y1, Y4, rfl, hY1⟩ := split_at (l := Y) (s := s) (by omega)
                    rw [List.length_append] at hDY
                    obtain ⟨Y2, Y3, rfl, hY2⟩ := split_at (l := Y4) (s := s) (by omega)
                    rw [List.length_append] at hDY
                    obtain ⟨m, hm⟩ : ∃ m, a + s = m := ⟨_, rfl⟩
                    have hmm : ((a : Int) + (s : Int)) = (m : Int) := by omega
                    have HE := hid (show runs s2 (Y1 ++ (Y2 ++ Y3)) = srt (srt Y1 ++ srt Y2) ++ runs s2 Y3 by
                      rw [srt_parts, ← List.append_assoc, runs_cons (by omega) (by rw [List.length_append]; omega)])
                    rw [runs_cons (by omega) hY1, runs_cons (by omega) hY2] at hrow
                    have HW := hid (show Row base g n cap (D ++ srt Y1 ++ srt Y2 ++ runs s Y3) wr by simpa using hrow)
                    clear hrow
                    have k1 : (srt Y1).length = s := by rw [length_srt]; exact hY1
                    have k2 : (srt Y2).length = s := by rw [length_srt]; exact hY2
                    have hI := sym_ok (s + s + 1) base g n cap a m b D (srt Y1) (srt Y2) (runs s Y3) wr (by omega) HW.out hn hD (by omega) (by omega) (by omega) (by omega) (rising_srt _) (rising_srt _)
                    unfold SymDoes at hI
                    have HI := hid hI
                    clear hI HW
                    go_wp2_with fail
                    refine HI.out.mono ?_
                    rintro e w2 ⟨rfl, hr2, hg2⟩
                    have HG2 := hid (grownBy_trans hgr hg2)
                    have HR2 := hid (show Row base g n cap ((D ++ srt (srt Y1 ++ srt Y2)) ++ runs s Y3) w2 by simpa using hr2)
                    clear hr2 hg2 HI
                    obtain ⟨b2, hb2⟩ : ∃ b2, b + s2 = b2 := ⟨_, rfl⟩
                    have hbb : ((b : Int) + (s2 : Int)) = (b2 : Int) := by omega
                    go_wp2
                    go_roundw
                    case rel =>
                      refine ⟨b, b2, D ++ srt (srt Y1 ++ srt Y2), Y3, rfl, by go_num, hb2, ?_, ?_, ?_, HR2.out, HG2.out⟩
                      · rw [List.length_append, length_srt, List.length_append]; omega
                      · rw [List.length_append, length_srt, List.length_append]; omega
                      · rw [← HU.out, HE.out, List.append_assoc]
                    case measure => simp [intOf]; omega
                · have hd3 : decide (b ≤ n) = false := by simp; omega
                  obtain ⟨m, hm⟩ : ∃ m, a + s = m := ⟨_, rfl⟩
                  have hmm : ((a : Int) + (s : Int)) = (m : Int) := by omega
                  by_cases hmn : m < n
                  · as_aux_lemma =>
                      have hd4 : decide (m < n) = true := by simp; omega
                      obtain ⟨Y1, Y2, rfl, hY1⟩ := split_at (l := Y) (s := s) (by omega)
                      rw [List.length_append] at hDY
                      have HE := hid (show D ++ srt (srt Y1 ++ srt Y2) ++ [] = runs s2 l by
                        rw [srt_parts, ← HU.out, runs_le (by rw [List.length_append]; omega)]
                        simp)
                      rw [runs_cons (by omega) hY1, runs_le (l := Y2) (by omega)] at hrow
                      have HW := hid (show Row base g n cap (D ++ srt Y1 ++ srt Y2 ++ []) wr by simpa using hrow)
                      clear hrow
                      have k1 : (srt Y1).length = s := by rw [length_srt]; exact hY1
                      have k2 : (srt Y2).length = Y2.length := by rw [length_srt]
                      have hI := sym_ok (s + n + 1) base g n cap a m n D (srt Y1) (srt Y2) [] wr (by omega) HW.out hn hD (by omega) (by omega) (by omega) (by omega) (rising_srt _) (rising_srt _)
                      unfold SymDoes at hI
                      have HI := hid hI
                      clear hI HW
                      go_wp2_with fail
                      refine HI.out.mono ?_
                      rintro e w2 ⟨rfl, hr2, hg2⟩
                      have HG2 := hid (grownBy_trans hgr hg2)
                      have HR2 := hid (show Row base g n cap (runs s2 l) w2 by rw [← HE.out]; exact hr2)
                      clear hr2 hg2 HI
                      go_wp2
                      go_roundw
                      case rel => exact ⟨s2, by omega, by omega, by go_num, HR2.out, HG2.out⟩
                      case measure => simp [intOf]; omega
                  · as_aux_lemma =>
                      have hd4 : decide (m < n) = false := by simp; omega
                      have HR2 := hid (show Row base g n cap (runs s2 l) wr by
                        rw [← HU.out, runs_le (by omega), ← runs_le (s := s) (by omega)]
                        exact hrow)
                      clear hrow
                      go_wp2
                      go_roundw
                      case rel => exact ⟨s2, by omega, by omega, by go_num, HR2.out, hgr⟩
                      case measure => simp [intOf]; omega
          · as_aux_lemma =>
              have hd2 : decide (s < n) = false := by simp; omega
              rw [runs_le (by omega)] at hrow
              have HW := hid hrow
              clear hrow
              go_wp2
              go_end0
              exact ⟨rfl, HW.out, hgr⟩
end Go.Proofs.YtfimoobgbodbmaaGreatDoor
/-! Sort of the program: a copy, in order. -/
namespace Go.Proofs.YtfimoobgbodbmaaGreatDoor
open Go.RowKit
set_option linter.unusedVariables false
set_option maxRecDepth 100000

theorem owns_none (w : World) (t : TypeId) : (w.alloc (.cells #[] t)).ownsRow w.heap.size t 2 (.slice (some ⟨w.heap.size, 0, none⟩) 0 0) 0 [] :=
  ⟨rfl, .inr ⟨w.heap.size, 0, #[], rfl, Nat.le_refl _, new_block _ _, Nat.le_refl _, by unfold maxLen; omega, rfl, rfl⟩⟩

theorem seq_nil (w : World) : (binOp .eql 51 (.slice none 0 0) (.slice none 0 0)).run Tryz.prog w = .ok (.bool true) w := by kernel_rfl
theorem seq_some (w : World) (ad : Addr) (n c : Nat) : (binOp .eql 51 (.slice (some ad) n c) (.slice none 0 0)).run Tryz.prog w = .ok (.bool false) w := by kernel_rfl

set_option maxHeartbeats 1000000 in
theorem clone_any (v : Value) (l : List KV) (w : World) (hv : Prs w v l) (hl : l.length ≤ 1000) : Calls Tryz.prog 94 #[v] w (PairsNew w l) := by
  have HV := hid hv
  obtain ⟨ao, ca, rfl, a1, a2, a3, -⟩ := hv
  obtain ⟨i0, hi, hz0, hz1, hz2⟩ := info_parts Tryz.infoP
  cases ao with
  | none =>
    obtain ⟨rfl, rfl⟩ := a3 rfl
    clear a3
    have hq := seq_nil
    go_enter Tryz.func94, Tryz.ntmps94
    go_wp2
    go_ret
    exact ⟨_, rfl, World.ownsRow_nil _ _ _ _, Below.refl _ _⟩
  | some ad =>
    clear a3
    unfold maxLen at a2
    have hq := seq_some
    have hb1 : Below w.heap.size w (w.alloc (.cells #[] 105)) := (Below.refl _ w).alloc (Nat.le_refl _) _
    go_enter Tryz.func94, Tryz.ntmps94
    go_wp2_with (at_builtin; refine wpList_append_own_any _ rfl _ _ 51 rfl w.heap.size 105 i0 _ 2 32 Tryz.underlying51 hi hz0 hz1 hz2 rfl (by decide) _ 0 [] rfl (owns_none w 105) (some ad) l.length ca (fl encP l) rfl (fl_length encP_len l) (fun e => by cases e) (HV.out.news encP_len (by decide) hb1) (fl_one encP_one l) (by unfold maxLen; omega) (by omega) (by simp) ?_; intro v1 w1 ho1 hg1)
    have HO := hid ho1
    have HB := hid (hb1.grown hg1 (by simp) (by intro q hq; cases hq; exact Nat.le_refl _))
    clear ho1 hg1
    go_wp2
    go_ret
    exact ⟨_, rfl, by have := HO.out; simpa using this, HB.out⟩

set_option maxHeartbeats 1000000 in
theorem insertion_nil (w : World) : Calls Tryz.prog 213 #[.slice none 0 0, .int .i64 0, .int .i64 0, keyFn] w fun e w' => e = .returned (.tuple #[]) ∧ w' = w := by
  go_enter Tryz.func213, Tryz.ntmps213
  go_wp2
  go_loop [8] (fun i => i = .int .i64 1) (fun _ => 0)
  case atStart => rfl
  case round =>
    subst hrel
    go_wp2
    go_end0
    exact ⟨rfl, rfl⟩
set_option maxHeartbeats 1000000 in
theorem stable_nil (w : World) : Calls Tryz.prog 188 #[.slice none 0 0, .int .i64 0, keyFn] w fun e w' => e = .returned (.tuple #[]) ∧ w' = w := by
  go_enter Tryz.func188, Tryz.ntmps188
  go_wp2
  go_loop [7, 8] (fun i j => i = .int .i64 0 ∧ j = .int .i64 20) (fun _ _ => 0)
  case atStart => exact ⟨rfl, rfl⟩
  case round =>
    obtain ⟨rfl, rfl⟩ := hrel
    go_wp2_with fail
    refine (insertion_nil _).mono ?_
    rintro e w1 ⟨rfl, rfl⟩
    go_wp2
    go_loop [6] (fun i => i = .int .i64 20) (fun _ => 0)
    case atStart => rfl
    case round =>
      subst hrel
      go_wp2
      go_end0
      exact ⟨rfl, rfl⟩

set_option maxHeartbeats 1000000 in
theorem stableFunc_own (base n : Nat) (v : Value) (l : List KV) (w : World) (ho : w.ownsRow base 105 2 v n (fl encP l)) (hn : n ≤ 1000) :
    Calls Tryz.prog 138 #[v, keyFn] w fun e w' => e = .returned (.tuple #[]) ∧ w'.ownsRow base 105 2 v n (fl encP (srt l)) ∧ w.grownBy w' v.ownBlock := by
  have hl : l.length = n := by have := ho.1; rw [fl_length encP_len] at this; omega
  rcases ho.2 with ⟨rfl, rfl⟩ | ⟨g, cap, cur, rfl, hbase, hg, r⟩
  · obtain rfl := List.eq_nil_of_length_eq_zero hl
    have HO := hid ho
    clear ho
    go_enter Tryz.func138, Tryz.ntmps138
    go_wp2_with fail
    refine (stable_nil _).mono ?_
    rintro e w1 ⟨rfl, rfl⟩
    go_wp2
    go_end0
    exact ⟨rfl, HO.out, World.grownBy.refl _ _⟩
  · have HO := hid (show Row base g n cap l w from ho)
    clear ho r hg
    go_enter Tryz.func138, Tryz.ntmps138
    go_wp2_with fail
    refine (stable_calls base g n cap l w HO.out hn).mono ?_
    rintro e w1 ⟨rfl, hr, hg⟩
    have HR := hid hr
    clear hr
    go_wp2
    go_end0
    exact ⟨rfl, HR.out, hg⟩

set_option maxHeartbeats 1000000 in
theorem sort_any (v : Value) (l : List KV) (w : World) (hv : Prs w v l) (hl : l.length ≤ 1000) : Calls Tryz.prog 122 #[v] w (PairsNew w (srt l)) := by
  have HV := hid hv
  clear hv
  go_enter Tryz.func122, Tryz.ntmps122
  go_wp2_with fail
  refine (clone_any v l w HV.out hl).mono ?_
  rintro e w1 ⟨u, rfl, ho1, hb1⟩
  have HO := hid ho1
  have HB := hid hb1
  clear ho1 hb1
  go_wp2_with fail
  refine (stableFunc_own _ _ _ _ w1 HO.out hl).mono ?_
  rintro e w2 ⟨rfl, ho2, hg2⟩
  have HO2 := hid ho2
  have HB2 := hid (HB.out.grown hg2 HB.out.size (by intro q hq; exact owns_base HO.out hq))
  clear ho2 hg2
  go_wp2
  go_ret
  exact ⟨_, rfl, by rw [length_srt]; exact HO2.out, HB2.out⟩
end Go.Proofs.YtfimoobgbodbmaaGreatDoor
