/- SnapRises: more splits reach no fewer marks; one more reaches one more just if it is due. -/
import Derived.Test.YtpnjjiibcllgiaaSnAwake
import Derived.Test.YtpnjjiibcllgiaaIntsArg
import Derived.Test.YtpnjjiibcllgiaaLowC
namespace Go.Proofs.Ytpnjjiibcllgiaa
open Go.RowKit
set_option linter.unusedVariables false
theorem apart_step {l : List Int} {k : Nat} {x : Int} (h : l[k]? = some x) (hp : (l.take k).Pairwise (· ≠ ·)) (hd : dueL (l.take k) x = false) : (l.take (k + 1)).Pairwise (· ≠ ·) := by
  rw [take_snoc_int h, List.pairwise_append]
  refine ⟨hp, List.pairwise_singleton _ _, fun a ha b hb => ?_⟩
  rw [List.mem_singleton] at hb
  subst hb
  intro e
  subst e
  rw [(dueL_iff _ _).2 ha] at hd
  cases hd
theorem not_due_take {l : List Int} {x : Int} : dueL (l.take 0) x = false := rfl
set_option maxHeartbeats 4000000 in
theorem snapRises_walk (W : World) (v : Value) (l : List Int) (h : rSlice 1 (rInt .i64) W [v] l) (n : Int) (wn : (Lit.int .i64 n).wf = true) :
    Calls Try.prog 4 #[v, .int .i64 n] W fun e w' => e = .returned (.bool true) ∧ Below W.heap.size W w' := by
  have I := hid (Is.arg h).1
  obtain ⟨ao, ca, hv, a1, a2, a3, a4⟩ := (Is.arg h).1
  subst hv
  unfold maxLen at a2
  have HA := hid a4
  clear h a3 a4 wn
  by_cases hl : l.length ≤ 6
  · have d1 : decide ((6 : Int) < (l.length : Int)) = false := by simp; omega
    go_enter Try.func4, Try.ntmps4
    go_wp2
    go_loopw [5, 6] (fun i u wr => ∃ k : Nat, k ≤ l.length ∧ i = .int .i64 k ∧ (l.take k).Pairwise (· ≠ ·) ∧ ∃ t, wr = W.drewN t) (fun i _ _ => l.length - (intOf i).toNat)
    case atStart => exact ⟨0, by omega, rfl, List.Pairwise.nil, 0, rfl⟩
    case round =>
      obtain ⟨k, hk, rfl, htk, t, rfl⟩ := hrel
      have HT := hid htk
      clear htk
      by_cases hlt : k < l.length
      · obtain ⟨p, po, rfl, hp, hpc⟩ := HA.out (not_nil hlt)
        obtain ⟨x, hx⟩ : ∃ x, l.getD k 0 = x := ⟨_, rfl⟩
        have c1 : W.cell? ⟨p, po + k, none⟩ = some (.int .i64 x) := by rw [← hx]; exact hpc k hlt
        have HX := hid (getD_some hlt hx)
        have HP := hid hpc
        clear hx hpc
        go_wp2
        go_loopw [6] (fun j wr => ∃ m : Nat, m ≤ k ∧ j = .int .i64 m ∧ dueL (l.take m) x = false ∧ ∃ t, wr = W.drewN t) (fun j _ => k - (intOf j).toNat)
        case atStart => exact ⟨0, by omega, rfl, rfl, t, rfl⟩
        case round =>
          obtain ⟨m, hm, rfl, htm, s, rfl⟩ := hrel
          have HM := hid htm
          clear htm
          by_cases hmk : m < k
          · have hml : m < l.length := by omega
            obtain ⟨y, hy⟩ : ∃ y, l.getD m 0 = y := ⟨_, rfl⟩
            have c2 : W.cell? ⟨p, po + m, none⟩ = some (.int .i64 y) := by rw [← hy]; exact HP.out m hml
            have HY := hid (getD_some hml hy)
            clear hy
            by_cases hyx : y = x
            · have e2 : (y == x) = true := by simpa using hyx
              clear hyx
              go_wp2
              go_quiet (fail)
              go_wp2_with fail
              refine (awake_any _).mono ?_
              rintro e w1 ⟨rfl, hb⟩
              have HB := hid ((below_drewNW W _).trans hb)
              clear hb
              go_wp2
              go_ret
              exact ⟨rfl, HB.out⟩
            · have e2 : (y == x) = false := by simpa using hyx
              have HD := hid (dueL_step HY.out HM.out hyx)
              clear hyx
              go_wp2
              go_quiet (fail)
              go_wp2
              go_roundw
              case rel => exact ⟨m + 1, by omega, by go_num, HD.out, _, rfl⟩
              case measure => simp [intOf]; omega
          · obtain rfl : m = k := by omega
            have HD := hid (apart_step HX.out HT.out HM.out)
            go_wp2
            go_roundw
            case rel => exact ⟨m + 1, by omega, by go_num, HD.out, _, rfl⟩
            case measure => simp [intOf]; omega
      · obtain rfl : k = l.length := by omega
        have hpw : l.Pairwise (· ≠ ·) := by have := HT.out; rwa [List.take_length] at this
        obtain ⟨N, hN, hN2⟩ := low_nat n 20 (by omega)
        have hrise := reached_rises hpw N
        have hle := reachedL_le l (N : Int)
        have J := hid (I.out.drew t)
        have B0 := hid (below_drewNW W t)
        generalize W.drewN t = w0 at J B0 ⊢
        have HN := hid hN
        have hw1 : IntKind.i64.wrap ((N : Int) + 1) = (N : Int) + 1 := by rw [IntKind.wrap_i64]; omega
        clear hpw hN HT I
        go_wp2_with fail
        refine (low_calls n 20 (by omega) (by omega) w0).mono ?_
        rintro e w1 ⟨rfl, rfl⟩
        rw [show low n 20 = (N : Int) from HN.out]
        clear HN
        go_wp2_with fail
        refine (reached_any _ l ((N : Int) + 1) w0 J.out).mono ?_
        rintro e w1 ⟨rfl, t1, hw1'⟩
        have J1 := hid (show Is w1 _ l from by rw [hw1']; exact J.out.drew t1)
        have B1 := hid (show Below W.heap.size W w1 from by rw [hw1']; exact B0.out.trans ((below_drewNW w0 t1).mono B0.out.size))
        clear hw1' J B0
        obtain ⟨A, hA⟩ : ∃ A : Int, (reachedL l ((N : Int) + 1) : Int) = A := ⟨_, rfl⟩
        rw [hA]
        go_wp2_with fail
        refine (reached_any _ l (N : Int) w1 J1.out).mono ?_
        rintro e w2 ⟨rfl, t2, hw2'⟩
        have J2 := hid (show Is w2 _ l from by rw [hw2']; exact J1.out.drew t2)
        have B2 := hid (show Below W.heap.size W w2 from by rw [hw2']; exact B1.out.trans ((below_drewNW w1 t2).mono B1.out.size))
        clear hw2' J1 B1
        obtain ⟨B, hB⟩ : ∃ B : Int, (reachedL l (N : Int) : Int) = B := ⟨_, rfl⟩
        rw [hB]
        cases hdu : dueL l ((N : Int) + 1) with
        | true =>
          rw [if_pos hdu] at hrise
          have hsub : IntKind.i64.wrap (A - B) = 1 := by rw [IntKind.wrap_i64, ← hA, ← hB, hrise]; omega
          have HDU := hid hdu
          clear hrise hA hB hle hdu
          go_wp2_with fail
          refine (due_any _ l ((N : Int) + 1) w2 J2.out).mono ?_
          rintro e w3 ⟨rfl, t3, rfl⟩
          rw [HDU.out]
          go_wp2_with fail
          refine (awake_any _).mono ?_
          rintro e w4 ⟨rfl, hb⟩
          have HB := hid (B2.out.trans (((below_drewNW w2 t3).trans hb).mono B2.out.size))
          clear hb B2
          go_wp2
          go_ret
          exact ⟨rfl, HB.out⟩
        | false =>
          rw [if_neg (by rw [hdu]; decide)] at hrise
          have hsub : IntKind.i64.wrap (A - B) = 0 := by rw [IntKind.wrap_i64, ← hA, ← hB, hrise]; omega
          have HDU := hid hdu
          clear hrise hA hB hle hdu
          go_wp2_with fail
          refine (due_any _ l ((N : Int) + 1) w2 J2.out).mono ?_
          rintro e w3 ⟨rfl, t3, rfl⟩
          rw [HDU.out]
          go_wp2_with fail
          refine (awake_any _).mono ?_
          rintro e w4 ⟨rfl, hb⟩
          have HB := hid (B2.out.trans (((below_drewNW w2 t3).trans hb).mono B2.out.size))
          clear hb B2
          go_wp2
          go_ret
          exact ⟨rfl, HB.out⟩
  · have d1 : decide ((6 : Int) < (l.length : Int)) = true := by simp; omega
    clear I HA hl
    go_enter Try.func4, Try.ntmps4
    go_wp2_with fail
    refine (awake_any _).mono ?_
    rintro e w1 ⟨rfl, hb⟩
    go_wp2
    go_ret
    exact ⟨rfl, hb⟩
end Go.Proofs.Ytpnjjiibcllgiaa
