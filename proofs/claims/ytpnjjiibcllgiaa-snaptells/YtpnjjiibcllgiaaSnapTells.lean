/- SnapTells: when a snapshot is due, how many marks are reached and which set has another one is as the document says. -/
import Derived.Test.YtpnjjiibcllgiaaSnAwake
import Derived.Test.YtpnjjiibcllgiaaSnLend
import Derived.Test.YtpnjjiibcllgiaaIntsArg
namespace Go.Proofs.Ytpnjjiibcllgiaa
open Go.RowKit
set_option linter.unusedVariables false
theorem is_lent {w : World} {g : Nat} {base : Nat} {l : List Int} (h : w.ownsRow base 3 1 (.slice (some ⟨g, 0, none⟩) (l.length + 3) (l.length + 3)) (l.length + 3) (ict (lentI l))) :
    Is w (.slice (some ⟨g, 0, none⟩) (l.length + 3) (l.length + 3)) (lentI l) ∧ Is w (.slice (some ⟨g, 0, none⟩) l.length (l.length + 3)) l :=
  ⟨Is.own h, Is.cut (m := [-777, -777, -777]) (Is.own h)⟩
theorem drew_two (w : World) (s t : Nat) : Below w.heap.size w ((w.drewN s).drewN t) := by rw [World.drewN_drewN]; exact below_drewNW w _
set_option maxHeartbeats 4000000 in
theorem snapTells_walk (W : World) (v : Value) (l : List Int) (h : rSlice 1 (rInt .i64) W [v] l) (n : Int) (wn : (Lit.int .i64 n).wf = true) (va : Value) (a : List Int) (ha : rSlice 1 (rInt .i64) W [va] a) (vb : Value) (b : List Int) (hb : rSlice 1 (rInt .i64) W [vb] b) :
    Calls Try.prog 3 #[v, .int .i64 n, va, vb] W fun e w' => e = .returned (.bool true) ∧ Below W.heap.size W w' := by
  have I := hid (Is.arg h).1
  have IA := hid (Is.arg ha).1
  have IB := hid (Is.arg hb).1
  obtain ⟨lo, lc, hv, _⟩ := (Is.arg h).1
  subst hv
  obtain ⟨ao, ac, hv, _⟩ := (Is.arg ha).1
  subst hv
  obtain ⟨bo, bc, hv, _⟩ := (Is.arg hb).1
  subst hv
  clear h ha hb wn
  by_cases hl : l.length ≤ 20
  · have d1 : decide ((20 : Int) < (l.length : Int)) = false := by simp; omega
    by_cases hla : a.length ≤ 20
    · have d2 : decide ((20 : Int) < (a.length : Int)) = false := by simp; omega
      by_cases hlb : b.length ≤ 20
      · have d3 : decide ((20 : Int) < (b.length : Int)) = false := by simp; omega
        go_enter Try.func3, Try.ntmps3
        go_wp2_with fail
        refine (lendInts_any _ l W I.out (by omega)).mono ?_
        rintro e w1 ⟨rfl, ho, hb1⟩
        have L1 := hid (is_lent ho)
        have B1 := hid hb1
        have I1 := hid (I.out.below hb1)
        have A1 := hid (IA.out.below hb1)
        have C1 := hid (IB.out.below hb1)
        clear ho hb1 I IA IB
        go_wp2_with fail
        refine (due_any _ l n w1 L1.out.2).mono ?_
        rintro e w2 ⟨rfl, t2, rfl⟩
        go_wp2_with fail
        refine (refDue_any _ l n _ (I1.out.drew t2)).mono ?_
        rintro e w3 ⟨rfl, t3, hw3⟩
        have hb3 : Below w1.heap.size w1 w3 := by rw [hw3]; exact drew_two w1 t2 t3
        have e1 : (dueL l n == dueL l n) = true := by simp
        generalize dueL l n = d at e1 ⊢
        have L3 := hid (L1.out.2.below hb3)
        have K3 := hid (L1.out.1.below hb3)
        have I3 := hid (I1.out.below hb3)
        have A3 := hid (A1.out.below hb3)
        have C3 := hid (C1.out.below hb3)
        have B3 := hid (B1.out.trans (hb3.mono B1.out.size))
        clear L1 I1 A1 C1 B1 hb3 hw3
        go_wp2_with fail
        refine (reached_any _ l n w3 L3.out).mono ?_
        rintro e w4 ⟨rfl, t4, rfl⟩
        go_wp2_with fail
        refine (refReached_any _ l n _ (I3.out.drew t4)).mono ?_
        rintro e w5 ⟨rfl, t5, hw5⟩
        have hb5 : Below w3.heap.size w3 w5 := by rw [hw5]; exact drew_two w3 t4 t5
        have e2 : ((reachedL l n : Int) == (reachedL l n : Int)) = true := by simp
        generalize (reachedL l n : Int) = r at e2 ⊢
        have K5 := hid (K3.out.below hb5)
        have I5 := hid (I3.out.below hb5)
        have A5 := hid (A3.out.below hb5)
        have C5 := hid (C3.out.below hb5)
        have B5 := hid (B3.out.trans (hb5.mono B3.out.size))
        clear L3 K3 I3 A3 C3 B3 hb5 hw5
        go_wp2_with fail
        refine (grows_any _ _ a b w5 A5.out C5.out (by omega)).mono ?_
        rintro e w6 ⟨rfl, hb6⟩
        have K6 := hid (K5.out.below hb6)
        have I6 := hid (I5.out.below hb6)
        have A6 := hid (A5.out.below hb6)
        have C6 := hid (C5.out.below hb6)
        have B6 := hid (B5.out.trans (hb6.mono B5.out.size))
        clear K5 I5 A5 C5 B5 hb6
        go_wp2_with fail
        refine (refGrows_any _ _ a b w6 A6.out C6.out).mono ?_
        rintro e w7 ⟨rfl, t7, rfl⟩
        have e3 : (growsL a b == growsL a b) = true := by simp
        generalize growsL a b = g at e3 ⊢
        have K7 := hid (K6.out.drew t7)
        have I7 := hid (I6.out.drew t7)
        clear K6 I6 A6 C6
        go_wp2_with fail
        refine (keptInts_any W.heap.size _ l _ K7.out I7.out (by omega)).mono ?_
        rintro e w8 ⟨rfl, t8, rfl⟩
        go_wp2_with fail
        refine (awake_any _).mono ?_
        rintro e w9 ⟨rfl, hb9⟩
        have B9 := hid (B6.out.trans (((below_drewNW w6 (t7 + t8)).trans hb9).mono B6.out.size))
        clear K7 I7 B6 hb9
        go_wp2
        go_ret
        exact ⟨rfl, B9.out⟩
      · have d3 : decide ((20 : Int) < (b.length : Int)) = true := by simp; omega
        clear I IA IB hl hla hlb
        go_enter Try.func3, Try.ntmps3
        go_wp2_with fail
        refine (awake_any _).mono ?_
        rintro e w1 ⟨rfl, hb⟩
        go_wp2
        go_ret
        exact ⟨rfl, hb⟩
    · have d2 : decide ((20 : Int) < (a.length : Int)) = true := by simp; omega
      clear I IA IB hl hla
      go_enter Try.func3, Try.ntmps3
      go_wp2_with fail
      refine (awake_any _).mono ?_
      rintro e w1 ⟨rfl, hb⟩
      go_wp2
      go_ret
      exact ⟨rfl, hb⟩
  · have d1 : decide ((20 : Int) < (l.length : Int)) = true := by simp; omega
    clear I IA IB hl
    go_enter Try.func3, Try.ntmps3
    go_wp2_with fail
    refine (awake_any _).mono ?_
    rintro e w1 ⟨rfl, hb⟩
    go_wp2
    go_ret
    exact ⟨rfl, hb⟩
end Go.Proofs.Ytpnjjiibcllgiaa
