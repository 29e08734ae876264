/- swapRange and rotate of the library's stable sort, over a row of pairs. -/
import Derived.Test.YtafbofcenbfkeaaSRow
import Derived.Test.YtafbofcenbfkeaaSKey
import Derived.BigRegion
namespace Go.Proofs.Ytafbofcenbfkeaa
open Go.RowKit
set_option linter.unusedVariables false

set_option maxHeartbeats 2000000 in
theorem swapRange_calls (base g n cap a b m : Nat) (f : Value) (A U B V C : List KV) (w : World) (hr : Row base g n cap (A ++ U ++ B ++ V ++ C) w) (hn : n ≤ 1000) (ha : A.length = a) (hb : a + m + B.length = b) (hu : U.length = m) (hv : V.length = m) :
    Calls Try.prog 40 #[.slice (some ⟨g, 0, none⟩) n cap, .int .i64 a, .int .i64 b, .int .i64 m, f] w fun e w' => e = .returned (.tuple #[]) ∧ Row base g n cap (A ++ V ++ B ++ U ++ C) w' ∧ w.grownBy w' (some g) := by
  have HR := hid hr
  have hlen := hr.len
  simp only [List.length_append] at hlen
  clear hr
  go_enter Try.func40, Try.ntmps40
  go_wp2
  go_loopw [10] (fun i wr => ∃ k : Nat, k ≤ m ∧ i = .int .i64 k ∧ ∃ U1 U2 V1 V2, U = U1 ++ U2 ∧ V = V1 ++ V2 ∧ U1.length = k ∧ V1.length = k ∧ Row base g n cap (A ++ V1 ++ U2 ++ B ++ U1 ++ V2 ++ C) wr ∧ w.grownBy wr (some g)) (fun i _ => m - (intOf i).toNat)
  case atStart => exact ⟨0, by omega, rfl, [], U, [], V, rfl, rfl, rfl, rfl, by simpa using HR.out, World.grownBy.refl _ _⟩
  case round =>
    obtain ⟨k, hk, rfl, U1, U2, V1, V2, eU, eV, l1, l2, hrow, hgr⟩ := hrel
    have HE := hid (And.intro eU eV)
    have m1 := congrArg List.length eU
    have m2 := congrArg List.length eV
    rw [List.length_append] at m1 m2
    clear eU eV
    by_cases hlt : k < m
    · have hd : decide ((k : Int) < (m : Int)) = true := by simp; omega
      obtain ⟨u, U2, rfl⟩ : ∃ u U3, U2 = u :: U3 := by cases U2 with
        | nil => simp at m1; omega
        | cons u U3 => exact ⟨u, U3, rfl⟩
      obtain ⟨v, V2, rfl⟩ : ∃ v V3, V2 = v :: V3 := by cases V2 with
        | nil => simp at m2; omega
        | cons u U3 => exact ⟨u, U3, rfl⟩
      simp only [List.length_cons] at m1 m2
      have e1 : A ++ V1 ++ u :: U2 ++ B ++ U1 ++ v :: V2 ++ C = (A ++ V1) ++ u :: ((U2 ++ B ++ U1) ++ v :: (V2 ++ C)) := by simp
      rw [e1] at hrow
      have hx := hrow.at (i := a + k) (by simp; omega)
      have hy := (show Row base g n cap ((A ++ V1 ++ u :: (U2 ++ B ++ U1)) ++ v :: (V2 ++ C)) wr by simpa using hrow).at (i := b + k) (by simp; omega)
      have hf := hrow.free
      have s := hrow.swap (i := a + k) (j := b + k) (by simp; omega) (by simp; omega)
      obtain ⟨x0, x1⟩ := hx
      obtain ⟨y0, y1⟩ := hy
      have HS := hid s
      clear s hrow e1
      have hak : a + k < n := by omega
      have hbk : b + k < n := by omega
      obtain ⟨u0, u1⟩ := u
      obtain ⟨v0, v1⟩ := v
      simp only at x0 x1 y0 y1
      go_wp2
      go_region
      have HS2 := hid (HS.out.1.below (below_drew1 _))
      have HG2 := hid (grownBy_trans (grownBy_trans hgr HS.out.2) (grownBy_drew _ _))
      clear HS hgr x0 x1 y0 y1
      go_wp2
      go_roundw
      case rel =>
        refine ⟨k + 1, by omega, by go_num, U1 ++ [(u0, u1)], U2, V1 ++ [(v0, v1)], V2, ?_, ?_, by simp; omega, by simp; omega, ?_, HG2.out⟩
        · rw [HE.out.1]; simp
        · rw [HE.out.2]; simp
        · have := HS2.out
          simpa using this
      case measure => simp [intOf]; omega
    · obtain rfl : k = m := by omega
      have hd : decide ((k : Int) < (k : Int)) = false := by simp
      obtain rfl : U2 = [] := List.eq_nil_of_length_eq_zero (by omega)
      obtain rfl : V2 = [] := List.eq_nil_of_length_eq_zero (by omega)
      simp only [List.append_nil] at HE hrow
      rw [← HE.out.1, ← HE.out.2] at hrow
      have HW := hid hrow
      clear hrow
      go_wp2
      go_end0
      exact ⟨rfl, HW.out, hgr⟩

set_option maxHeartbeats 2000000 in
/-- Two runs beside each other change places. -/
theorem rotate_calls (base g n cap a m b : Nat) (f : Value) (A U V C : List KV) (w : World) (hr : Row base g n cap (A ++ U ++ V ++ C) w) (hn : n ≤ 1000) (ha : A.length = a) (hu : a + U.length = m) (hv : m + V.length = b) (h1 : a < m) (h2 : m < b) :
    Calls Try.prog 38 #[.slice (some ⟨g, 0, none⟩) n cap, .int .i64 a, .int .i64 m, .int .i64 b, f] w fun e w' => e = .returned (.tuple #[]) ∧ Row base g n cap (A ++ V ++ U ++ C) w' ∧ w.grownBy w' (some g) := by
  have HR := hid hr
  have hlen := hr.len
  simp only [List.length_append] at hlen
  clear hr
  have hm1 : ((m : Int) - (a : Int)) = ((m - a : Nat) : Int) := by omega
  have hm2 : ((b : Int) - (m : Int)) = ((b - m : Nat) : Int) := by omega
  go_enter Try.func38, Try.ntmps38
  go_wp2
  go_loopw [10, 11] (fun i j wr => ∃ p q : Nat, 0 < p ∧ 0 < q ∧ i = .int .i64 p ∧ j = .int .i64 q ∧ ∃ X U' V' Y, U'.length = p ∧ V'.length = q ∧ A.length + X.length + p = m ∧ Row base g n cap (A ++ X ++ U' ++ V' ++ Y ++ C) wr ∧ X ++ V' ++ U' ++ Y = V ++ U ∧ w.grownBy wr (some g)) (fun i j _ => (intOf i).toNat + (intOf j).toNat)
  case atStart => exact ⟨m - a, b - m, by omega, by omega, rfl, rfl, [], U, V, [], by omega, by omega, by simp; omega, by simpa using HR.out, by simp, World.grownBy.refl _ _⟩
  case round =>
    obtain ⟨p, q, p0, q0, rfl, rfl, X, U', V', Y, l1, l2, l3, hrow, he, hgr⟩ := hrel
    have HE := hid he
    have hl2 := hrow.len
    simp only [List.length_append] at hl2
    have hmp : ((m : Int) - (p : Int)) = ((m - p : Nat) : Int) := by omega
    clear he hm1 hm2
    by_cases hpq : p = q
    · subst hpq
      have hd : ((p : Int) != (p : Int)) = false := by simp
      have HW := hid (show Row base g n cap ((A ++ X) ++ U' ++ [] ++ V' ++ (Y ++ C)) wr by simpa using hrow)
      clear hrow
      go_wp2_with fail
      refine (swapRange_calls base g n cap (m - p) m p f _ _ _ _ _ wr HW.out hn (by simp; omega) (by simp; omega) l1 l2).mono ?_
      rintro e w2 ⟨rfl, hr2, hg2⟩
      have HR2 := hid (show Row base g n cap (A ++ V ++ U ++ C) w2 by
        have : A ++ X ++ V' ++ [] ++ U' ++ (Y ++ C) = A ++ (X ++ V' ++ U' ++ Y) ++ C := by simp
        rw [this, HE.out] at hr2
        simpa using hr2)
      have HG2 := hid (grownBy_trans hgr hg2)
      clear hr2 hg2
      go_wp2
      go_end0
      exact ⟨rfl, HR2.out, HG2.out⟩
    · have hd : ((p : Int) != (q : Int)) = true := by simp; omega
      by_cases hgt : q < p
      · have hd2 : decide ((q : Int) < (p : Int)) = true := by simp; omega
        have hpq2 : ((p : Int) - (q : Int)) = ((p - q : Nat) : Int) := by omega
        have eU : U' = U'.take q ++ U'.drop q := (List.take_append_drop _ _).symm
        have hk1 : (U'.take q).length = q := by simp; omega
        have hk2 : (U'.drop q).length = p - q := by simp; omega
        generalize U'.take q = U1 at eU hk1
        generalize U'.drop q = U2 at eU hk2
        subst eU
        have HW := hid (show Row base g n cap ((A ++ X) ++ U1 ++ U2 ++ V' ++ (Y ++ C)) wr by simpa using hrow)
        clear hrow
        go_wp2_with fail
        refine (swapRange_calls base g n cap (m - p) m q f _ _ _ _ _ wr HW.out hn (by simp; omega) (by simp at l1 ⊢; omega) hk1 l2).mono ?_
        rintro e w2 ⟨rfl, hr2, hg2⟩
        have HR2 := hid (show Row base g n cap (A ++ (X ++ V') ++ U2 ++ U1 ++ Y ++ C) w2 by simpa using hr2)
        have HG2 := hid (grownBy_trans hgr hg2)
        clear hr2 hg2
        go_wp2
        go_roundw
        case rel => exact ⟨p - q, q, by omega, q0, rfl, rfl, X ++ V', U2, U1, Y, hk2, hk1, by simp; omega, HR2.out, by rw [← HE.out]; simp, HG2.out⟩
        case measure => simp [intOf]; omega
      · have hd2 : decide ((q : Int) < (p : Int)) = false := by simp; omega
        have hpq2 : ((q : Int) - (p : Int)) = ((q - p : Nat) : Int) := by omega
        have hmq : ((m : Int) + (q : Int) - (p : Int)) = ((m + q - p : Nat) : Int) := by omega
        have eV : V' = V'.take (q - p) ++ V'.drop (q - p) := (List.take_append_drop _ _).symm
        have hk1 : (V'.take (q - p)).length = q - p := by simp; omega
        have hk2 : (V'.drop (q - p)).length = p := by simp; omega
        generalize V'.take (q - p) = V1 at eV hk1
        generalize V'.drop (q - p) = V2 at eV hk2
        subst eV
        have HW := hid (show Row base g n cap ((A ++ X) ++ U' ++ V1 ++ V2 ++ (Y ++ C)) wr by simpa using hrow)
        clear hrow
        go_wp2_with fail
        refine (swapRange_calls base g n cap (m - p) (m + q - p) p f _ _ _ _ _ wr HW.out hn (by simp; omega) (by omega) l1 hk2).mono ?_
        rintro e w2 ⟨rfl, hr2, hg2⟩
        have HR2 := hid (show Row base g n cap (A ++ X ++ V2 ++ V1 ++ (U' ++ Y) ++ C) w2 by simpa using hr2)
        have HG2 := hid (grownBy_trans hgr hg2)
        clear hr2 hg2
        go_wp2
        go_roundw
        case rel => exact ⟨p, q - p, p0, by omega, rfl, rfl, X, V2, V1, U' ++ Y, hk2, hk1, by omega, HR2.out, by rw [← HE.out]; simp, HG2.out⟩
        case measure => simp [intOf]; omega
end Go.Proofs.Ytafbofcenbfkeaa
