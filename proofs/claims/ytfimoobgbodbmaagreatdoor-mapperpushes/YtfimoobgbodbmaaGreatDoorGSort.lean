/- Laid together: SSwap SIns SSymL SSymR. -/
import Derived.Test.YtfimoobgbodbmaaGreatDoorGRow
import Derived.BigRegion
import Derived.Deep.RegionHeld3
/-! swapRange and rotate of the library's stable sort, over a row of pairs. -/
namespace Go.Proofs.YtfimoobgbodbmaaGreatDoor
open Go.RowKit
set_option linter.unusedVariables false
set_option maxRecDepth 100000

set_option maxHeartbeats 2000000 in
theorem swapRange_calls (base g n cap a b m : Nat) (f : Value) (A U B V C : List KV) (w : World) (hr : Row base g n cap (A ++ U ++ B ++ V ++ C) w) (hn : n ≤ 1000) (ha : A.length = a) (hb : a + m + B.length = b) (hu : U.length = m) (hv : V.length = m) :
    Calls Tryz.prog 242 #[.slice (some ⟨g, 0, none⟩) n cap, .int .i64 a, .int .i64 b, .int .i64 m, f] w fun e w' => e = .returned (.tuple #[]) ∧ Row base g n cap (A ++ V ++ B ++ U ++ C) w' ∧ w.grownBy w' (some g) := by
  have HR := hid hr
  have hlen := hr.len
  simp only [List.length_append] at hlen
  clear hr
  go_enter Tryz.func242, Tryz.ntmps242
  go_wp2
  go_loopw [10] (fun i wr => ∃ k : Nat, k ≤ m ∧ i = .int .i64 k ∧ ∃ U1 U2 V1 V2, U = U1 ++ U2 ∧ V = V1 ++ V2 ∧ U1.length = k ∧ V1.length = k ∧ Row base g n cap (A ++ V1 ++ U2 ++ B ++ U1 ++ V2 ++ C) wr ∧ w.grownBy wr (some g)) (fun i _ => m - (intOf i).toNat)
  case atStart => exact ⟨0, by omega, rfl, [], U, [], V, rfl, rfl, rfl, rfl, by simpa using HR.out, World.grownBy.refl _ _⟩
  case round =>
    obtain ⟨k, hk, rfl, U1, U2, V1, V2, eU, eV, l1, l2, hrow, hgr⟩ := hrel
    have HE := hid (And.intro eU eV)
    have m1 := congrArg List.length eU
    have m2 := congrArg List.length eV
    rw [List.length_append] at m1 m2
    clear eU eV
    by_cases hlt : k < m
    · have hd : decide ((k : Int) < (m : Int)) = true := by simp; omega
      obtain ⟨u, U2, rfl⟩ : ∃ u U3, U2 = u :: U3 := by cases U2 with
        | nil => simp at m1; omega
        | cons u U3 => exact ⟨u, U3, rfl⟩
      obtain ⟨v, V2, rfl⟩ : ∃ v V3, V2 = v :: V3 := by cases V2 with
        | nil => simp at m2; omega
        | cons u U3 => exact ⟨u, U3, rfl⟩
      simp only [List.length_cons] at m1 m2
      have e1 : A ++ V1 ++ u :: U2 ++ B ++ U1 ++ v :: V2 ++ C = (A ++ V1) ++ u :: ((U2 ++ B ++ U1) ++ v :: (V2 ++ C)) := by simp
      rw [e1] at hrow
      have hx := hrow.at (i := a + k) (by simp; omega)
      have hy := (show Row base g n cap ((A ++ V1 ++ u :: (U2 ++ B ++ U1)) ++ v :: (V2 ++ C)) wr by simpa using hrow).at (i := b + k) (by simp; omega)
      have hf := hrow.free
      have s := hrow.swap (i := a + k) (j := b + k) (by simp; omega) (by simp; omega)
      obtain ⟨x0, x1⟩ := hx
      obtain ⟨y0, y1⟩ := hy
      have HS := hid s
      clear s hrow e1
      have hak : a + k < n := by omega
      have hbk : b + k < n := by omega
      obtain ⟨u0, u1⟩ := u
      obtain ⟨v0, v1⟩ := v
      simp only at x0 x1 y0 y1
      go_wp2
      go_region
      have HS2 := hid (HS.out.1.below (below_drew1 _))
      have HG2 := hid (grownBy_trans (grownBy_trans hgr HS.out.2) (grownBy_drew _ _))
      clear HS hgr x0 x1 y0 y1
      go_wp2
      go_roundw
      case rel =>
        refine ⟨k + 1, by omega, by go_num, U1 ++ [(u0, u1)], U2, V1 ++ [(v0, v1)], V2, ?_, ?_, by simp; omega, by simp; omega, ?_, HG2.out⟩
        · rw [HE.out.1]; simp
        · rw [HE.out.2]; simp
        · have := HS2.out
          simpa using this
      case measure => simp [intOf]; omega
    · obtain rfl : k = m := by omega
      have hd : decide ((k : Int) < (k : Int)) = false := by simp
      obtain rfl : U2 = [] := List.eq_nil_of_length_eq_zero (by omega)
      obtain rfl : V2 = [] := List.eq_nil_of_length_eq_zero (by omega)
      simp only [List.append_nil] at HE hrow
      rw [← HE.out.1, ← HE.out.2] at hrow
      have HW := hid hrow
      clear hrow
      go_wp2
      go_end0
      exact ⟨rfl, HW.out, hgr⟩

set_option maxHeartbeats 2000000 in
/-- Two runs beside each other change places. -/
theorem rotate_calls (base g n cap a m b : Nat) (f : Value) (A U V C : List KV) (w : World) (hr : Row base g n cap (A ++ U ++ V ++ C) w) (hn : n ≤ 1000) (ha : A.length = a) (hu : a + U.length = m) (hv : m + V.length = b) (h1 : a < m) (h2 : m < b) :
    Calls Tryz.prog 224 #[.slice (some ⟨g, 0, none⟩) n cap, .int .i64 a, .int .i64 m, .int .i64 b, f] w fun e w' => e = .returned (.tuple #[]) ∧ Row base g n cap (A ++ V ++ U ++ C) w' ∧ w.grownBy w' (some g) := by
  have HR := hid hr
  have hlen := hr.len
  simp only [List.length_append] at hlen
  clear hr
  have hm1 : ((m : Int) - (a : Int)) = ((m - a : Nat) : Int) := by omega
  have hm2 : ((b : Int) - (m : Int)) = ((b - m : Nat) : Int) := by omega
  go_enter Tryz.func224, Tryz.ntmps224
  go_wp2
  go_loopw [10, 11] (fun i j wr => ∃ p q : Nat, 0 < p ∧ 0 < q ∧ i = .int .i64 p ∧ j = .int .i64 q ∧ ∃ X U' V' Y, U'.length = p ∧ V'.length = q ∧ A.length + X.length + p = m ∧ Row base g n cap (A ++ X ++ U' ++ V' ++ Y ++ C) wr ∧ X ++ V' ++ U' ++ Y = V ++ U ∧ w.grownBy wr (some g)) (fun i j _ => (intOf i).toNat + (intOf j).toNat)
  case atStart => exact ⟨m - a, b - m, by omega, by omega, rfl, rfl, [], U, V, [], by omega, by omega, by simp; omega, by simpa using HR.out, by simp, World.grownBy.refl _ _⟩
  case round =>
    obtain ⟨p, q, p0, q0, rfl, rfl, X, U', V', Y, l1, l2, l3, hrow, he, hgr⟩ := hrel
    have HE := hid he
    have hl2 := hrow.len
    simp only [List.length_append] at hl2
    have hmp : ((m : Int) - (p : Int)) = ((m - p : Nat) : Int) := by omega
    clear he hm1 hm2
    by_cases hpq : p = q
    · subst hpq
      have hd : ((p : Int) != (p : Int)) = false := by simp
      have HW := hid (show Row base g n cap ((A ++ X) ++ U' ++ [] ++ V' ++ (Y ++ C)) wr by simpa using hrow)
      clear hrow
      go_wp2_with fail
      refine (swapRange_calls base g n cap (m - p) m p f _ _ _ _ _ wr HW.out hn (by simp; omega) (by simp; omega) l1 l2).mono ?_
      rintro e w2 ⟨rfl, hr2, hg2⟩
      have HR2 := hid (show Row base g n cap (A ++ V ++ U ++ C) w2 by
        have : A ++ X ++ V' ++ [] ++ U' ++ (Y ++ C) = A ++ (X ++ V' ++ U' ++ Y) ++ C := by simp
        rw [this, HE.out] at hr2
        simpa using hr2)
      have HG2 := hid (grownBy_trans hgr hg2)
      clear hr2 hg2
      go_wp2
      go_end0
      exact ⟨rfl, HR2.out, HG2.out⟩
    · have hd : ((p : Int) != (q : Int)) = true := by simp; omega
      by_cases hgt : q < p
      · have hd2 : decide ((q : Int) < (p : Int)) = true := by simp; omega
        have hpq2 : ((p : Int) - (q : Int)) = ((p - q : Nat) : Int) := by omega
        have eU : U' = U'.take q ++ U'.drop q := (List.take_append_drop _ _).symm
        have hk1 : (U'.take q).length = q := by simp; omega
        have hk2 : (U'.drop q).length = p - q := by simp; omega
        generalize U'.take q = U1 at eU hk1
        generalize U'.drop q = U2 at eU hk2
        subst eU
        have HW := hid (show Row base g n cap ((A ++ X) ++ U1 ++ U2 ++ V' ++ (Y ++ C)) wr by simpa using hrow)
        clear hrow
        go_wp2_with fail
        refine (swapRange_calls base g n cap (m - p) m q f _ _ _ _ _ wr HW.out hn (by simp; omega) (by simp at l1 ⊢; omega) hk1 l2).mono ?_
        rintro e w2 ⟨rfl, hr2, hg2⟩
        have HR2 := hid (show Row base g n cap (A ++ (X ++ V') ++ U2 ++ U1 ++ Y ++ C) w2 by simpa using hr2)
        have HG2 := hid (grownBy_trans hgr hg2)
        clear hr2 hg2
        go_wp2
        go_roundw
        case rel => exact ⟨p - q, q, by omega, q0, rfl, rfl, X ++ V', U2, U1, Y, hk2, hk1, by simp; omega, HR2.out, by rw [← HE.out]; simp, HG2.out⟩
        case measure => simp [intOf]; omega
      · have hd2 : decide ((q : Int) < (p : Int)) = false := by simp; omega
        have hpq2 : ((q : Int) - (p : Int)) = ((q - p : Nat) : Int) := by omega
        have hmq : ((m : Int) + (q : Int) - (p : Int)) = ((m + q - p : Nat) : Int) := by omega
        have eV : V' = V'.take (q - p) ++ V'.drop (q - p) := (List.take_append_drop _ _).symm
        have hk1 : (V'.take (q - p)).length = q - p := by simp; omega
        have hk2 : (V'.drop (q - p)).length = p := by simp; omega
        generalize V'.take (q - p) = V1 at eV hk1
        generalize V'.drop (q - p) = V2 at eV hk2
        subst eV
        have HW := hid (show Row base g n cap ((A ++ X) ++ U' ++ V1 ++ V2 ++ (Y ++ C)) wr by simpa using hrow)
        clear hrow
        go_wp2_with fail
        refine (swapRange_calls base g n cap (m - p) (m + q - p) p f _ _ _ _ _ wr HW.out hn (by simp; omega) (by omega) l1 hk2).mono ?_
        rintro e w2 ⟨rfl, hr2, hg2⟩
        have HR2 := hid (show Row base g n cap (A ++ X ++ V2 ++ V1 ++ (U' ++ Y) ++ C) w2 by simpa using hr2)
        have HG2 := hid (grownBy_trans hgr hg2)
        clear hr2 hg2
        go_wp2
        go_roundw
        case rel => exact ⟨p, q - p, p0, by omega, rfl, rfl, X, V2, V1, U' ++ Y, hk2, hk1, by omega, HR2.out, by rw [← HE.out]; simp, HG2.out⟩
        case measure => simp [intOf]; omega
end Go.Proofs.YtfimoobgbodbmaaGreatDoor
/-! insertionSort of the library's stable sort, over a row of pairs. -/
namespace Go.Proofs.YtfimoobgbodbmaaGreatDoor
open Go.RowKit
set_option linter.unusedVariables false
set_option maxRecDepth 100000

theorem nil_or_end (l : List KV) : l = [] ∨ ∃ a x, l = a ++ [x] := by
  rcases List.eq_nil_or_concat l with h | ⟨a, x, h⟩
  · exact .inl h
  · exact .inr ⟨a, x, by rw [h, List.concat_eq_append]⟩
theorem cells_below {w w' : World} {g i : Nat} {x y : Value} (hb : Below w.heap.size w w') (hg : g < w.heap.size) (h : w.cell? ⟨g, i * 2, none⟩ = some x ∧ w.cell? ⟨g, i * 2 + 1, none⟩ = some y) : w'.cell? ⟨g, i * 2, none⟩ = some x ∧ w'.cell? ⟨g, i * 2 + 1, none⟩ = some y :=
  ⟨(hb.cell (p := ⟨g, i * 2, none⟩) hg).trans h.1, (hb.cell (p := ⟨g, i * 2 + 1, none⟩) hg).trans h.2⟩

set_option maxHeartbeats 2000000 in
theorem insertion_calls (base g n cap a b : Nat) (A M C : List KV) (w : World) (hr : Row base g n cap (A ++ M ++ C) w) (hn : n ≤ 1000) (ha : A.length = a) (hb : a + M.length = b) :
    Calls Tryz.prog 213 #[.slice (some ⟨g, 0, none⟩) n cap, .int .i64 a, .int .i64 b, keyFn] w fun e w' => e = .returned (.tuple #[]) ∧ Row base g n cap (A ++ srt M ++ C) w' ∧ w.grownBy w' (some g) := by
  have HR := hid hr
  have hlen := hr.len
  simp only [List.length_append] at hlen
  clear hr
  go_enter Tryz.func213, Tryz.ntmps213
  go_wp2
  go_loopw [8] (fun i wr => ∃ k s : Nat, 0 < k ∧ k ≤ M.length + 1 ∧ a + k = s ∧ i = .int .i64 s ∧ Row base g n cap (A ++ (srt (M.take k) ++ M.drop k) ++ C) wr ∧ w.grownBy wr (some g)) (fun i _ => b + 2 - (intOf i).toNat)
  case atStart =>
    refine ⟨1, a + 1, by omega, by omega, rfl, by go_num, ?_, World.grownBy.refl _ _⟩
    have := HR.out
    cases M with
    | nil => exact this
    | cons x M => exact this
  case round =>
    obtain ⟨k, s, k0, hk, hs, rfl, hrow, hgr⟩ := hrel
    by_cases hlt : s < b
    · have hd : decide ((s : Int) < (b : Int)) = true := by simp; omega
      obtain ⟨x, hx⟩ : ∃ x, M[k]? = some x := ⟨M[k]'(by omega), List.getElem?_eq_getElem (by omega)⟩
      have hkm : k < M.length := by omega
      have e1 : M.drop k = x :: M.drop (k + 1) := by
        rw [List.drop_eq_getElem_cons hkm]
        rw [List.getElem?_eq_getElem hkm] at hx
        rw [Option.some.inj hx]
      have e2 : M.take (k + 1) = M.take k ++ [x] := by
        rw [List.take_succ_eq_append_getElem hkm]
        rw [List.getElem?_eq_getElem hkm] at hx
        rw [Option.some.inj hx]
      have HS := hid (show srt (M.take (k + 1)) = ins x (srt (M.take k)) by rw [e2, srt_snoc])
      have HRi := hid (rising_srt (M.take k))
      have hsl : (srt (M.take k)).length = k := by rw [length_srt, List.length_take]; omega
      rw [e1] at hrow
      obtain ⟨D, hD⟩ : ∃ D, M.drop (k + 1) = D := ⟨_, rfl⟩
      rw [hD] at hrow
      have HD := hid hD
      clear hD
      generalize srt (M.take k) = T at HS HRi hsl hrow
      clear e1 e2 hx
      have HW := hid hrow
      clear hrow
      go_wp2
      go_loopw [9] (fun j wq => ∃ (X Y : List KV) (i : Nat), T = X ++ Y ∧ a + X.length = i ∧ j = .int .i64 i ∧ (∀ y ∈ Y, kLt x.1 y.1 = true) ∧ Row base g n cap (A ++ X ++ x :: (Y ++ D ++ C)) wq ∧ w.grownBy wq (some g)) (fun j _ => (intOf j).toNat)
      case atStart => exact ⟨T, [], s, by simp, by omega, rfl, (fun _ h => by cases h), by simpa using HW.out, hgr⟩
      case round =>
        clear hgr
        obtain ⟨X, Y, i, hT, hi, rfl, hY, hrow, hgr⟩ := hrel
        have HT := hid hT
        have HY := hid hY
        have hl1 := congrArg List.length hT
        rw [List.length_append] at hl1
        clear hT hY
        rcases nil_or_end X with rfl | ⟨X, y, rfl⟩
        · have hd2 : decide (a < i) = false := by simp at hi ⊢; omega
          have HW2 := hid hrow
          clear hrow
          go_wp2
          go_quiet (fail)
          go_wp2
          go_roundw
          case rel =>
            refine ⟨k + 1, s + 1, by omega, by omega, by omega, by go_num, ?_, grownBy_trans hgr (grownBy_drewN _ _ _)⟩
            rw [HS.out, HT.out, ins_mid x [] Y (fun _ h => by cases h) HY.out, HD.out]
            have := HW2.out.below (below_drew _ nq)
            simpa using this
          case measure => simp [intOf]; omega
        · have hd2 : decide (a < i) = true := by simp at hi ⊢; omega
          rw [List.length_append, List.length_singleton] at hl1 hi
          obtain ⟨q, hq⟩ : ∃ q, i = q + 1 := ⟨i - 1, by omega⟩
          have hi1 : ((i : Int) - 1) = (q : Int) := by omega
          have hi2 : IntKind.i64.wrap (q : Int) = (q : Int) := by rw [IntKind.wrap_i64]; omega
          have hq0 : (0 : Int) ≤ (q : Int) := by omega
          have hqn : (q : Int) < (n : Int) := by omega
          have hi0 : (0 : Int) ≤ (i : Int) := by omega
          have hin : (i : Int) < (n : Int) := by omega
          have HQ := hid hq
          have e3 : A ++ (X ++ [y]) ++ x :: (Y ++ D ++ C) = (A ++ X) ++ y :: ([] ++ x :: (Y ++ D ++ C)) := by simp
          rw [e3] at hrow
          have hx := hrow.at (i := q) (by simp; omega)
          have hy := (show Row base g n cap ((A ++ X ++ [y]) ++ x :: (Y ++ D ++ C)) wr by simpa using hrow).at (i := i) (by simp; omega)
          have hg := hrow.lt
          have HW2 := hid hrow
          obtain ⟨x0, x1⟩ := x
          obtain ⟨y0, y1⟩ := y
          have HX := hid hx
          have HYY := hid hy
          simp only at hx hy
          obtain ⟨cx0, cx1⟩ := hx
          obtain ⟨cy0, cy1⟩ := hy
          clear hrow e3
          clear hq
          go_wp2_with fail
          go_region_held3 (fun w' => w'.cell? ⟨g, i * 2, none⟩ = some (.string x0) ∧ w'.cell? ⟨g, i * 2 + 1, none⟩ = some (.string x1) ∧ w'.cell? ⟨g, q * 2, none⟩ = some (.string y0) ∧ w'.cell? ⟨g, q * 2 + 1, none⟩ = some (.string y1)) (go_keep)
            (first | (go_at_call 139; refine (byKey_calls (x0, x1) (y0, y1) _).mono ?_; rintro e w5 ⟨c, rfl, hc, hb5⟩; have k1 := (cells_below hb5 hg HYY.out).1; have k2 := (cells_below hb5 hg HYY.out).2; have k3 := (cells_below hb5 hg HX.out).1; have k4 := (cells_below hb5 hg HX.out).2; have H5 := hid hb5; have HC := hid hc; clear hc hb5))
          have HW5 := hid (HW2.out.below (below_drew1 _ |>.trans H5.out))
          have HG5 := hid (grownBy_trans hgr (grownBy_below (below_drew1 _ |>.trans H5.out) (some g)))
          clear hgr HW2 H5 cx0 cx1 cy0 cy1 HX HYY hg
          obtain ⟨t, ht⟩ : ∃ t, kLt x0 y0 = t := ⟨_, rfl⟩
          have hc := HC.out
          rw [ht] at hc
          have Ht := hid ht
          clear HC ht
          cases t
          · rw [hc]
            clear hc
            go_wp2
            go_roundw
            case rel =>
              refine ⟨k + 1, s + 1, by omega, by omega, by omega, by go_num, ?_, HG5.out⟩
              have hri := HRi.out
              rw [HT.out] at hri
              rw [HS.out, HT.out, ins_mid (x0, x1) (X ++ [(y0, y1)]) Y (fun z hz => kLe_trans (rising_last (rising_append.1 hri).1 z hz) Ht.out) HY.out, HD.out]
              simpa using HW5.out
            case measure => simp [intOf]; omega
          · rw [hc]
            clear hc
            have hf := HW5.out.free
            have s := HW5.out.paws (i := q) (j := i) (by simp; omega) (by simp; omega)
            have HS2 := hid s
            clear s HW5
            go_wp2
            go_region
            have HW6 := hid (HS2.out.1.below (below_drew1 _))
            have HG6 := hid (grownBy_trans (grownBy_trans HG5.out HS2.out.2) (grownBy_drew _ _))
            clear HS2 HG5
            go_wp2
            go_roundw
            case rel =>
              refine ⟨X, (y0, y1) :: Y, q, by rw [HT.out]; simp, by omega, rfl, ?_, ?_, HG6.out⟩
              · intro z hz
                rcases List.mem_cons.1 hz with rfl | hz
                · exact Ht.out
                · exact HY.out z hz
              · simpa using HW6.out
            case measure => simp [intOf]; omega
    · have hd : decide ((s : Int) < (b : Int)) = false := by simp; omega
      rw [List.take_of_length_le (by omega), List.drop_of_length_le (by omega), List.append_nil] at hrow
      have HW := hid hrow
      clear hrow
      go_wp2
      go_end0
      exact ⟨rfl, HW.out, hgr⟩
end Go.Proofs.YtfimoobgbodbmaaGreatDoor
/-! symMerge of the library's stable sort, where the first run has one pair. -/
namespace Go.Proofs.YtfimoobgbodbmaaGreatDoor
open Go.RowKit
set_option linter.unusedVariables false
set_option maxRecDepth 100000

theorem parted {l : List KV} {c : Nat} (h : c < l.length) : ∃ y, l = l.take c ++ y :: l.drop (c + 1) ∧ l.take (c + 1) = l.take c ++ [y] ∧ l.drop c = y :: l.drop (c + 1) := by
  refine ⟨l[c], ?_, List.take_succ_eq_append_getElem h, List.drop_eq_getElem_cons h⟩
  rw [← List.drop_eq_getElem_cons h, List.take_append_drop]

set_option maxRecDepth 100000 in
set_option maxHeartbeats 4000000 in
theorem symLeft_calls (base g n cap a m b : Nat) (A : List KV) (u : KV) (V C : List KV) (w : World) (hr : Row base g n cap (A ++ u :: (V ++ C)) w) (hn : n ≤ 1000) (ha : A.length = a) (hm : a + 1 = m) (hb : m + V.length = b) (hV : Rising V) :
    Calls Tryz.prog 214 #[.slice (some ⟨g, 0, none⟩) n cap, .int .i64 a, .int .i64 m, .int .i64 b, keyFn] w fun e w' => e = .returned (.tuple #[]) ∧ Row base g n cap (A ++ srt (u :: V) ++ C) w' ∧ w.grownBy w' (some g) := by
  have HR := hid hr
  have HV := hid hV
  have hlen := hr.len
  simp only [List.length_append, List.length_cons] at hlen
  clear hr hV
  have hma : ((m : Int) - (a : Int)) = 1 := by omega
  obtain ⟨u0, u1⟩ := u
  go_enter Tryz.func214, Tryz.ntmps214
  go_wp2
  go_loopw [10, 11] (fun i j wr => ∃ p q s t : Nat, p ≤ q ∧ q ≤ V.length ∧ m + p = s ∧ m + q = t ∧ i = .int .i64 s ∧ j = .int .i64 t ∧ (∀ y ∈ V.take p, kLt y.1 u0 = true) ∧ (∀ y ∈ V.drop q, kLt y.1 u0 = false) ∧ Row base g n cap (A ++ (u0, u1) :: (V ++ C)) wr ∧ w.grownBy wr (some g)) (fun i j _ => (intOf j).toNat - (intOf i).toNat)
  case atStart => exact ⟨0, V.length, m, b, by omega, by omega, rfl, hb, rfl, rfl, (fun _ h => by simp at h), (fun _ h => by simp at h), HR.out, World.grownBy.refl _ _⟩
  case round =>
    obtain ⟨p, q, s, t, hpq, hq, hs, ht, rfl, rfl, h1, h2, hrow, hgr⟩ := hrel
    have H12 := hid (And.intro h1 h2)
    clear h1 h2
    by_cases hlt : s < t
    · have hd : decide (s < t) = true := by simp; omega
      obtain ⟨c, hc⟩ : ∃ c, (p + q) / 2 = c := ⟨_, rfl⟩
      obtain ⟨x, hx⟩ : ∃ x, m + c = x := ⟨_, rfl⟩
      have hst : ((s : Int) + (t : Int)) / 2 = (x : Int) := by omega
      obtain ⟨y, e1, e2, e3⟩ := parted (show c < V.length by omega)
      obtain ⟨y0, y1⟩ := y
      have hxc := hrow.at (i := a) ha
      have hyc := (show Row base g n cap ((A ++ (u0, u1) :: V.take c) ++ (y0, y1) :: (V.drop (c + 1) ++ C)) wr by
        have := hrow
        rw [e1] at this
        simpa using this).at (i := x) (by simp; omega)
      have HE := hid (And.intro e1 (And.intro e2 e3))
      have hg := hrow.lt
      have HW2 := hid hrow
      have HX := hid hxc
      have HYY := hid hyc
      simp only at hxc hyc
      obtain ⟨cx0, cx1⟩ := hxc
      obtain ⟨cy0, cy1⟩ := hyc
      have ha0 : (0 : Int) ≤ (a : Int) := by omega
      have han : (a : Int) < (n : Int) := by omega
      have hx0 : (0 : Int) ≤ (x : Int) := by omega
      have hxn : (x : Int) < (n : Int) := by omega
      clear hrow e1 e2 e3
      go_wp2_with fail
      go_region_held3 (fun w' => w'.cell? ⟨g, x * 2, none⟩ = some (.string y0) ∧ w'.cell? ⟨g, x * 2 + 1, none⟩ = some (.string y1) ∧ w'.cell? ⟨g, a * 2, none⟩ = some (.string u0) ∧ w'.cell? ⟨g, a * 2 + 1, none⟩ = some (.string u1)) (go_keep)
        (first | (go_at_call 139; refine (byKey_calls (y0, y1) (u0, u1) _).mono ?_; rintro e w5 ⟨d, rfl, hdc, hb5⟩; have k1 := (cells_below hb5 hg HYY.out).1; have k2 := (cells_below hb5 hg HYY.out).2; have k3 := (cells_below hb5 hg HX.out).1; have k4 := (cells_below hb5 hg HX.out).2; have H5 := hid hb5; have HC := hid hdc; clear hdc hb5))
      have HW5 := hid (HW2.out.below (below_drew1 _ |>.trans H5.out))
      have HG5 := hid (grownBy_trans hgr (grownBy_below (below_drew1 _ |>.trans H5.out) (some g)))
      clear hgr HW2 H5 cx0 cx1 cy0 cy1 HX HYY hg
      obtain ⟨z, hz⟩ : ∃ z, kLt y0 u0 = z := ⟨_, rfl⟩
      have hdc := HC.out
      rw [hz] at hdc
      have Hz := hid hz
      rw [hdc]
      clear HC hz hdc
      cases z
      · go_wp2
        go_roundw
        case rel =>
          refine ⟨p, c, s, x, by omega, by omega, hs, hx, rfl, by go_num, H12.out.1, ?_, HW5.out, HG5.out⟩
          intro z hz
          rw [HE.out.2.2] at hz
          rcases List.mem_cons.1 hz with rfl | hz
          · exact Hz.out
          · have hv := HV.out
            rw [HE.out.1] at hv
            exact kLe_trans Hz.out ((List.pairwise_cons.1 (rising_append.1 hv).2.1).1 z hz)
        case measure => simp [intOf]; omega
      · go_wp2
        go_roundw
        case rel =>
          refine ⟨c + 1, q, x + 1, t, by omega, by omega, by omega, ht, by go_num, rfl, ?_, H12.out.2, HW5.out, HG5.out⟩
          intro z hz
          rw [HE.out.2.1] at hz
          have hv := HV.out
          rw [← List.take_append_drop (c + 1) V, HE.out.2.1] at hv
          exact kLe_lt (rising_last (rising_append.1 hv).1 z hz) Hz.out
        case measure => simp [intOf]; omega
    · have hd : decide (s < t) = false := by simp; omega
      obtain rfl : p = q := by omega
      have HRes := hid (show srt ((u0, u1) :: V) = V.take p ++ (u0, u1) :: V.drop p by
        have := merge_one_left (x := (u0, u1)) (v1 := V.take p) (v2 := V.drop p) (by rw [List.take_append_drop]; exact HV.out) H12.out.1 H12.out.2
        rw [List.take_append_drop] at this
        exact this)
      have hs1 : ((s : Int) - 1) = ((a + p : Nat) : Int) := by omega
      have HW2 := hid hrow
      have hsz : (V.take p).length = p := by simp; omega
      clear hrow H12
      obtain ⟨f, hf⟩ : ∃ f, a + p = f := ⟨_, rfl⟩
      rw [hf] at hs1
      go_wp2
      go_loopw [13] (fun k wq => ∃ r z : Nat, r ≤ p ∧ a + r = z ∧ k = .int .i64 z ∧ Row base g n cap (A ++ V.take r ++ (u0, u1) :: (V.drop r ++ C)) wq ∧ w.grownBy wq (some g)) (fun k _ => f - (intOf k).toNat)
      case atStart => exact ⟨0, a, by omega, rfl, rfl, by simpa using HW2.out, hgr⟩
      case round =>
        clear hgr HW2
        obtain ⟨r, z, hr, hz, rfl, hrow, hgr⟩ := hrel
        by_cases hlt2 : z < f
        · have hd2 : decide (z < f) = true := by simp; omega
          obtain ⟨y, e1, e2, e3⟩ := parted (show r < V.length by omega)
          obtain ⟨y0, y1⟩ := y
          rw [e3] at hrow
          have hrow2 : Row base g n cap ((A ++ V.take r) ++ (u0, u1) :: ([] ++ (y0, y1) :: (V.drop (r + 1) ++ C))) wr := by simpa using hrow
          obtain ⟨z1, hz1⟩ : ∃ z1, z + 1 = z1 := ⟨_, rfl⟩
          have hl3 : (V.take r).length = r := by simp; omega
          have hxc := hrow2.at (i := z) (by simp; omega)
          have hyc := (show Row base g n cap ((A ++ V.take r ++ [(u0, u1)]) ++ (y0, y1) :: (V.drop (r + 1) ++ C)) wr by simpa using hrow).at (i := z1) (by simp; omega)
          simp only at hxc hyc
          obtain ⟨cx0, cx1⟩ := hxc
          obtain ⟨cy0, cy1⟩ := hyc
          have hzz : ((z : Int) + 1) = (z1 : Int) := by omega
          have hzn : (z : Int) < (n : Int) := by omega
          have hz1n : (z1 : Int) < (n : Int) := by omega
          have hfr := hrow.free
          have HS2 := hid (hrow2.swap (i := z) (j := z1) (by simp; omega) (by simp; omega))
          have HE := hid e2
          clear hrow hrow2 e1 e2 e3
          go_wp2
          go_region
          have HW6 := hid (HS2.out.1.below (below_drew1 _))
          have HG6 := hid (grownBy_trans (grownBy_trans hgr HS2.out.2) (grownBy_drew _ _))
          clear HS2 hgr cx0 cx1 cy0 cy1
          go_wp2
          go_roundw
          case rel =>
            refine ⟨r + 1, z1, by omega, by omega, by go_num, ?_, HG6.out⟩
            rw [HE.out]
            simpa using HW6.out
          case measure => simp [intOf]; omega
        · have hd2 : decide (z < f) = false := by simp; omega
          obtain rfl : r = p := by omega
          have HW3 := hid hrow
          clear hrow
          go_wp2
          (try simp only [Exit.inBlock, Exit.then])
          refine bodyPost_ret (results_none rfl _ _ _) rfl ?_
          refine ⟨rfl, ?_, hgr⟩
          rw [HRes.out]
          simpa using HW3.out
end Go.Proofs.YtfimoobgbodbmaaGreatDoor
/-! symMerge of the library's stable sort, where the second run has one pair. -/
namespace Go.Proofs.YtfimoobgbodbmaaGreatDoor
open Go.RowKit
set_option linter.unusedVariables false
set_option maxRecDepth 100000

set_option maxRecDepth 100000 in
set_option maxHeartbeats 4000000 in
theorem symRight_calls (base g n cap a m b : Nat) (A U : List KV) (v : KV) (C : List KV) (w : World) (hr : Row base g n cap (A ++ U ++ v :: C) w) (hn : n ≤ 1000) (ha : A.length = a) (hm : a + U.length = m) (hb : m + 1 = b) (h2 : U.length ≠ 1) (hU : Rising U) :
    Calls Tryz.prog 214 #[.slice (some ⟨g, 0, none⟩) n cap, .int .i64 a, .int .i64 m, .int .i64 b, keyFn] w fun e w' => e = .returned (.tuple #[]) ∧ Row base g n cap (A ++ srt (U ++ [v]) ++ C) w' ∧ w.grownBy w' (some g) := by
  have HR := hid hr
  have HU := hid hU
  have hlen := hr.len
  simp only [List.length_append, List.length_cons] at hlen
  clear hr hU
  obtain ⟨mu, hmu⟩ : ∃ mu, U.length = mu := ⟨_, rfl⟩
  have hma : ((m : Int) - (a : Int)) = (mu : Int) := by omega
  have hma2 : ((mu : Int) == 1) = false := by simp; omega
  have hma3 : ¬ mu = 1 := by omega
  have hbm : ((b : Int) - (m : Int)) = 1 := by omega
  obtain ⟨v0, v1⟩ := v
  clear h2
  go_enter Tryz.func214, Tryz.ntmps214
  go_wp2
  go_loopw [14, 15] (fun i j wr => ∃ p q s t : Nat, p ≤ q ∧ q ≤ mu ∧ a + p = s ∧ a + q = t ∧ i = .int .i64 s ∧ j = .int .i64 t ∧ (∀ y ∈ U.take p, kLt v0 y.1 = false) ∧ (∀ y ∈ U.drop q, kLt v0 y.1 = true) ∧ Row base g n cap (A ++ U ++ (v0, v1) :: C) wr ∧ w.grownBy wr (some g)) (fun i j _ => (intOf j).toNat - (intOf i).toNat)
  case atStart => exact ⟨0, mu, a, m, by omega, by omega, rfl, by omega, rfl, rfl, (fun _ h => by simp at h), (fun _ h => by rw [← hmu] at h; simp at h), HR.out, World.grownBy.refl _ _⟩
  case round =>
    obtain ⟨p, q, s, t, hpq, hq, hs, ht, rfl, rfl, h1, h2, hrow, hgr⟩ := hrel
    have H12 := hid (And.intro h1 h2)
    clear h1 h2
    by_cases hlt : s < t
    · have hd : decide (s < t) = true := by simp; omega
      obtain ⟨c, hc⟩ : ∃ c, (p + q) / 2 = c := ⟨_, rfl⟩
      obtain ⟨x, hx⟩ : ∃ x, a + c = x := ⟨_, rfl⟩
      have hst : ((s : Int) + (t : Int)) / 2 = (x : Int) := by omega
      obtain ⟨y, e1, e2, e3⟩ := parted (show c < U.length by omega)
      obtain ⟨y0, y1⟩ := y
      have hxc := hrow.at (i := m) (by simp; omega)
      have hyc := (show Row base g n cap ((A ++ U.take c) ++ (y0, y1) :: (U.drop (c + 1) ++ (v0, v1) :: C)) wr by
        have := hrow
        rw [e1] at this
        simpa using this).at (i := x) (by simp; omega)
      have HE := hid (And.intro e1 (And.intro e2 e3))
      have hg := hrow.lt
      have HW2 := hid hrow
      have HX := hid hxc
      have HYY := hid hyc
      simp only at hxc hyc
      obtain ⟨cx0, cx1⟩ := hxc
      obtain ⟨cy0, cy1⟩ := hyc
      have ha0 : (0 : Int) ≤ (m : Int) := by omega
      have han : (m : Int) < (n : Int) := by omega
      have hx0 : (0 : Int) ≤ (x : Int) := by omega
      have hxn : (x : Int) < (n : Int) := by omega
      clear hrow e1 e2 e3
      go_wp2_with fail
      go_region_held3 (fun w' => w'.cell? ⟨g, x * 2, none⟩ = some (.string y0) ∧ w'.cell? ⟨g, x * 2 + 1, none⟩ = some (.string y1) ∧ w'.cell? ⟨g, m * 2, none⟩ = some (.string v0) ∧ w'.cell? ⟨g, m * 2 + 1, none⟩ = some (.string v1)) (go_keep)
        (first | (go_at_call 139; refine (byKey_calls (v0, v1) (y0, y1) _).mono ?_; rintro e w5 ⟨d, rfl, hdc, hb5⟩; have k1 := (cells_below hb5 hg HYY.out).1; have k2 := (cells_below hb5 hg HYY.out).2; have k3 := (cells_below hb5 hg HX.out).1; have k4 := (cells_below hb5 hg HX.out).2; have H5 := hid hb5; have HC := hid hdc; clear hdc hb5))
      have HW5 := hid (HW2.out.below (below_drew1 _ |>.trans H5.out))
      have HG5 := hid (grownBy_trans hgr (grownBy_below (below_drew1 _ |>.trans H5.out) (some g)))
      clear hgr HW2 H5 cx0 cx1 cy0 cy1 HX HYY hg
      obtain ⟨z, hz⟩ : ∃ z, kLt v0 y0 = z := ⟨_, rfl⟩
      have hdc := HC.out
      rw [hz] at hdc
      have Hz := hid hz
      rw [hdc]
      clear HC hz hdc
      cases z
      · go_wp2
        go_roundw
        case rel =>
          refine ⟨c + 1, q, x + 1, t, by omega, by omega, by omega, ht, by go_num, rfl, ?_, H12.out.2, HW5.out, HG5.out⟩
          intro z hz
          rw [HE.out.2.1] at hz
          have hv := HU.out
          rw [← List.take_append_drop (c + 1) U, HE.out.2.1] at hv
          exact kLe_trans (rising_last (rising_append.1 hv).1 z hz) Hz.out
        case measure => simp [intOf]; omega
      · go_wp2
        go_roundw
        case rel =>
          refine ⟨p, c, s, x, by omega, by omega, hs, hx, rfl, by go_num, H12.out.1, ?_, HW5.out, HG5.out⟩
          intro z hz
          rw [HE.out.2.2] at hz
          rcases List.mem_cons.1 hz with rfl | hz
          · exact Hz.out
          · have hv := HU.out
            rw [HE.out.1] at hv
            exact kLt_le Hz.out ((List.pairwise_cons.1 (rising_append.1 hv).2.1).1 z hz)
        case measure => simp [intOf]; omega
    · have hd : decide (s < t) = false := by simp; omega
      obtain rfl : p = q := by omega
      have HRes := hid (show srt (U ++ [(v0, v1)]) = U.take p ++ (v0, v1) :: U.drop p by
        have := merge_one_right (x := (v0, v1)) (u1 := U.take p) (u2 := U.drop p) (by rw [List.take_append_drop]; exact HU.out) H12.out.1 H12.out.2
        rw [List.take_append_drop] at this
        exact this)
      have HW2 := hid hrow
      have hsz : (U.take p).length = p := by simp; omega
      clear hrow H12
      go_wp2
      go_loopw [17] (fun k wq => ∃ r z : Nat, p ≤ r ∧ r ≤ mu ∧ a + r = z ∧ k = .int .i64 z ∧ Row base g n cap (A ++ U.take r ++ (v0, v1) :: (U.drop r ++ C)) wq ∧ w.grownBy wq (some g)) (fun k _ => (intOf k).toNat)
      case atStart => exact ⟨mu, m, by omega, by omega, by omega, rfl, by rw [List.take_of_length_le (by omega), List.drop_of_length_le (by omega)]; simpa using HW2.out, hgr⟩
      case round =>
        clear hgr HW2
        obtain ⟨r, z, hr, hr2, hz, rfl, hrow, hgr⟩ := hrel
        by_cases hlt2 : s < z
        · have hd2 : decide (s < z) = true := by simp; omega
          obtain ⟨r1, rfl⟩ : ∃ r1, r = r1 + 1 := ⟨r - 1, by omega⟩
          obtain ⟨y, e1, e2, e3⟩ := parted (show r1 < U.length by omega)
          obtain ⟨y0, y1⟩ := y
          rw [e2] at hrow
          have hrow2 : Row base g n cap ((A ++ U.take r1) ++ (y0, y1) :: ([] ++ (v0, v1) :: (U.drop (r1 + 1) ++ C))) wr := by simpa using hrow
          obtain ⟨z1, hz1⟩ : ∃ z1, z = z1 + 1 := ⟨z - 1, by omega⟩
          have hl3 : (U.take r1).length = r1 := by simp; omega
          have hyc := hrow2.at (i := z1) (by simp; omega)
          have hxc := (show Row base g n cap ((A ++ U.take r1 ++ [(y0, y1)]) ++ (v0, v1) :: (U.drop (r1 + 1) ++ C)) wr by simpa using hrow).at (i := z) (by simp; omega)
          simp only at hxc hyc
          obtain ⟨cx0, cx1⟩ := hxc
          obtain ⟨cy0, cy1⟩ := hyc
          have hzz : ((z : Int) - 1) = (z1 : Int) := by omega
          have hzw : IntKind.i64.wrap (z1 : Int) = (z1 : Int) := by rw [IntKind.wrap_i64]; omega
          have hz10 : (0 : Int) ≤ (z1 : Int) := by omega
          have hzn : (z : Int) < (n : Int) := by omega
          have hz1n : (z1 : Int) < (n : Int) := by omega
          have hfr := hrow.free
          have HS2 := hid (hrow2.paws (i := z1) (j := z) (by simp; omega) (by simp; omega))
          have HE := hid e3
          have HZ := hid hz1
          clear hrow hrow2 e1 e2 e3 hz1
          go_wp2
          go_region
          have HW6 := hid (HS2.out.1.below (below_drew1 _))
          have HG6 := hid (grownBy_trans (grownBy_trans hgr HS2.out.2) (grownBy_drew _ _))
          clear HS2 hgr cx0 cx1 cy0 cy1
          go_wp2
          go_roundw
          case rel =>
            have := HZ.out
            refine ⟨r1, z1, by omega, by omega, by omega, by go_num, ?_, HG6.out⟩
            rw [HE.out]
            simpa using HW6.out
          case measure => have := HZ.out; simp [intOf]; omega
        · have hd2 : decide (s < z) = false := by simp; omega
          obtain rfl : r = p := by omega
          have HW3 := hid hrow
          clear hrow
          go_wp2
          (try simp only [Exit.inBlock, Exit.then])
          refine bodyPost_ret (results_none rfl _ _ _) rfl ?_
          refine ⟨rfl, ?_, hgr⟩
          rw [HRes.out]
          simpa using HW3.out
end Go.Proofs.YtfimoobgbodbmaaGreatDoor
