/- insertionSort of the library's stable sort, over a row of pairs. -/
import Derived.Test.YtafbofcenbfkeaaSSwap
import Derived.Deep.RegionHeld3
namespace Go.Proofs.Ytafbofcenbfkeaa
open Go.RowKit
set_option linter.unusedVariables false

theorem nil_or_end (l : List KV) : l = [] ∨ ∃ a x, l = a ++ [x] := by
  rcases List.eq_nil_or_concat l with h | ⟨a, x, h⟩
  · exact .inl h
  · exact .inr ⟨a, x, by rw [h, List.concat_eq_append]⟩
theorem cells_below {w w' : World} {g i : Nat} {x y : Value} (hb : Below w.heap.size w w') (hg : g < w.heap.size) (h : w.cell? ⟨g, i * 2, none⟩ = some x ∧ w.cell? ⟨g, i * 2 + 1, none⟩ = some y) : w'.cell? ⟨g, i * 2, none⟩ = some x ∧ w'.cell? ⟨g, i * 2 + 1, none⟩ = some y :=
  ⟨(hb.cell (p := ⟨g, i * 2, none⟩) hg).trans h.1, (hb.cell (p := ⟨g, i * 2 + 1, none⟩) hg).trans h.2⟩

set_option maxHeartbeats 2000000 in
theorem insertion_calls (base g n cap a b : Nat) (A M C : List KV) (w : World) (hr : Row base g n cap (A ++ M ++ C) w) (hn : n ≤ 1000) (ha : A.length = a) (hb : a + M.length = b) :
    Calls Try.prog 35 #[.slice (some ⟨g, 0, none⟩) n cap, .int .i64 a, .int .i64 b, keyFn] w fun e w' => e = .returned (.tuple #[]) ∧ Row base g n cap (A ++ srt M ++ C) w' ∧ w.grownBy w' (some g) := by
  have HR := hid hr
  have hlen := hr.len
  simp only [List.length_append] at hlen
  clear hr
  go_enter Try.func35, Try.ntmps35
  go_wp2
  go_loopw [8] (fun i wr => ∃ k s : Nat, 0 < k ∧ k ≤ M.length + 1 ∧ a + k = s ∧ i = .int .i64 s ∧ Row base g n cap (A ++ (srt (M.take k) ++ M.drop k) ++ C) wr ∧ w.grownBy wr (some g)) (fun i _ => b + 2 - (intOf i).toNat)
  case atStart =>
    refine ⟨1, a + 1, by omega, by omega, rfl, by go_num, ?_, World.grownBy.refl _ _⟩
    have := HR.out
    cases M with
    | nil => exact this
    | cons x M => exact this
  case round =>
    obtain ⟨k, s, k0, hk, hs, rfl, hrow, hgr⟩ := hrel
    by_cases hlt : s < b
    · have hd : decide ((s : Int) < (b : Int)) = true := by simp; omega
      obtain ⟨x, hx⟩ : ∃ x, M[k]? = some x := ⟨M[k]'(by omega), List.getElem?_eq_getElem (by omega)⟩
      have hkm : k < M.length := by omega
      have e1 : M.drop k = x :: M.drop (k + 1) := by
        rw [List.drop_eq_getElem_cons hkm]
        rw [List.getElem?_eq_getElem hkm] at hx
        rw [Option.some.inj hx]
      have e2 : M.take (k + 1) = M.take k ++ [x] := by
        rw [List.take_succ_eq_append_getElem hkm]
        rw [List.getElem?_eq_getElem hkm] at hx
        rw [Option.some.inj hx]
      have HS := hid (show srt (M.take (k + 1)) = ins x (srt (M.take k)) by rw [e2, srt_snoc])
      have HRi := hid (rising_srt (M.take k))
      have hsl : (srt (M.take k)).length = k := by rw [length_srt, List.length_take]; omega
      rw [e1] at hrow
      obtain ⟨D, hD⟩ : ∃ D, M.drop (k + 1) = D := ⟨_, rfl⟩
      rw [hD] at hrow
      have HD := hid hD
      clear hD
      generalize srt (M.take k) = T at HS HRi hsl hrow
      clear e1 e2 hx
      have HW := hid hrow
      clear hrow
      go_wp2
      go_loopw [9] (fun j wq => ∃ (X Y : List KV) (i : Nat), T = X ++ Y ∧ a + X.length = i ∧ j = .int .i64 i ∧ (∀ y ∈ Y, kLt x.1 y.1 = true) ∧ Row base g n cap (A ++ X ++ x :: (Y ++ D ++ C)) wq ∧ w.grownBy wq (some g)) (fun j _ => (intOf j).toNat)
      case atStart => exact ⟨T, [], s, by simp, by omega, rfl, (fun _ h => by cases h), by simpa using HW.out, hgr⟩
      case round =>
        clear hgr
        obtain ⟨X, Y, i, hT, hi, rfl, hY, hrow, hgr⟩ := hrel
        have HT := hid hT
        have HY := hid hY
        have hl1 := congrArg List.length hT
        rw [List.length_append] at hl1
        clear hT hY
        rcases nil_or_end X with rfl | ⟨X, y, rfl⟩
        · have hd2 : decide (a < i) = false := by simp at hi ⊢; omega
          have HW2 := hid hrow
          clear hrow
          go_wp2
          go_quiet (fail)
          go_wp2
          go_roundw
          case rel =>
            refine ⟨k + 1, s + 1, by omega, by omega, by omega, by go_num, ?_, grownBy_trans hgr (grownBy_drewN _ _ _)⟩
            rw [HS.out, HT.out, ins_mid x [] Y (fun _ h => by cases h) HY.out, HD.out]
            have := HW2.out.below (below_drew _ nq)
            simpa using this
          case measure => simp [intOf]; omega
        · have hd2 : decide (a < i) = true := by simp at hi ⊢; omega
          rw [List.length_append, List.length_singleton] at hl1 hi
          obtain ⟨q, hq⟩ : ∃ q, i = q + 1 := ⟨i - 1, by omega⟩
          have hi1 : ((i : Int) - 1) = (q : Int) := by omega
          have hi2 : IntKind.i64.wrap (q : Int) = (q : Int) := by rw [IntKind.wrap_i64]; omega
          have hq0 : (0 : Int) ≤ (q : Int) := by omega
          have hqn : (q : Int) < (n : Int) := by omega
          have hi0 : (0 : Int) ≤ (i : Int) := by omega
          have hin : (i : Int) < (n : Int) := by omega
          have HQ := hid hq
          have e3 : A ++ (X ++ [y]) ++ x :: (Y ++ D ++ C) = (A ++ X) ++ y :: ([] ++ x :: (Y ++ D ++ C)) := by simp
          rw [e3] at hrow
          have hx := hrow.at (i := q) (by simp; omega)
          have hy := (show Row base g n cap ((A ++ X ++ [y]) ++ x :: (Y ++ D ++ C)) wr by simpa using hrow).at (i := i) (by simp; omega)
          have hg := hrow.lt
          have HW2 := hid hrow
          obtain ⟨x0, x1⟩ := x
          obtain ⟨y0, y1⟩ := y
          have HX := hid hx
          have HYY := hid hy
          simp only at hx hy
          obtain ⟨cx0, cx1⟩ := hx
          obtain ⟨cy0, cy1⟩ := hy
          clear hrow e3
          clear hq
          go_wp2_with fail
          go_region_held3 (fun w' => w'.cell? ⟨g, i * 2, none⟩ = some (.string x0) ∧ w'.cell? ⟨g, i * 2 + 1, none⟩ = some (.string x1) ∧ w'.cell? ⟨g, q * 2, none⟩ = some (.string y0) ∧ w'.cell? ⟨g, q * 2 + 1, none⟩ = some (.string y1)) (go_keep)
            (first | (go_at_call 27; refine (byKey_calls (x0, x1) (y0, y1) _).mono ?_; rintro e w5 ⟨c, rfl, hc, hb5⟩; have k1 := (cells_below hb5 hg HYY.out).1; have k2 := (cells_below hb5 hg HYY.out).2; have k3 := (cells_below hb5 hg HX.out).1; have k4 := (cells_below hb5 hg HX.out).2; have H5 := hid hb5; have HC := hid hc; clear hc hb5))
          have HW5 := hid (HW2.out.below (below_drew1 _ |>.trans H5.out))
          have HG5 := hid (grownBy_trans hgr (grownBy_below (below_drew1 _ |>.trans H5.out) (some g)))
          clear hgr HW2 H5 cx0 cx1 cy0 cy1 HX HYY hg
          obtain ⟨t, ht⟩ : ∃ t, kLt x0 y0 = t := ⟨_, rfl⟩
          have hc := HC.out
          rw [ht] at hc
          have Ht := hid ht
          clear HC ht
          cases t
          · rw [hc]
            clear hc
            go_wp2
            go_roundw
            case rel =>
              refine ⟨k + 1, s + 1, by omega, by omega, by omega, by go_num, ?_, HG5.out⟩
              have hri := HRi.out
              rw [HT.out] at hri
              rw [HS.out, HT.out, ins_mid (x0, x1) (X ++ [(y0, y1)]) Y (fun z hz => kLe_trans (rising_last (rising_append.1 hri).1 z hz) Ht.out) HY.out, HD.out]
              simpa using HW5.out
            case measure => simp [intOf]; omega
          · rw [hc]
            clear hc
            have hf := HW5.out.free
            have s := HW5.out.paws (i := q) (j := i) (by simp; omega) (by simp; omega)
            have HS2 := hid s
            clear s HW5
            go_wp2
            go_region
            have HW6 := hid (HS2.out.1.below (below_drew1 _))
            have HG6 := hid (grownBy_trans (grownBy_trans HG5.out HS2.out.2) (grownBy_drew _ _))
            clear HS2 HG5
            go_wp2
            go_roundw
            case rel =>
              refine ⟨X, (y0, y1) :: Y, q, by rw [HT.out]; simp, by omega, rfl, ?_, ?_, HG6.out⟩
              · intro z hz
                rcases List.mem_cons.1 hz with rfl | hz
                · exact Ht.out
                · exact HY.out z hz
              · simpa using HW6.out
            case measure => simp [intOf]; omega
    · have hd : decide ((s : Int) < (b : Int)) = false := by simp; omega
      rw [List.take_of_length_le (by omega), List.drop_of_length_le (by omega), List.append_nil] at hrow
      have HW := hid hrow
      clear hrow
      go_wp2
      go_end0
      exact ⟨rfl, HW.out, hgr⟩
end Go.Proofs.Ytafbofcenbfkeaa
