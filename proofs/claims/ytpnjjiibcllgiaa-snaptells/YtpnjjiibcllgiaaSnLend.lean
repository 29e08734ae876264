/- What LendInts and KeptInts do. -/
import Derived.Test.YtpnjjiibcllgiaaIntsSameP
namespace Go.Proofs.Ytpnjjiibcllgiaa
open Go.RowKit
set_option linter.unusedVariables false
theorem ict_oneCell (l : List Int) : ∀ u ∈ ict l, u.oneCell' = true := by
  intro u hu
  obtain ⟨x, _, rfl⟩ := List.mem_map.1 hu
  rfl
theorem own_len {w : World} {base e n : Nat} {v : Value} {xs : List Value} (h : w.ownsRow base e 1 v n xs) : xs.length = n := by have := h.1; omega
/-- What is owned, up to its capacity. -/
theorem own_full {w : World} {base e g n cap : Nat} {xs : List Value} (h : w.ownsRow base e 1 (.slice (some ⟨g, 0, none⟩) n cap) n xs) :
    ∃ ys, w.ownsRow base e 1 (.slice (some ⟨g, 0, none⟩) cap cap) cap ys ∧ ys.take n = xs := by
  rcases h.2 with ⟨h', _⟩ | ⟨g', cap', cur, h', hb, hg, hnc, hcm, hcs, htake⟩
  · cases h'
  · simp only [Value.slice.injEq, Option.some.injEq, Addr.mk.injEq, and_true, true_and] at h'
    obtain ⟨rfl, rfl⟩ := h'
    have hcs' : cur.size = cap := by omega
    exact ⟨cur.toList, ⟨by simp [hcs'], .inr ⟨g, cap, cur, rfl, hb, hg, Nat.le_refl _, hcm, hcs, List.take_of_length_le (by simp [hcs'])⟩⟩, by simpa using htake⟩
theorem take_set_snoc {l : List Value} {k : Nat} {u : Value} (h : k < l.length) : (l.set k u).take (k + 1) = l.take k ++ [u] := by
  rw [List.take_succ_eq_append_getElem (by simpa using h), List.take_set, List.set_eq_of_length_le (by rw [List.length_take]; omega)]
  simp
/-- The cells of what comes in, one by one. -/
theorem Is.news {w w' : World} {ao : Option Addr} {cap : Nat} {l : List Int} (h : Is w (.slice ao l.length cap) l) (hb : Below w.heap.size w w') : ∀ ad, ao = some ad → ∀ j u, (ict l)[j]? = some u → w'.cell? (ad.add j) = some u := by
  intro ad had j u hu
  obtain ⟨ao', cap', hv, h1, h2, h3, h4⟩ := h.below hb
  cases hv
  have hj : j < l.length := by
    have := (List.getElem?_eq_some_iff.1 hu).1
    rwa [ict_length] at this
  obtain ⟨b, off, e, hlt, hc⟩ := h4 (by intro e; rw [e] at hj; simp at hj)
  rw [had] at e
  cases e
  have hadd : (⟨b, off, none⟩ : Addr).add j = ⟨b, off + j, none⟩ := by unfold Addr.add; split <;> simp_all
  rw [hadd, hc j hj, ← ict_at hj]
  exact hu
/-- A slice cut to its first numbers. -/
theorem Is.cut {w : World} {g n cap : Nat} {l m : List Int} (h : Is w (.slice (some ⟨g, 0, none⟩) n cap) (l ++ m)) : Is w (.slice (some ⟨g, 0, none⟩) l.length cap) l := by
  obtain ⟨ao, cap', hv, h1, h2, h3, h4⟩ := h
  cases hv
  rw [List.length_append] at h1
  refine ⟨_, cap, rfl, by omega, h2, fun e => (by cases e), fun hl => ?_⟩
  obtain ⟨b, off, e, hlt, hc⟩ := h4 (by intro e; exact hl (List.append_eq_nil_iff.1 e).1)
  refine ⟨b, off, e, hlt, fun j hj => ?_⟩
  have := hc j (by rw [List.length_append]; omega)
  have e2 : (l ++ m).getD j 0 = l.getD j 0 := by simp [List.getD, List.getElem?_append_left hj]
  rwa [e2] at this
/-- What is lent. -/
def lentI (l : List Int) : List Int := l ++ [-777, -777, -777]
set_option maxHeartbeats 1000000 in
theorem lendInts_any (v : Value) (l : List Int) (w : World) (hv : Is w v l) (hr : l.length ≤ 1000000) :
    Calls Try.prog 7 #[v] w fun e w' => e = .returned (.slice (some ⟨w.heap.size, 0, none⟩) l.length (l.length + 3)) ∧ w'.ownsRow w.heap.size 3 1 (.slice (some ⟨w.heap.size, 0, none⟩) (l.length + 3) (l.length + 3)) (l.length + 3) (ict (lentI l)) ∧ Below w.heap.size w w' := by
  have HV := hid hv
  obtain ⟨ao, cap, rfl, h1, h2, h3, h4⟩ := hv
  obtain ⟨i0, hi, hz0, hz1, hz2⟩ := info_parts Try.info3
  clear h4
  unfold maxLen at h2
  go_enter Try.func7, Try.ntmps7
  go_wp2_with (first | (at_make; refine wpList_make_own _ rfl _ _ 22 rfl w.heap.size 3 i0 (.int .i64 0) 1 Try.underlying22 hi hz0 hz1 .i64 .i64 _ (l.length + 3) rfl rfl (by omega) (by rw [hz2]; omega) (by unfold maxLen; omega) (Nat.le_refl _) ?_; intro w1 ho1 hg1) | (at_builtin; refine wpList_append_fits_any _ rfl _ _ 22 rfl w.heap.size 3 i0 1 Try.underlying22 hi hz1 w.heap.size 0 (l.length + 3) _ rfl ho1 ao l.length cap (ict l) rfl (by rw [ict_length]; omega) (fun e => ⟨by rw [(h3 e).1]; rfl, (h3 e).2⟩) (HV.out.news ((Below.refl _ _).grown hg1 (Nat.le_refl _) (by intro q hq; cases hq))) (ict_oneCell l) (by omega) ?_; intro w2 ho2 hg2))
  have hb1 : Below w.heap.size w w1 := (Below.refl _ _).grown hg1 (Nat.le_refl _) (by intro q hq; cases hq)
  have hb2 : Below w.heap.size w w2 := hb1.grown hg2 hb1.size (by intro q hq; cases hq; exact Nat.le_refl _)
  clear hg1 hg2 ho1 hb1 h3
  simp only [Nat.zero_add, List.nil_append] at ho2 ⊢
  obtain ⟨ys, hoy, hty⟩ := own_full ho2
  clear ho2
  go_loopw [5] (fun i wr => ∃ k : Nat, k ≤ 3 ∧ i = .int .i64 k ∧ ∃ xs, wr.ownsRow w.heap.size 3 1 (.slice (some ⟨w.heap.size, 0, none⟩) (l.length + 3) (l.length + 3)) (l.length + 3) xs ∧ xs.take (l.length + k) = ict (l ++ List.replicate k (-777)) ∧ Below w.heap.size w wr) (fun i _ => 3 - (intOf i).toNat)
  case atStart => exact ⟨0, by omega, rfl, ys, hoy, by simpa using hty, hb2⟩
  case round =>
    obtain ⟨k, hk, rfl, xs, hox, hxt, hbr⟩ := hrel
    by_cases hlt : k < 3
    · obtain ⟨x, hx⟩ := own_cell hox (j := l.length + k) (by omega)
      have hfz := hox.frozenAt (l.length + k)
      have hst := hox.stored (l.length + k) (.int .i64 (-777))
      have hxl := own_len hox
      have hxt2 : (xs.set (l.length + k) (.int .i64 (-777))).take (l.length + (k + 1)) = ict (l ++ List.replicate (k + 1) (-777)) := by
        rw [← Nat.add_assoc, take_set_snoc (by omega), hxt, List.replicate_succ', ← List.append_assoc, ict_append _ [-777]]; rfl
      have hb3 := hbr.grown hst.2 hbr.size (by intro q hq; cases hq; exact Nat.le_refl _)
      obtain ⟨hst1, hst2⟩ := hst
      have H1 := hid hst1
      have H2 := hid hxt2
      clear hst1 hst2 hxt2 hxt hox
      go_wp2
      go_roundw
      case rel => exact ⟨k + 1, by omega, by go_num, _, H1.out, H2.out, hb3⟩
      case measure => simp [intOf]; omega
    · obtain rfl : k = 3 := by omega
      go_wp2
      go_ret
      refine ⟨rfl, ?_, hbr⟩
      have hxl := own_len hox
      rw [List.take_of_length_le (by omega)] at hxt
      rw [hxt] at hox
      exact hox
set_option maxHeartbeats 1000000 in
theorem keptInts_any (g : Nat) (b : Value) (l : List Int) (w : World) (hv : Is w (.slice (some ⟨g, 0, none⟩) (l.length + 3) (l.length + 3)) (lentI l)) (hb : Is w b l) (hr : l.length ≤ 1000000) :
    Calls Try.prog 14 #[.slice (some ⟨g, 0, none⟩) l.length (l.length + 3), b] w fun e w' => e = .returned (.bool true) ∧ ∃ n, w' = w.drewN n := by
  have HT := hid (show Is w (.slice (some ⟨g, 0, none⟩) l.length (l.length + 3)) l from Is.cut hv)
  have HB := hid hb
  have hcell : ∀ k, k < 3 → w.cell? ⟨g, l.length + k, none⟩ = some (.int .i64 (-777)) := by
    obtain ⟨ao, cap, hvv, h1, h2, h3, h4⟩ := hv
    simp only [Value.slice.injEq] at hvv
    obtain ⟨e1, e2, e3⟩ := hvv
    obtain ⟨b0, off, hao, hlt, hc⟩ := h4 (by unfold lentI; simp)
    rw [← e1] at hao
    cases hao
    intro k hk
    have := hc (l.length + k) (by unfold lentI; simp; omega)
    rw [Nat.zero_add] at this
    rw [this]
    unfold lentI
    have : k = 0 ∨ k = 1 ∨ k = 2 := by omega
    rcases this with rfl | rfl | rfl <;> simp [List.getD]
  have HC := hid hcell
  clear hcell hv hb
  go_enter Try.func14, Try.ntmps14
  go_wp2
  go_loop [6] (fun i => ∃ k : Nat, k ≤ 3 ∧ i = .int .i64 k) (fun i => 3 - (intOf i).toNat)
  case atStart => exact ⟨0, by omega, rfl⟩
  case round =>
    obtain ⟨k, hk, rfl⟩ := hrel
    by_cases hlt3 : k < 3
    · have hx := HC.out k hlt3
      go_wp2
      go_round
      case rel => exact ⟨k + 1, by omega, by go_num⟩
      case measure => simp [intOf]; omega
    · go_wp2_with fail
      refine (sameInts_any _ _ l l w HT.out HB.out).mono ?_
      rintro e w3 ⟨rfl, n3, rfl⟩
      go_wp2
      go_ret
      exact ⟨by simp, n3, rfl⟩
end Go.Proofs.Ytpnjjiibcllgiaa
