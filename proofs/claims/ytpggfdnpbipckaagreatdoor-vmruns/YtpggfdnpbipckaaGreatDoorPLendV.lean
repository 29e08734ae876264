/- LendCode and KeptCode: instructions lent with room behind them, and whether they were kept. -/
import Derived.Test.YtpggfdnpbipckaaGreatDoorPSameV
namespace Go.Proofs.YtpggfdnpbipckaaGreatDoor
open Go.RowKit
set_option linter.unusedVariables false
set_option maxRecDepth 100000

theorem Tryz.infoIns : (Tryz.prog.info? 43).map (fun i => (i.zero, i.size, i.bytes)) = some (some (.agg #[.int .i64 0, .int .i64 0, .string ⟨#[]⟩]), 3, 32) := by kernel_rfl

theorem own_full3 {w : World} {base e s g n cap : Nat} {xs : List Value} (h : w.ownsRow base e s (.slice (some ⟨g, 0, none⟩) n cap) n xs) :
    ∃ ys, w.ownsRow base e s (.slice (some ⟨g, 0, none⟩) cap cap) cap ys ∧ ys.take (n * s) = xs := by
  rcases h.2 with ⟨h', _⟩ | ⟨g', cap', cur, h', hb, hg, hnc, hcm, hcs, htake⟩
  · cases h'
  · simp only [Value.slice.injEq, Option.some.injEq, Addr.mk.injEq, and_true, true_and] at h'
    obtain ⟨rfl, rfl⟩ := h'
    exact ⟨cur.toList, ⟨by simp [hcs], .inr ⟨g, cap, cur, rfl, hb, hg, Nat.le_refl _, hcm, hcs, List.take_of_length_le (by simp [hcs])⟩⟩, htake⟩
theorem own_cell3 {w : World} {base e s g n cap : Nat} {xs : List Value} (h : w.ownsRow base e s (.slice (some ⟨g, 0, none⟩) n cap) n xs) {j : Nat} (hj : j < n * s) : ∃ x, w.cell? ⟨g, j, none⟩ = some x := by
  have hl : xs.length = n * s := h.1
  exact ⟨xs[j]'(by omega), by rw [h.cellAt j hj, List.getElem?_eq_getElem (by omega)]⟩
theorem take_snoc {l : List Value} {k : Nat} {u : Value} (h : k < l.length) : (l.set k u).take (k + 1) = l.take k ++ [u] := by
  rw [List.take_succ_eq_append_getElem (by simpa using h), List.take_set, List.set_eq_of_length_le (by rw [List.length_take]; omega)]
  simp
theorem take_set3 {l : List Value} {p : Nat} {a b c : Value} (h : p + 2 < l.length) : (((l.set p a).set (p + 1) b).set (p + 2) c).take (p + 3) = l.take p ++ [a, b, c] := by
  rw [take_snoc (by simpa using h), take_snoc (by simp; omega), take_snoc (by omega)]
  simp
/-- The cells of what comes in, one by one. -/
theorem Co.news {w w' : World} {ao : Option Addr} {cap : Nat} {l : List Inst} (h : Co w (.slice ao l.length cap) l) (hb : Below w.heap.size w w') : ∀ ad, ao = some ad → ∀ j u, (icl l)[j]? = some u → w'.cell? (ad.add j) = some u := by
  intro ad had j u hu
  obtain ⟨ao', cap', hv, h1, h2, h3, h4⟩ := h.below hb
  cases hv
  have hj : j < l.length * 3 := by
    have := (List.getElem?_eq_some_iff.1 hu).1
    rwa [icl_length] at this
  obtain ⟨b, off, e, hlt, hc⟩ := h4 (by intro e; rw [e] at hj; simp at hj)
  rw [had] at e
  cases e
  have hq : j / 3 < l.length := by omega
  obtain ⟨c0, c1, c2⟩ := hc (j / 3) hq
  obtain ⟨a0, a1, a2⟩ := icl_at l (j / 3) hq
  have hadd : ∀ i, (⟨b, off, none⟩ : Addr).add i = ⟨b, off + i, none⟩ := by intro i; unfold Addr.add; split <;> simp_all
  rw [hadd]
  have : j = j / 3 * 3 ∨ j = j / 3 * 3 + 1 ∨ j = j / 3 * 3 + 2 := by omega
  rcases this with e | e | e
  · rw [e] at hu ⊢
    rw [c0, ← a0]; exact hu
  · rw [e] at hu ⊢
    rw [← Nat.add_assoc, c1, ← a1]; exact hu
  · rw [e] at hu ⊢
    rw [← Nat.add_assoc, c2, ← a2]; exact hu

def z7 : Inst := (-7, 0, ⟨#[]⟩)

set_option maxHeartbeats 1000000 in
theorem lend_any (v : Value) (l : List Inst) (w : World) (hv : Co w v l) (hr : l.length ≤ 60) :
    Calls Tryz.prog 11 #[v] w fun e w' => e = .returned (.slice (some ⟨w.heap.size, 0, none⟩) l.length (l.length + 3)) ∧ w'.ownsRow w.heap.size 43 3 (.slice (some ⟨w.heap.size, 0, none⟩) (l.length + 3) (l.length + 3)) (l.length + 3) (icl (l ++ List.replicate 3 z7)) ∧ Below w.heap.size w w' := by
  have HV := hid hv
  obtain ⟨ao, cap, rfl, h1, h2, h3, h4⟩ := hv
  obtain ⟨i0, hi, hz0, hz1, hz2⟩ := info_parts Tryz.infoIns
  clear h4
  unfold maxLen at h2
  go_enter Tryz.func11, Tryz.ntmps11
  go_wp2_with (first | (at_make; refine wpList_make_own _ rfl _ _ 22 rfl w.heap.size 43 i0 _ 3 Tryz.underlying22 hi hz0 hz1 .i64 .i64 _ (l.length + 3) rfl rfl (by omega) (by rw [hz2]; omega) (by unfold maxLen; omega) (Nat.le_refl _) ?_; intro w1 ho1 hg1) | (at_builtin; refine wpList_append_fits_any _ rfl _ _ 22 rfl w.heap.size 43 i0 3 Tryz.underlying22 hi hz1 w.heap.size 0 (l.length + 3) _ rfl ho1 ao l.length cap (icl l) rfl (icl_length l) (fun e => ⟨by rw [(h3 e).1]; rfl, (h3 e).2⟩) (HV.out.news ((Below.refl _ _).grown hg1 (Nat.le_refl _) (by intro q hq; cases hq))) (icl_oneCell l) (by omega) ?_; intro w2 ho2 hg2))
  have hb1 : Below w.heap.size w w1 := (Below.refl _ _).grown hg1 (Nat.le_refl _) (by intro q hq; cases hq)
  have hb2 : Below w.heap.size w w2 := hb1.grown hg2 hb1.size (by intro q hq; cases hq; exact Nat.le_refl _)
  clear hg1 hg2 ho1 hb1 h3
  simp only [Nat.zero_add, List.nil_append] at ho2 ⊢
  obtain ⟨ys, hoy, hty⟩ := own_full3 ho2
  clear ho2
  go_loopw [5] (fun i wr => ∃ k : Nat, k ≤ 3 ∧ i = .int .i64 k ∧ ∃ xs, wr.ownsRow w.heap.size 43 3 (.slice (some ⟨w.heap.size, 0, none⟩) (l.length + 3) (l.length + 3)) (l.length + 3) xs ∧ xs.take ((l.length + k) * 3) = icl (l ++ List.replicate k z7) ∧ Below w.heap.size w wr) (fun i _ => 3 - (intOf i).toNat)
  case atStart => exact ⟨0, by omega, rfl, ys, hoy, by simpa using hty, hb2⟩
  case round =>
    obtain ⟨k, hk, rfl, xs, hox, hxt, hbr⟩ := hrel
    by_cases hlt : k < 3
    · obtain ⟨x0, hx0⟩ := own_cell3 hox (j := l.length * 3 + k * 3) (by omega)
      obtain ⟨x1, hx1⟩ := own_cell3 hox (j := l.length * 3 + k * 3 + 1) (by omega)
      obtain ⟨x2, hx2⟩ := own_cell3 hox (j := l.length * 3 + k * 3 + 2) (by omega)
      have hf0 := hox.frozenAt (l.length * 3 + k * 3)
      have hf1 := hox.frozenAt (l.length * 3 + k * 3 + 1)
      have hf2 := hox.frozenAt (l.length * 3 + k * 3 + 2)
      have HO := hid hox
      clear hox
      have hxl : xs.length = (l.length + 3) * 3 := HO.out.1
      have s1 := HO.out.stored (l.length * 3 + k * 3) (.int .i64 (-7))
      have s2 := s1.1.stored (l.length * 3 + k * 3 + 1) (.int .i64 0)
      have s3 := s2.1.stored (l.length * 3 + k * 3 + 2) (.string ⟨#[]⟩)
      have HS := hid s3.1
      have b1 := hbr.grown s1.2 hbr.size (by intro q hq; cases hq; exact Nat.le_refl _)
      have b2 := b1.grown s2.2 b1.size (by intro q hq; cases hq; exact Nat.le_refl _)
      have HB := hid (b2.grown s3.2 b2.size (by intro q hq; cases hq; exact Nat.le_refl _))
      have HT := hid (show (((xs.set (l.length * 3 + k * 3) (.int .i64 (-7))).set (l.length * 3 + k * 3 + 1) (.int .i64 0)).set (l.length * 3 + k * 3 + 2) (.string ⟨#[]⟩)).take ((l.length + (k + 1)) * 3) = icl (l ++ List.replicate (k + 1) z7) by
        rw [show (l.length + (k + 1)) * 3 = l.length * 3 + k * 3 + 3 by omega, take_set3 (by omega), show l.length * 3 + k * 3 = (l.length + k) * 3 by omega, hxt, List.replicate_succ', ← List.append_assoc, icl_append _ [z7]]
        rfl)
      clear s1 s2 s3 b1 b2 hxt HO hxl
      go_wp2
      go_roundw
      case rel => exact ⟨k + 1, by omega, by go_num, _, HS.out, HT.out, HB.out⟩
      case measure => simp [intOf]; omega
    · obtain rfl : k = 3 := by omega
      have hxl : xs.length = (l.length + 3) * 3 := hox.1
      rw [List.take_of_length_le (by omega)] at hxt
      rw [hxt] at hox
      have HO := hid hox
      clear hox hxt hxl
      go_wp2
      go_ret
      exact ⟨rfl, HO.out, hbr⟩

/-- A slice cut to its first instructions. -/
theorem Co.cut {w : World} {g n cap : Nat} {l m : List Inst} (h : Co w (.slice (some ⟨g, 0, none⟩) n cap) (l ++ m)) : Co w (.slice (some ⟨g, 0, none⟩) l.length cap) l := by
  obtain ⟨ao, cap', hv, h1, h2, h3, h4⟩ := h
  cases hv
  rw [List.length_append] at h1
  refine ⟨_, cap, rfl, by omega, h2, fun e => (by cases e), fun hl => ?_⟩
  obtain ⟨b, off, e, hlt, hc⟩ := h4 (by intro e; exact hl (List.append_eq_nil_iff.1 e).1)
  refine ⟨b, off, e, hlt, fun j hj => ?_⟩
  have := hc j (by rw [List.length_append]; omega)
  have e2 : (l ++ m).getD j zInst = l.getD j zInst := by simp [List.getD, List.getElem?_append_left hj]
  rwa [e2] at this

set_option maxHeartbeats 1000000 in
theorem kept_any (g : Nat) (b : Value) (l : List Inst) (w : World) (hv : Co w (.slice (some ⟨g, 0, none⟩) (l.length + 3) (l.length + 3)) (l ++ List.replicate 3 z7)) (hb : Co w b l) (hr : l.length ≤ 60) :
    Calls Tryz.prog 19 #[.slice (some ⟨g, 0, none⟩) l.length (l.length + 3), b] w fun e w' => e = .returned (.bool true) ∧ ∃ n, w' = w.drewN n := by
  have HT := hid hv.cut
  have HB := hid hb
  have hcell : ∀ k, k < 3 → Lies w g (l.length * 3 + k * 3) z7 := by
    obtain ⟨ao, cap, hvv, h1, h2, h3, h4⟩ := hv
    simp only [Value.slice.injEq] at hvv
    obtain ⟨e1, e2, e3⟩ := hvv
    obtain ⟨b0, off, hao, hlt, hc⟩ := h4 (by simp)
    rw [← e1] at hao
    cases hao
    intro k hk
    have := hc (l.length + k) (by simp; omega)
    have e : (l ++ List.replicate 3 z7).getD (l.length + k) zInst = z7 := by
      rw [List.getD_eq_getElem?_getD, List.getElem?_append_right (by omega), Nat.add_sub_cancel_left, List.getElem?_replicate, if_pos hk]
      rfl
    rw [e, Nat.zero_add, show (l.length + k) * 3 = l.length * 3 + k * 3 by omega] at this
    exact this
  have HC := hid hcell
  have hm := guard_ins
  clear hcell hv hb
  go_enter Tryz.func19, Tryz.ntmps19
  go_wp2
  go_loop [6] (fun i => ∃ k : Nat, k ≤ 3 ∧ i = .int .i64 k) (fun i => 3 - (intOf i).toNat)
  case atStart => exact ⟨0, by omega, rfl⟩
  case round =>
    obtain ⟨k, hk, rfl⟩ := hrel
    by_cases hlt3 : k < 3
    · obtain ⟨c0, c1, c2⟩ := HC.out k hlt3
      have hn := neq_self z7
      simp only [ins, z7] at hn c0 c1 c2
      go_wp2
      go_round
      case rel => exact ⟨k + 1, by omega, by go_num⟩
      case measure => simp [intOf]; omega
    · go_wp2_with fail
      refine (sameCode_any _ _ l w HT.out HB.out).mono ?_
      rintro e w3 ⟨rfl, n3, rfl⟩
      go_wp2
      go_ret
      exact ⟨rfl, n3, rfl⟩
end Go.Proofs.YtpggfdnpbipckaaGreatDoor
