/- What LendBytes, KeptBytes and OverBytes do, and the document's own Num and Text (chapter 1). -/
import Derived.Test.YtpkobobandcclaaRdProg
import Derived.Laws.AppendOwnNone
namespace Go.Proofs.Ytpkobobandcclaa
open Go.RowKit
set_option linter.unusedVariables false

/-- What is owned, up to its capacity. -/
theorem own_full {w : World} {base e g n cap : Nat} {xs : List Value} (h : w.ownsRow base e 1 (.slice (some ⟨g, 0, none⟩) n cap) n xs) :
    ∃ ys, w.ownsRow base e 1 (.slice (some ⟨g, 0, none⟩) cap cap) cap ys ∧ ys.take n = xs := by
  rcases h.2 with ⟨h', _⟩ | ⟨g', cap', cur, h', hb, hg, hnc, hcm, hcs, htake⟩
  · cases h'
  · simp only [Value.slice.injEq, Option.some.injEq, Addr.mk.injEq, and_true, true_and] at h'
    obtain ⟨rfl, rfl⟩ := h'
    have hcs' : cur.size = cap := by omega
    exact ⟨cur.toList, ⟨by simp [hcs'], .inr ⟨g, cap, cur, rfl, hb, hg, Nat.le_refl _, hcm, hcs, List.take_of_length_le (by simp [hcs'])⟩⟩, by simpa using htake⟩

theorem own_cell {w : World} {base e g n cap : Nat} {xs : List Value} (h : w.ownsRow base e 1 (.slice (some ⟨g, 0, none⟩) n cap) n xs) {j : Nat} (hj : j < n) : ∃ x, w.cell? ⟨g, j, none⟩ = some x := by
  have hl : xs.length = n := by have := h.1; omega
  exact ⟨xs[j]'(by omega), by rw [h.cellAt j (by omega), List.getElem?_eq_getElem (by omega)]⟩

theorem own_len {w : World} {base e n : Nat} {v : Value} {xs : List Value} (h : w.ownsRow base e 1 v n xs) : xs.length = n := by have := h.1; omega

/-- Whatever is owned reads as it must. -/
theorem Bs.owned {w : World} {base n : Nat} {v : Value} {l : List Int} (h : w.ownsRow base 5 1 v n (cel l)) : Bs w v l := by
  rcases h.2 with ⟨rfl, rfl⟩ | ⟨g, cap, cur, rfl, _⟩
  · have hl := own_len h
    rw [cel_length] at hl
    obtain rfl := List.eq_nil_of_length_eq_zero hl
    exact Bs.nil w
  · exact Bs.own h

theorem take_set_snoc {l : List Value} {k : Nat} {u : Value} (h : k < l.length) : (l.set k u).take (k + 1) = l.take k ++ [u] := by
  rw [List.take_succ_eq_append_getElem (by simpa using h), List.take_set, List.set_eq_of_length_le (by rw [List.length_take]; omega)]
  simp

theorem grown_trans {w w1 w2 : World} {r : Option Nat} (h : w.grownBy w1 r) (k : w1.grownBy w2 r) : w.grownBy w2 r :=
  ⟨k.os.trans h.os, k.tape.trans h.tape, k.output.trans h.output, Nat.le_trans h.size k.size, fun i hi hr => (k.block i (Nat.lt_of_lt_of_le hi h.size) hr).trans (h.block i hi hr)⟩
theorem grown_alloc (w : World) (o : Obj) (r : Option Nat) : w.grownBy (w.alloc o) r :=
  ⟨rfl, rfl, rfl, by simp, fun k hk _ => Below.heap_alloc _ _ _ hk⟩

set_option maxHeartbeats 400000 in
theorem lend_any (v : Value) (l : List Int) (w : World) (hv : Bs w v l) (hr : l.length + 3 ≤ 281474976710656) :
    Calls Try.prog 16 #[v] w fun e w' => e = .returned (.slice (some ⟨w.heap.size, 0, none⟩) l.length (l.length + 3)) ∧ w'.ownsRow w.heap.size 5 1 (.slice (some ⟨w.heap.size, 0, none⟩) (l.length + 3) (l.length + 3)) (l.length + 3) (cel (l ++ [119, 119, 119])) ∧ Below w.heap.size w w' := by
  have hv0 := hv
  obtain ⟨ao, cap, rfl, h1, h2, h3, h4⟩ := hv
  obtain ⟨i0, hi, hz0, hz1, hz2⟩ := info_parts Try.info5
  have HV : Hid (Bs w (.slice ao l.length cap) l) := hv0
  clear hv0 h4
  unfold maxLen at h2
  go_enter Try.func16, Try.ntmps16
  go_wp2_with (first | (at_make; refine wpList_make_own _ rfl _ _ 25 rfl w.heap.size 5 i0 (.int .u8 0) 1 Try.underlying25 hi hz0 hz1 .i64 .i64 _ (l.length + 3) rfl rfl (by omega) (by rw [hz2]; omega) (by unfold maxLen; omega) (Nat.le_refl _) ?_; intro w1 ho1 hg1) | (at_builtin; refine wpList_append_fits_any _ rfl _ _ 25 rfl w.heap.size 5 i0 1 Try.underlying25 hi hz1 w.heap.size 0 (l.length + 3) _ rfl ho1 ao l.length cap (cel l) rfl (by rw [cel_length]; omega) (fun e => ⟨by rw [(h3 e).1]; rfl, (h3 e).2⟩) (HV.out.news ((Below.refl _ _).grown hg1 (Nat.le_refl _) (by intro q hq; cases hq))) (cel_oneCell l) (by omega) ?_; intro w2 ho2 hg2))
  have hb1 : Below w.heap.size w w1 := (Below.refl _ _).grown hg1 (Nat.le_refl _) (by intro q hq; cases hq)
  have hb2 : Below w.heap.size w w2 := hb1.grown hg2 hb1.size (by intro q hq; cases hq; exact Nat.le_refl _)
  clear hg1 hg2 ho1 hb1 h3
  simp only [Nat.zero_add, List.nil_append] at ho2 ⊢
  obtain ⟨ys, hoy, hty⟩ := own_full ho2
  clear ho2
  go_loopw [5] (fun i wr => ∃ k : Nat, k ≤ 3 ∧ i = .int .i64 k ∧ ∃ xs, wr.ownsRow w.heap.size 5 1 (.slice (some ⟨w.heap.size, 0, none⟩) (l.length + 3) (l.length + 3)) (l.length + 3) xs ∧ xs.take (l.length + k) = cel (l ++ List.replicate k 119) ∧ Below w.heap.size w wr) (fun i _ => 3 - (intOf i).toNat)
  case atStart => exact ⟨0, by omega, rfl, ys, hoy, by simpa using hty, hb2⟩
  case round =>
    obtain ⟨k, hk, rfl, xs, hox, hxt, hbr⟩ := hrel
    by_cases hlt : k < 3
    · obtain ⟨x, hx⟩ := own_cell hox (j := l.length + k) (by omega)
      have hfz := hox.frozenAt (l.length + k)
      have hst := hox.stored (l.length + k) (.int .u8 119)
      have hxl := own_len hox
      have hxt2 : (xs.set (l.length + k) (.int .u8 119)).take (l.length + (k + 1)) = cel (l ++ List.replicate (k + 1) 119) := by
        rw [← Nat.add_assoc, take_set_snoc (by omega), hxt, List.replicate_succ', ← List.append_assoc, cel_append _ [119]]; rfl
      have hb3 := hbr.grown hst.2 hbr.size (by intro q hq; cases hq; exact Nat.le_refl _)
      obtain ⟨hst1, hst2⟩ := hst
      have H1 : Hid _ := hst1
      have H2 : Hid _ := hxt2
      clear hst1 hst2 hxt2 hxt hox
      go_wp2
      go_roundw
      case rel => exact ⟨k + 1, by omega, by go_num, _, H1.out, H2.out, hb3⟩
      case measure => simp [intOf]; omega
    · obtain rfl : k = 3 := by omega
      go_wp2
      go_ret
      refine ⟨rfl, ?_, hbr⟩
      have hxl := own_len hox
      rw [List.take_of_length_le (by omega)] at hxt
      rw [hxt] at hox
      exact hox

set_option maxHeartbeats 400000 in
theorem kept_any (g : Nat) (b : Value) (l m : List Int) (w : World) (hv : Bs w (.slice (some ⟨g, 0, none⟩) (l.length + 3) (l.length + 3)) (l ++ [119, 119, 119])) (hb : Bs w b m) (hr : l.length + 3 ≤ 281474976710656) :
    Calls Try.prog 20 #[.slice (some ⟨g, 0, none⟩) l.length (l.length + 3), b] w fun e w' => e = .returned (.bool (decide (l = m))) ∧ ∃ n, w' = w.drewN n := by
  have ht := hv.take l.length (by omega)
  rw [List.take_left] at ht
  obtain ⟨ao, cap, hvv, h1, h2, h3, h4⟩ := hv
  obtain ⟨b0, off, hao, hlt, hc⟩ := h4 (by simp)
  simp only [Value.slice.injEq] at hvv
  obtain ⟨rfl, hx0, rfl⟩ := hvv
  clear hx0
  cases hao
  have hcell : ∀ k, k < 3 → w.cell? ⟨g, l.length + k, none⟩ = some (.int .u8 119) := by
    intro k hk
    have := hc (l.length + k) (by simp; omega)
    rw [Nat.zero_add] at this
    rw [this]
    have : k = 0 ∨ k = 1 ∨ k = 2 := by omega
    rcases this with rfl | rfl | rfl <;> simp [List.getD]
  clear h2
  have HT : Hid _ := ht
  have HB : Hid _ := hb
  clear hc h3 h4 h1 ht hb
  have HC : Hid _ := hcell
  clear hcell
  go_enter Try.func20, Try.ntmps20
  go_wp2
  go_loop [6] (fun i => ∃ k : Nat, k ≤ 3 ∧ i = .int .i64 k) (fun i => 3 - (intOf i).toNat)
  case atStart => exact ⟨0, by omega, rfl⟩
  case round =>
    obtain ⟨k, hk, rfl⟩ := hrel
    by_cases hlt3 : k < 3
    · have hx := HC.out k hlt3
      go_wp2
      go_round
      case rel => exact ⟨k + 1, by omega, by go_num⟩
      case measure => simp [intOf]; omega
    · go_wp2_with fail
      refine (same_any _ _ l m w HT.out HB.out).mono ?_
      rintro e w3 ⟨rfl, n3, rfl⟩
      go_wp2
      go_ret
      exact ⟨rfl, n3, rfl⟩

set_option maxHeartbeats 400000 in
theorem over_any (g n cap base : Nat) (xs : List Value) (w : World) (ho : w.ownsRow base 5 1 (.slice (some ⟨g, 0, none⟩) n cap) n xs) (hb : base ≤ w.heap.size) (hn : n + 1 ≤ 140737488355328) :
    Calls Try.prog 14 #[.slice (some ⟨g, 0, none⟩) n cap] w fun e w' => e = .returned (.tuple #[]) ∧ w.grownBy w' (some g) := by
  obtain ⟨i0, hi, hz0, hz1, hz2⟩ := info_parts Try.info5
  go_enter Try.func14, Try.ntmps14
  go_wp2
  go_loopw [2] (fun i wr => ∃ k : Nat, k ≤ n ∧ i = .int .i64 k ∧ ∃ ys, wr.ownsRow base 5 1 (.slice (some ⟨g, 0, none⟩) n cap) n ys ∧ w.grownBy wr (some g)) (fun i _ => n - (intOf i).toNat)
  case atStart => exact ⟨0, by omega, rfl, xs, ho, World.grownBy.refl _ _⟩
  case round =>
    obtain ⟨k, hk, rfl, ys, hoy, hgr⟩ := hrel
    by_cases hlt : k < n
    · obtain ⟨x, hx⟩ := own_cell hoy (j := k) hlt
      have hfz := hoy.frozenAt k
      have hst := hoy.stored k (.int .u8 238)
      obtain ⟨hst1, hst2⟩ := hst
      have H1 : Hid _ := hst1
      have H2 : Hid _ := grown_trans hgr hst2
      clear hst1 hst2 hoy hgr
      go_wp2
      go_roundw
      case rel => exact ⟨k + 1, by omega, by go_num, _, H1.out, H2.out⟩
      case measure => simp [intOf]; omega
    · obtain rfl : k = n := by omega
      have hsz := hgr.size
      go_wp2_with (at_builtin; refine wpList_append_own _ rfl _ _ 25 rfl base 5 i0 (.int .u8 0) 1 1 Try.underlying25 hi hz0 hz1 hz2 rfl (by decide) _ k _ rfl (hoy.alloc _) ⟨wr.heap.size, 0, none⟩ 1 1 [.int .u8 238] rfl rfl (cell_one_new _ _ _) (by intro u hu; simp at hu; subst hu; rfl) (by unfold maxLen; omega) (by omega) (by simp; omega) ?_; intro v1 w1 ho1 hg1 _)
      go_end0
      exact ⟨rfl, grown_trans (grown_trans hgr (grown_alloc _ _ _)) hg1⟩
end Go.Proofs.Ytpkobobandcclaa
