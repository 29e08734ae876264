/- slices.Sorted of a list's numbers: a list of its own, rising; Grows of the program. -/
import Derived.Test.YtpnjjiibcllgiaaSnVals
import Derived.Test.YtpnjjiibcllgiaaShelf
import Derived.Sort.OwnSortedInts
import Derived.Lib.OwnBridge
namespace Go.Proofs.Ytpnjjiibcllgiaa
open Go.RowKit Go.Lib Go.Sort
set_option linter.unusedVariables false
theorem sort_calls (g cap : Nat) (zs : List Int) (w : World) (hH : Holds (Value.int .i64) w g 0 zs.toArray) (hg : g < w.heap.size) (hz : zs.length < 4611686018427387904) :
    Calls Try.prog 24 #[.slice (some ⟨g, 0, none⟩) zs.length cap] w fun e w' => e = .returned (.tuple #[]) ∧ ∃ n os, w' = grow (putRow (Value.int .i64) (Sort.ahead w n) g 0 (zs.mergeSort fun x y => decide (x ≤ y)).toArray) os :=
  Any.slices_Sort_int lays189 g 0 cap zs w hH hg hz
theorem sort_none (w : World) : Calls Try.prog 24 #[.slice none 0 0] w fun e w' => e = .returned (.tuple #[]) ∧ w' = w :=
  Any.slices_Sort_int_none lays189 none 0 w
/-- The numbers of a list, rising. -/
def riseI (l : List Int) : List Int := l.mergeSort fun x y => decide (x ≤ y)
theorem riseI_len (l : List Int) : (riseI l).length = l.length := List.length_mergeSort l
theorem riseI_mem (l : List Int) (x : Int) : x ∈ riseI l ↔ x ∈ l := List.mem_mergeSort
theorem riseI_up (l : List Int) : (riseI l).Pairwise (· ≤ ·) := by
  have h := List.pairwise_mergeSort (le := fun x y : Int => decide (x ≤ y)) (fun a b c h1 h2 => by simp at h1 h2 ⊢; omega) (fun a b => by simp; omega) l
  exact h.imp (fun h => by simpa using h)
theorem riseI_due (l : List Int) (n : Int) : (riseI l).contains n = dueL l n := by
  rw [Bool.eq_iff_iff, dueL_iff, ← riseI_mem, List.contains_iff_mem]
/-- slices.Sort over a row that the call owns. -/
theorem sort_own (base n : Nat) (v : Value) (zs : List Int) (w : World) (ho : w.ownsRow base 3 1 v n (ict zs)) (hb : base ≤ w.heap.size) (hn : n ≤ 1000000) :
    Calls Try.prog 24 #[v] w fun e w' => e = .returned (.tuple #[]) ∧ w'.ownsRow base 3 1 v n (ict (riseI zs)) ∧ Below base w w' := by
  have hl : zs.length = n := by have := ho.1; rw [ict_length] at this; omega
  rcases ho.2 with ⟨rfl, rfl⟩ | ⟨g, cap, cur, rfl, hbase, hg, h1, h2, h3, h4⟩
  · obtain rfl := List.eq_nil_of_length_eq_zero hl
    refine (sort_none w).mono ?_
    rintro e w' ⟨rfl, rfl⟩
    exact ⟨rfl, by simpa [riseI] using ho, Below.refl _ _⟩
  · subst hl
    have hH : Holds (Value.int .i64) w g 0 zs.toArray := holds_of_blockI hg (by rw [Nat.mul_one] at h4; exact h4)
    refine (sort_calls g cap zs w hH (Array.getElem?_eq_some_iff.1 hg).1 (by omega)).mono ?_
    rintro e w' ⟨rfl, n, os, rfl⟩
    exact ⟨rfl, ownsRow_sortedI (by rw [List.length_mergeSort]) hbase hg h1 h2 h3, (Below.refl _ w).grown (grownBy_sortedI _) hb (by intro q hq; cases hq; exact hbase)⟩
/-- slices.Sorted(slices.Values(..)). -/
theorem sorted_any (Bs : Nat) (v : Value) (l : List Int) (W0 w : World) (hI : Is W0 v l) (hW : Below W0.heap.size W0 w) (hBs : Bs < w.heap.size) (hc : w.cell? ⟨Bs, 0, none⟩ = some v) (hl : l.length ≤ 1000000) :
    Calls Try.prog 17 #[.func (.func 25) #[] #[.pointer (some ⟨Bs, 0, none⟩)]] w fun e W' => ∃ u, e = .returned u ∧ W'.ownsRow w.heap.size 3 1 u l.length (ict (riseI l)) ∧ Below w.heap.size w W' := by
  have HC := hid ((callsIn_wide (n := 9)).1 (collect_in 9 (by omega) Bs v l W0 w hI hW hBs hc hl))
  clear hI hW hBs hc
  go_enter Try.func17, Try.ntmps17
  go_wp2_with fail
  refine HC.out.mono ?_
  rintro e w1 ⟨u, rfl, ho, hb⟩
  have HO := hid ho
  have HB := hid hb
  clear ho hb
  go_wp2_with fail
  refine (sort_own _ _ _ _ w1 HO.out HB.out.size hl).mono ?_
  rintro e w2 ⟨rfl, ho, hb⟩
  have HO2 := hid ho
  have HB2 := hid (HB.out.trans hb)
  clear ho hb
  go_wp2
  go_ret
  exact ⟨_, rfl, HO2.out, HB2.out⟩
/-- slices.BinarySearch of what rises: is the number among it? -/
theorem search_any (v : Value) (l : List Int) (n : Int) (w : World) (h : Is w v (riseI l)) (hs : l.length ≤ 1000000) :
    Calls Try.prog 19 #[v, .int .i64 n] w fun e w' => (∃ i : Int, e = .returned (.tuple #[.int .i64 i, .bool (dueL l n)])) ∧ ∃ t, w' = w.drewN t := by
  obtain ⟨ao, ca, rfl, a1, a2, a3, a4⟩ := h
  by_cases hl : riseI l = []
  · have e0 : dueL l n = false := by rw [← riseI_due, hl]; rfl
    rw [hl, e0]
    refine (Any.slices_BinarySearch_int_empty laysNm225 ao ca n w).mono ?_
    rintro e w' ⟨rfl, rfl⟩
    exact ⟨⟨_, rfl⟩, 0, rfl⟩
  · obtain ⟨p, po, rfl, hp, hpc⟩ := a4 hl
    unfold maxLen at a2
    refine (Any.slices_BinarySearch_int laysNm225 p po (riseI l).length ca (riseI l) n w (Nat.le_refl _) (by rw [riseI_len]; omega) (fun j hj => hpc j hj) (by rw [List.take_length]; exact riseI_up l)).mono ?_
    rintro e w' ⟨rfl, q, rfl⟩
    rw [List.take_length, riseI_due]
    exact ⟨⟨_, rfl⟩, q, rfl⟩
/-- What the call owns, nil or not, reads as it must. -/
theorem Is.owned' {w : World} {base n : Nat} {v : Value} {l : List Int} (h : w.ownsRow base 3 1 v n (ict l)) : Is w v l := by
  rcases h.2 with ⟨rfl, rfl⟩ | ⟨g, cap, cur, rfl, _⟩
  · have hl := h.1
    rw [ict_length] at hl
    obtain rfl : l = [] := List.eq_nil_of_length_eq_zero (by omega)
    exact ⟨none, 0, rfl, Nat.le_refl _, by unfold maxLen; omega, fun _ => ⟨rfl, rfl⟩, fun e => absurd rfl e⟩
  · exact Is.own h
set_option maxHeartbeats 2000000 in
theorem grows_any (v u : Value) (l m : List Int) (w : World) (h : Is w v l) (hu : Is w u m) (hm : m.length ≤ 1000000) :
    Calls Try.prog 12 #[v, u] w fun e w' => e = .returned (.bool (growsL l m)) ∧ Below w.heap.size w w' := by
  have HU := hid hu
  have HV := hid h
  obtain ⟨bo, cb, rfl, b1, b2, b3, b4⟩ := hu
  obtain ⟨ao, ca, rfl, a1, a2, a3, a4⟩ := h
  unfold maxLen at a2
  have hal : l.length ≤ 9223372036854775807 := by omega
  have HN := hid hal
  clear a1 a2 a3 a4 b1 b2 b3 b4 hal
  have HM := hid hm
  clear hm
  go_enter Try.func12, Try.ntmps12
  go_wp2_with fail
  refine ((callsIn_wide (n := 9)).1 (values_in 9 _ m w HU.out)).mono ?_
  rintro e w1 ⟨rfl, rfl⟩
  have hb1 : Below w.heap.size w (w.alloc (.cells #[.slice bo m.length cb] 22)) := (Below.refl _ w).alloc (Nat.le_refl _) _
  have HS := hid (sorted_any w.heap.size _ m w _ HU.out hb1 (by simp) (Boxed.new w 22 (.slice bo m.length cb)).cell HM.out)
  have HB1 := hid hb1
  clear hb1
  go_wp2_with fail
  refine HS.out.mono ?_
  rintro e w2 ⟨s, rfl, ho, hb⟩
  have hb2 := HB1.out.trans (hb.mono HB1.out.size)
  have HI := hid (show Is w2 s (riseI m) from by
    have h5 := Is.owned' ho
    exact h5)
  have HV2 := hid (HV.out.below hb2)
  have HB2 := hid hb2
  clear HS HB1 ho hb hb2
  go_wp2
  go_loopw [7, 8, 9, 15] (fun _ _ _ i wr => ∃ k : Nat, k ≤ l.length ∧ i = .int .i64 k ∧ growsL (l.take k) m = true ∧ ∃ t, wr = w2.drewN t) (fun _ _ _ i _ => l.length - (intOf i).toNat)
  case atStart => exact ⟨0, by omega, rfl, rfl, 0, rfl⟩
  case round =>
    obtain ⟨k, hk, rfl, htk, t, rfl⟩ := hrel
    have HT := hid htk
    have hN := HN.out
    clear htk
    by_cases hlt : k < l.length
    · obtain ⟨ao', ca', e', _, _, _, a4⟩ := HV2.out
      cases e'
      obtain ⟨p, po, rfl, hp, hpc⟩ := a4 (not_nil hlt)
      obtain ⟨x, hx⟩ : ∃ x, l.getD k 0 = x := ⟨_, rfl⟩
      have c1 : w2.cell? ⟨p, po + k, none⟩ = some (.int .i64 x) := by rw [← hx]; exact hpc k hlt
      have HX := hid (getD_some hlt hx)
      have HC := hid (fun t' => search_any _ m x _ (HI.out.drew t') HM.out)
      clear hx hpc a4
      cases hxy : dueL m x with
      | false =>
        have HD := hid (growsL_miss HX.out hxy)
        have HY := hid hxy
        clear hxy
        go_wp2_with fail
        refine (HC.out _).mono ?_
        rintro e w3 ⟨⟨i, rfl⟩, t1, rfl⟩
        rw [HY.out]
        go_wp2
        go_ret
        exact ⟨by rw [HD.out]; rfl, HB2.out.trans ((below_drewNW _ _).mono HB2.out.size)⟩
      | true =>
        have HD := hid (growsL_step HX.out HT.out hxy)
        have HY := hid hxy
        clear hxy
        go_wp2_with fail
        refine (HC.out _).mono ?_
        rintro e w3 ⟨⟨i, rfl⟩, t1, rfl⟩
        rw [HY.out]
        go_wp2
        go_roundw
        case rel => exact ⟨k + 1, by omega, by go_num, HD.out, _, rfl⟩
        case measure => simp [intOf]; omega
    · obtain rfl : k = l.length := by omega
      have HD := hid (show growsL l m = true by have := HT.out; rwa [List.take_length] at this)
      go_wp2
      go_ret
      exact ⟨by rw [HD.out]; rfl, HB2.out.trans ((below_drewNW _ _).mono HB2.out.size)⟩
end Go.Proofs.Ytpnjjiibcllgiaa
