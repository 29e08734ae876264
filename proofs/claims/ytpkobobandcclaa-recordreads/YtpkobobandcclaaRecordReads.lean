/- RecordReads: what records any bytes begin with is the document's. -/
import Derived.Test.YtpkobobandcclaaRcOver
import Derived.Test.YtpkobobandcclaaRcRefRead
namespace Go.Proofs.Ytpkobobandcclaa
open Go.RowKit
set_option linter.unusedVariables false

theorem begins_few {l : List Int} {rs : List RecV} {n : Nat} (h : Begins l rs n) : 64 * rs.length ≤ l.length := by
  obtain ⟨h1, h2, s, h3, h4⟩ := h
  have hl := congrArg List.length h3
  rw [List.length_append] at hl
  have : ∀ rs : List RecV, 64 * rs.length ≤ (flatR rs).length := by
    intro rs
    induction rs with
    | nil => simp
    | cons r rs ih =>
      rw [flatR_cons, List.length_append, layR_length, bodyR_length, List.length_cons]
      omega
  have := this rs
  omega
set_option maxRecDepth 100000 in
set_option maxHeartbeats 16000000 in
theorem recordReads_walk (w : World) (v : Value) (l : List Int) (hv : Bs w v l) (hB : Byt l) :
    Calls Try.prog 4 #[v] w fun e w' => e = .returned (.bool true) ∧ Below w.heap.size w w' := by
  have HV := hid hv
  have HY := hid hB
  obtain ⟨vo, cap, rfl, v1, v2, v3, -⟩ := hv
  unfold maxLen at v2
  clear hB v3
  by_cases hbig : 3000 < l.length
  · have hd : decide ((3000 : Int) < (l.length : Int)) = true := by simp; omega
    go_enter Try.func4, Try.ntmps4
    go_wp2_with fail
    refine (awake_any w).mono ?_
    rintro e w2 ⟨rfl, hb2⟩
    go_wp2
    go_ret
    exact ⟨rfl, hb2⟩
  have hd : decide ((3000 : Int) < (l.length : Int)) = false := by simp; omega
  have hll : l.length ≤ 3000 := by omega
  clear hbig
  go_enter Try.func4, Try.ntmps4
  go_wp2_with fail
  refine (lend_any _ l w HV.out (by omega)).mono ?_
  rintro e w1 ⟨rfl, ho1, hb1⟩
  have HB1 := hid hb1
  have HF1 := hid (show Bs w1 (.slice (some ⟨w.heap.size, 0, none⟩) (l.length + 3) (l.length + 3)) (l ++ [119, 119, 119]) from Bs.own ho1)
  have HI1 := hid (show Bs w1 (.slice (some ⟨w.heap.size, 0, none⟩) l.length (l.length + 3)) l by
    have := HF1.out.take l.length (by omega)
    rwa [List.take_left] at this)
  clear ho1 hb1
  go_wp2_with fail
  refine (recRead_any _ l w1 HI1.out HY.out (by omega)).mono ?_
  rintro e w2 ⟨u2, xs, n, rfl, hr2, hg2, hb2⟩
  have HB2 := hid hb2
  have HR2 := hid hr2
  have HG2 := hid hg2
  clear hr2 hg2 hb2
  go_wp2_with fail
  refine (refRead_any _ l w2 (HV.out.below (below_then HB1.out HB2.out HB1.out.size)) HY.out (by omega)).mono ?_
  rintro e w3 ⟨u3, zs, m, rfl, hr3, hg3, hb3⟩
  obtain ⟨hxz, rfl⟩ := begins_unique _ _ _ _ _ HG2.out hg3
  have HXZ := hid hxz
  have HB3 := hid (below_then HB2.out hb3 HB2.out.size)
  have HR3 := hid (HR2.out.below hb3)
  have HZ3 := hid hr3
  clear hr3 hg3 hb3 hxz HR2
  go_wp2_with fail
  refine (sameRecords_dec u2 u3 (xs.map (·.r)) (zs.map (·.r)) w3 HR3.out.recs HZ3.out.recs).mono ?_
  rw [HXZ.out, sameL_self]
  rintro e w4 ⟨rfl, hb4⟩
  have HB4 := hid (below_then HB3.out hb4 HB3.out.size)
  have HR4 := hid (HR3.out.below hb4)
  clear hb4 HR3 HZ3
  go_wp2_with fail
  refine (kept_any w.heap.size _ l l w4 (HF1.out.below HB4.out) (HV.out.below (below_then HB1.out HB4.out HB1.out.size)) (by omega)).mono ?_
  rw [decide_eq_true rfl]
  rintro e w5 ⟨rfl, n5, rfl⟩
  have HB5 := hid (below_then HB4.out (drewN_below w4 n5) HB4.out.size)
  have HR5 := hid (HR4.out.below (drewN_below w4 n5))
  have hxl := begins_few HG2.out
  rw [List.length_map] at hxl
  clear HR4
  go_wp2_with fail
  refine (overRecs_any w1.heap.size xs u2 w1 _ HR5.out HB5.out (Nat.le_refl _) (by omega) (fun x hx => HG2.out.1 x.r (List.mem_map.2 ⟨x, hx, rfl⟩))).mono ?_
  rintro e w6 ⟨rfl, hb6⟩
  have HB6 := hid hb6
  clear hb6 HR5
  go_wp2_with fail
  refine (kept_any w.heap.size _ l l w6 (HF1.out.below HB6.out) (HV.out.below (below_then HB1.out HB6.out HB1.out.size)) (by omega)).mono ?_
  rw [decide_eq_true rfl]
  rintro e w7 ⟨rfl, n7, rfl⟩
  have HB7 := hid (below_then HB6.out (drewN_below w6 n7) HB6.out.size)
  go_wp2_with fail
  refine (awake_any _).mono ?_
  rintro e w8 ⟨rfl, hb8⟩
  have HB8 := hid (below_then HB7.out hb8 HB7.out.size)
  go_wp2
  go_ret
  exact ⟨rfl, below_then HB1.out HB8.out HB1.out.size⟩
end Go.Proofs.Ytpkobobandcclaa
