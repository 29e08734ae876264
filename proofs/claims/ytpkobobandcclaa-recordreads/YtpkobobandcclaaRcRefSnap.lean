/- Snapshots' records: the document's own May. -/
import Derived.Test.YtpkobobandcclaaRcRefMay
namespace Go.Proofs.Ytpkobobandcclaa
open Go.RowKit
set_option linter.unusedVariables false
set_option maxRecDepth 100000 in
set_option maxHeartbeats 16000000 in
theorem refRSnap_any (r : RecV) (so : Option Addr) (sc : Nat) (po : Option Addr) (pc : Nat) (w : World) (hr : RecIs w so sc po pc r) (hk : r.kind = 5) :
    Calls Try.prog 13 #[.agg #[.int .i64 r.kind, .int .i64 r.part, .int .i64 r.split, .int .i64 r.attempt, .int .i64 r.reason, .slice so r.set.length sc, .slice po r.prs.length pc]] w fun e w' => e = .returned (.bool (mayR r)) ∧ Below w.heap.size w w' := by
  have HK := hid hk
  have HB := hid (alloc_one w (.cells #[.int .i64 r.kind, .int .i64 r.part, .int .i64 r.split, .int .i64 r.attempt, .int .i64 r.reason, .slice so r.set.length sc, .slice po r.prs.length pc] 33))
  have HI := hid (hr.below HB.out)
  have hsl := hr.set.len
  have hql := prs_len hr.prs
  obtain ⟨zs, hzs⟩ : ∃ z, (r.split == 0) = z := ⟨_, rfl⟩
  have Hzs := hid hzs
  obtain ⟨zp, hzp⟩ : ∃ z, (r.part == 0) = z := ⟨_, rfl⟩
  have Hzp := hid hzp
  obtain ⟨za, hza⟩ : ∃ z, (r.attempt == 0) = z := ⟨_, rfl⟩
  have Hza := hid hza
  obtain ⟨zr, hzr⟩ : ∃ z, (r.reason == 0) = z := ⟨_, rfl⟩
  have Hzr := hid hzr
  obtain ⟨zt, hzt⟩ : ∃ z, ((r.set.length : Int) == 0) = z := ⟨_, rfl⟩
  have Hzt := hid hzt
  obtain ⟨zq, hzq⟩ : ∃ z, ((r.prs.length : Int) == 0) = z := ⟨_, rfl⟩
  have Hzq := hid hzq
  have k1 : (r.kind == 1) = false := by rw [hk]; rfl
  have k2 : (r.kind == 2) = false := by rw [hk]; rfl
  have k6 : (r.kind == 6) = false := by rw [hk]; rfl
  have k3 : (r.kind == 3) = false := by rw [hk]; rfl
  have k4 : (r.kind == 4) = false := by rw [hk]; rfl
  have k5 : (r.kind == 5) = true := by rw [hk]; rfl
  clear hr hk
  go_enter Try.func13, Try.ntmps13
  go_wp2
  go_quiet (fail)
  go_wp2
  go_quiet (fail)
  go_wp2
  go_loopw [11] (fun i wr => ∃ (k : Nat) (L : Int), k ≤ r.set.length ∧ 0 ≤ L ∧ (k = 0 → L = 0) ∧ (∀ y, 0 < k → r.set[k - 1]? = some y → L = y + 1) ∧ upS L (r.set.drop k) = setS r.set ∧ i = .int .i64 k ∧ ∃ t, wr = (w.alloc (.cells #[.int .i64 r.kind, .int .i64 r.part, .int .i64 r.split, .int .i64 r.attempt, .int .i64 r.reason, .slice so r.set.length sc, .slice po r.prs.length pc] 33)).drewN t) (fun i _ => r.set.length - (intOf i).toNat)
  case atStart => exact ⟨0, 0, by omega, by omega, fun _ => rfl, fun y h => by omega, upS_set _, rfl, _, rfl⟩
  case round =>
    obtain ⟨k, L, hk, hL, hL0, hL1, hm, rfl, t, rfl⟩ := hrel
    have HM := hid hm
    have HL0 := hid hL0
    have HL1 := hid hL1
    have HL := hid hL
    clear hm hL0 hL1 hL
    by_cases hlt : k < r.set.length
    · obtain ⟨b, off, x, hx, rfl, hb, c1⟩ := HI.out.set.cell hlt
      have HX := hid hx
      clear hx
      have hd4 : decide ((k : Int) < (r.set.length : Int)) = true := by simp; omega
      have HI0 := hid (show inI x 0 5 = false → inI x L 5 = false by
        intro h
        cases e : inI x L 5 with
        | false => rfl
        | true => have := inI_iff.1 e; have := HL.out; rw [inI_iff.2 ⟨by omega, by omega⟩] at h; cases h)
      have hk2 : (0 : Int) ≤ (k : Int) := by omega
      have hkn : (k : Int) < (r.set.length : Int) := by omega
      obtain ⟨gi, hgi⟩ : ∃ g, inI x 0 5 = g := ⟨_, rfl⟩
      have HX0 := hid hgi
      clear hgi
      cases gi
      · have HR := hid (show mayR r = false by rw [ref_snap HK.out, ← HM.out, upS_at HX.out, HI0.out HX0.out]; simp)
        go_wp2
        go_quiet ((go_at_call 32; exact refIn_quiet _ _ _ _ HX0.out _ t _))
        go_wp2
        go_ret
        exact ⟨by rw [HR.out]; rfl, below_then (below_then HB.out (drewN_below _ t) HB.out.size) (drewN_below _ _) (below_then HB.out (drewN_below _ t) HB.out.size).size⟩
      · have hx0 := inI_iff.1 HX0.out
        by_cases hk0 : k = 0
        · have hd0 : decide ((0 : Int) < (k : Int)) = false := by simp; omega
          have hd1 : decide (0 < k) = false := by simp; omega
          have HS := hid (show upS (x + 1) (r.set.drop (k + 1)) = setS r.set by rw [← HM.out, upS_at HX.out, HL0.out hk0, HX0.out]; rfl)
          clear hk0
          go_wp2
          go_quiet ((go_at_call 32; exact refIn_quiet _ _ _ _ HX0.out _ t _))
          go_wp2
          go_roundw
          case rel => exact ⟨k + 1, x + 1, by omega, by omega, fun h => by omega, fun y h1 h2 => by rw [Nat.add_sub_cancel, HX.out] at h2; cases h2; rfl, HS.out, by go_num, _, rfl⟩
          case measure => simp [intOf]; omega
        · have hd0 : decide ((0 : Int) < (k : Int)) = true := by simp; omega
          obtain ⟨q, hq⟩ : ∃ q, k = q + 1 := ⟨k - 1, by omega⟩
          have hk1 : ((k : Int) - 1) = (q : Int) := by omega
          have hqw : IntKind.i64.wrap (q : Int) = (q : Int) := by rw [IntKind.wrap_i64]; omega
          obtain ⟨b2, off2, y, hy, e2, -, y1⟩ := HI.out.set.cell (show q < r.set.length by omega)
          simp only [Option.some.injEq, Addr.mk.injEq, and_true] at e2
          obtain ⟨rfl, rfl⟩ := e2
          have HLY := hid (HL1.out y (by omega) (by rw [show k - 1 = q by omega]; exact hy))
          clear hy
          have hq0 : (0 : Int) ≤ (q : Int) := by omega
          have hqn : (q : Int) < (r.set.length : Int) := by omega
          have HQ := hid hq
          have hkp : 0 < k := by omega
          clear hq hk0
          by_cases hxy : x ≤ y
          · have hdx : decide (x ≤ y) = true := by simpa using hxy
            have HR := hid (show mayR r = false by
              rw [ref_snap HK.out, ← HM.out, upS_at HX.out]
              have : inI x L 5 = false := by
                cases e : inI x L 5 with
                | false => rfl
                | true => have := (inI_iff.1 e).1; have := HLY.out; omega
              rw [this]; simp)
            go_wp2
            go_quiet ((go_at_call 32; exact refIn_quiet _ _ _ _ HX0.out _ t _))
            go_wp2
            go_ret
            exact ⟨by rw [HR.out]; rfl, below_then (below_then HB.out (drewN_below _ t) HB.out.size) (drewN_below _ _) (below_then HB.out (drewN_below _ t) HB.out.size).size⟩
          · have hdx : decide (x ≤ y) = false := by simpa using hxy
            have HS := hid (show upS (x + 1) (r.set.drop (k + 1)) = setS r.set by
              rw [← HM.out, upS_at HX.out, inI_iff.2 ⟨by have := HLY.out; omega, hx0.2⟩]; rfl)
            go_wp2
            go_quiet ((go_at_call 32; exact refIn_quiet _ _ _ _ HX0.out _ t _))
            go_wp2
            go_roundw
            case rel => exact ⟨k + 1, x + 1, by omega, by omega, fun h => by omega, fun z h1 h2 => by rw [Nat.add_sub_cancel, HX.out] at h2; cases h2; rfl, HS.out, by go_num, _, rfl⟩
            case measure => simp [intOf]; omega
    · obtain rfl : k = r.set.length := by omega
      have hd4 : decide ((r.set.length : Int) < (r.set.length : Int)) = false := by simp
      have HS := hid (show setS r.set = true by rw [← HM.out, List.drop_length]; rfl)
      go_wp2_with fail
      refine (refIn_calls r.part 0 3 _).mono ?_
      rintro e w1 ⟨rfl, rfl⟩
      obtain ⟨gpart, hgpart⟩ : ∃ g, inI r.part 0 3 = g := ⟨_, rfl⟩
      have Hpart := hid hgpart
      rw [hgpart]
      clear hgpart
      cases gpart
      · have HR := hid (show mayR r = false by rw [ref_snap HK.out, Hpart.out]; simp)
        go_wp2
        go_ret
        exact ⟨by rw [HR.out]; rfl, below_then HB.out (drewN_below _ _) HB.out.size⟩
      cases zs
      · have HR := hid (show mayR r = false by rw [ref_snap HK.out, Hzs.out]; simp)
        go_wp2
        go_ret
        exact ⟨by rw [HR.out]; rfl, below_then HB.out (drewN_below _ _) HB.out.size⟩
      cases za
      · have HR := hid (show mayR r = false by rw [ref_snap HK.out, Hza.out]; simp)
        go_wp2
        go_ret
        exact ⟨by rw [HR.out]; rfl, below_then HB.out (drewN_below _ _) HB.out.size⟩
      cases zr
      · have HR := hid (show mayR r = false by rw [ref_snap HK.out, Hzr.out]; simp)
        go_wp2
        go_ret
        exact ⟨by rw [HR.out]; rfl, below_then HB.out (drewN_below _ _) HB.out.size⟩
      cases zq
      · have HR := hid (show mayR r = false by rw [ref_snap HK.out, Hzq.out]; simp)
        go_wp2
        go_ret
        exact ⟨by rw [HR.out]; rfl, below_then HB.out (drewN_below _ _) HB.out.size⟩
      have HR := hid (show mayR r = true by rw [ref_snap HK.out, Hpart.out, Hzs.out, Hza.out, Hzr.out, Hzq.out, HS.out]; rfl)
      go_wp2
      go_ret
      exact ⟨by rw [HR.out]; rfl, below_then HB.out (drewN_below _ _) HB.out.size⟩
end Go.Proofs.Ytpkobobandcclaa
