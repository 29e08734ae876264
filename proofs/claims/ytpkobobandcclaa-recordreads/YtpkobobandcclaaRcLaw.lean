/- Records held against each other by the statements, and by the program's Same; great lists of records. -/
import Derived.Test.YtpkobobandcclaaRcRows
import Derived.Test.YtpkobobandcclaaIntsSameP
namespace Go.Proofs.Ytpkobobandcclaa
open Go.RowKit
set_option linter.unusedVariables false

set_option maxHeartbeats 4000000 in
theorem sameRecord_dec (r q : RecV) (so : Option Addr) (sc : Nat) (po : Option Addr) (pc : Nat) (so' : Option Addr) (sc' : Nat) (po' : Option Addr) (pc' : Nat) (w : World) (hr : RecIs w so sc po pc r) (hq : RecIs w so' sc' po' pc' q) :
    Calls Try.prog 37 #[.agg #[.int .i64 r.kind, .int .i64 r.part, .int .i64 r.split, .int .i64 r.attempt, .int .i64 r.reason, .slice so r.set.length sc, .slice po r.prs.length pc], .agg #[.int .i64 q.kind, .int .i64 q.part, .int .i64 q.split, .int .i64 q.attempt, .int .i64 q.reason, .slice so' q.set.length sc', .slice po' q.prs.length pc']] w fun e w' => e = .returned (.bool (sameR r q)) ∧ Below w.heap.size w w' := by
  have HB := hid (two_below w (.cells #[.int .i64 r.kind, .int .i64 r.part, .int .i64 r.split, .int .i64 r.attempt, .int .i64 r.reason, .slice so r.set.length sc, .slice po r.prs.length pc] 33) (.cells #[.int .i64 q.kind, .int .i64 q.part, .int .i64 q.split, .int .i64 q.attempt, .int .i64 q.reason, .slice so' q.set.length sc', .slice po' q.prs.length pc'] 33))
  have HI := hid (hr.below HB.out)
  have HQ := hid (hq.below HB.out)
  have HA := hid ((At.new w #[.int .i64 r.kind, .int .i64 r.part, .int .i64 r.split, .int .i64 r.attempt, .int .i64 r.reason, .slice so r.set.length sc, .slice po r.prs.length pc] 33).below (alloc_one _ (.cells #[.int .i64 q.kind, .int .i64 q.part, .int .i64 q.split, .int .i64 q.attempt, .int .i64 q.reason, .slice so' q.set.length sc', .slice po' q.prs.length pc'] 33)) (by simp))
  have HC := hid (At.new (w.alloc (.cells #[.int .i64 r.kind, .int .i64 r.part, .int .i64 r.split, .int .i64 r.attempt, .int .i64 r.reason, .slice so r.set.length sc, .slice po r.prs.length pc] 33)) #[.int .i64 q.kind, .int .i64 q.part, .int .i64 q.split, .int .i64 q.attempt, .int .i64 q.reason, .slice so' q.set.length sc', .slice po' q.prs.length pc'] 33)
  simp only [World.size_alloc] at HC
  clear hr hq
  by_cases h0 : r.kind = q.kind
  rotate_left
  · have b0 : (r.kind == q.kind) = false := by simpa using h0
    have HR := hid (show sameR r q = false by unfold sameR; rw [decide_eq_false h0]; simp)
    clear h0
    go_enter Try.func37, Try.ntmps37
    go_wp2
    go_ret
    exact ⟨by rw [HR.out]; rfl, HB.out⟩
  have b0 : (r.kind == q.kind) = true := by simpa using h0
  have H0 := hid h0
  clear h0
  by_cases h1 : r.part = q.part
  rotate_left
  · have b1 : (r.part == q.part) = false := by simpa using h1
    have HR := hid (show sameR r q = false by unfold sameR; rw [decide_eq_false h1]; simp)
    clear h1
    go_enter Try.func37, Try.ntmps37
    go_wp2
    go_ret
    exact ⟨by rw [HR.out]; rfl, HB.out⟩
  have b1 : (r.part == q.part) = true := by simpa using h1
  have H1 := hid h1
  clear h1
  by_cases h2 : r.split = q.split
  rotate_left
  · have b2 : (r.split == q.split) = false := by simpa using h2
    have HR := hid (show sameR r q = false by unfold sameR; rw [decide_eq_false h2]; simp)
    clear h2
    go_enter Try.func37, Try.ntmps37
    go_wp2
    go_ret
    exact ⟨by rw [HR.out]; rfl, HB.out⟩
  have b2 : (r.split == q.split) = true := by simpa using h2
  have H2 := hid h2
  clear h2
  by_cases h3 : r.attempt = q.attempt
  rotate_left
  · have b3 : (r.attempt == q.attempt) = false := by simpa using h3
    have HR := hid (show sameR r q = false by unfold sameR; rw [decide_eq_false h3]; simp)
    clear h3
    go_enter Try.func37, Try.ntmps37
    go_wp2
    go_ret
    exact ⟨by rw [HR.out]; rfl, HB.out⟩
  have b3 : (r.attempt == q.attempt) = true := by simpa using h3
  have H3 := hid h3
  clear h3
  by_cases h4 : r.reason = q.reason
  rotate_left
  · have b4 : (r.reason == q.reason) = false := by simpa using h4
    have HR := hid (show sameR r q = false by unfold sameR; rw [decide_eq_false h4]; simp)
    clear h4
    go_enter Try.func37, Try.ntmps37
    go_wp2
    go_ret
    exact ⟨by rw [HR.out]; rfl, HB.out⟩
  have b4 : (r.reason == q.reason) = true := by simpa using h4
  have H4 := hid h4
  clear h4
  go_enter Try.func37, Try.ntmps37
  go_wp2_with fail
  refine (sameInts_any _ _ r.set q.set _ HI.out.set HQ.out.set).mono ?_
  rintro e w1 ⟨rfl, n1, rfl⟩
  obtain ⟨g5, hg5⟩ : ∃ g, decide (r.set = q.set) = g := ⟨_, rfl⟩
  have H5 := hid hg5
  rw [hg5]
  clear hg5
  cases g5
  · have HR := hid (show sameR r q = false by unfold sameR; rw [H5.out]; simp)
    go_wp2
    go_ret
    exact ⟨by rw [HR.out]; rfl, below_then HB.out (drewN_below _ _) HB.out.size⟩
  go_wp2_with fail
  refine (samePairs_dec _ _ r.prs q.prs _ (HI.out.prs.below (drewN_below _ _)) (HQ.out.prs.below (drewN_below _ _))).mono ?_
  rintro e w2 ⟨rfl, n2, rfl⟩
  have HR := hid (show sameR r q = decide (r.prs = q.prs) by unfold sameR; rw [decide_eq_true H0.out, decide_eq_true H1.out, decide_eq_true H2.out, decide_eq_true H3.out, decide_eq_true H4.out, H5.out]; simp)
  obtain ⟨g6, hg6⟩ : ∃ g, decide (r.prs = q.prs) = g := ⟨_, rfl⟩
  have H6 := hid hg6
  rw [hg6]
  clear hg6
  go_wp2
  go_ret
  exact ⟨by rw [HR.out, H6.out]; rfl, below_then HB.out (drewN_below _ _) HB.out.size⟩

/-- Lists of records are the same. -/
def sameL : List RecV → List RecV → Bool
  | [], [] => true
  | x :: l, y :: m => sameR x y && sameL l m
  | _, _ => false
theorem sameL_iff : ∀ {a b : List RecV}, sameL a b = true ↔ a = b
  | [], [] => by simp [sameL]
  | [], _ :: _ => by simp [sameL]
  | _ :: _, [] => by simp [sameL]
  | x :: l, y :: m => by
    simp only [sameL, Bool.and_eq_true, sameR_iff, sameL_iff, List.cons.injEq]
theorem sameL_no {a b : List RecV} (h : a ≠ b) : sameL a b = false := by
  cases e : sameL a b with
  | false => rfl
  | true => exact absurd (sameL_iff.1 e) h
theorem sameL_self (a : List RecV) : sameL a a = true := sameL_iff.2 rfl
theorem sameL_comm (a b : List RecV) : sameL a b = sameL b a := by
  by_cases h : a = b
  · rw [h]
  · rw [sameL_no h, sameL_no (Ne.symm h)]
theorem sameL_less {a b : List RecV} {j : Nat} {x y : RecV} (hx : a[j]? = some x) (hy : b[j]? = some y) (h : sameR x y = false) : sameL a b = false := sameL_no (fun e => by
  subst e
  rw [hx] at hy
  cases hy
  have := sameR_iff.2 (rfl : x = x)
  rw [h] at this
  cases this)
theorem sameL_all {a b : List RecV} (hl : a.length = b.length) (h : a.take a.length = b.take a.length) : sameL a b = true := sameL_iff.2 (by
  rw [List.take_of_length_le (Nat.le_refl _), List.take_of_length_le (by omega)] at h
  exact h)

set_option maxHeartbeats 16000000 in
theorem sameRecords_dec (u v : Value) (rs qs : List RecV) (w : World) (hu : Recs w u rs) (hv : Recs w v qs) :
    Calls Try.prog 19 #[u, v] w fun e w' => e = .returned (.bool (sameL rs qs)) ∧ Below w.heap.size w w' := by
  have HU := hid hu
  have HV := hid hv
  obtain ⟨ao, ca, rfl, a1, a2, -⟩ := hu.slice
  obtain ⟨bo, cb, rfl, b1, b2, -⟩ := hv.slice
  unfold maxLen at a2 b2
  clear hu hv
  by_cases hlen : rs.length = qs.length
  · have e1 : ((rs.length : Int) != (qs.length : Int)) = false := by simp; omega
    have HL := hid hlen
    have hle : rs.length ≤ qs.length := by omega
    clear hlen
    go_enter Try.func19, Try.ntmps19
    go_wp2
    go_loopw [5] (fun i wr => ∃ k : Nat, k ≤ rs.length ∧ i = .int .i64 k ∧ rs.take k = qs.take k ∧ Below w.heap.size w wr) (fun i _ => rs.length - (intOf i).toNat)
    case atStart => exact ⟨0, by omega, rfl, rfl, Below.refl _ _⟩
    case round =>
      obtain ⟨k, hk, rfl, htk, hbr⟩ := hrel
      have HT := hid htk
      have hlow := hbr.size
      clear htk
      by_cases hlt : k < rs.length
      · have hd5 : decide ((k : Int) < (rs.length : Int)) = true := by simp; omega
        obtain ⟨p, po1, r, so, sc, po, pc, hr, rfl, hp, hir, c0, c1, c2, c3, c4, c5, c6⟩ := (HU.out.below hbr).cell hlt
        obtain ⟨q, qo1, s, so', sc', po', pc', hs, rfl, hq, his, d0, d1, d2, d3, d4, d5, d6⟩ := (HV.out.below hbr).cell (show k < qs.length by omega)
        have HR := hid hr
        have HS := hid hs
        have HI := hid hir
        have HJ := hid his
        have hkn : (k : Int) < (qs.length : Int) := by omega
        clear hr hs hir his
        have HC := hid (show ∀ w', Below wr.heap.size wr w' → (w'.cell? ⟨p, po1 + k * 7, none⟩ = some (.int .i64 r.kind) ∧ w'.cell? ⟨p, po1 + k * 7 + 1, none⟩ = some (.int .i64 r.part) ∧ w'.cell? ⟨p, po1 + k * 7 + 2, none⟩ = some (.int .i64 r.split) ∧ w'.cell? ⟨p, po1 + k * 7 + 3, none⟩ = some (.int .i64 r.attempt) ∧ w'.cell? ⟨p, po1 + k * 7 + 4, none⟩ = some (.int .i64 r.reason) ∧ w'.cell? ⟨p, po1 + k * 7 + 5, none⟩ = some (.slice so r.set.length sc) ∧ w'.cell? ⟨p, po1 + k * 7 + 6, none⟩ = some (.slice po r.prs.length pc)) ∧ w'.cell? ⟨q, qo1 + k * 7, none⟩ = some (.int .i64 s.kind) ∧ w'.cell? ⟨q, qo1 + k * 7 + 1, none⟩ = some (.int .i64 s.part) ∧ w'.cell? ⟨q, qo1 + k * 7 + 2, none⟩ = some (.int .i64 s.split) ∧ w'.cell? ⟨q, qo1 + k * 7 + 3, none⟩ = some (.int .i64 s.attempt) ∧ w'.cell? ⟨q, qo1 + k * 7 + 4, none⟩ = some (.int .i64 s.reason) ∧ w'.cell? ⟨q, qo1 + k * 7 + 5, none⟩ = some (.slice so' s.set.length sc') ∧ w'.cell? ⟨q, qo1 + k * 7 + 6, none⟩ = some (.slice po' s.prs.length pc') from fun w' hb =>
          ⟨⟨(hb.cell (p := ⟨p, po1 + k * 7, none⟩) hp).trans c0, (hb.cell (p := ⟨p, po1 + k * 7 + 1, none⟩) hp).trans c1, (hb.cell (p := ⟨p, po1 + k * 7 + 2, none⟩) hp).trans c2, (hb.cell (p := ⟨p, po1 + k * 7 + 3, none⟩) hp).trans c3, (hb.cell (p := ⟨p, po1 + k * 7 + 4, none⟩) hp).trans c4, (hb.cell (p := ⟨p, po1 + k * 7 + 5, none⟩) hp).trans c5, (hb.cell (p := ⟨p, po1 + k * 7 + 6, none⟩) hp).trans c6⟩, (hb.cell (p := ⟨q, qo1 + k * 7, none⟩) hq).trans d0, (hb.cell (p := ⟨q, qo1 + k * 7 + 1, none⟩) hq).trans d1, (hb.cell (p := ⟨q, qo1 + k * 7 + 2, none⟩) hq).trans d2, (hb.cell (p := ⟨q, qo1 + k * 7 + 3, none⟩) hq).trans d3, (hb.cell (p := ⟨q, qo1 + k * 7 + 4, none⟩) hq).trans d4, (hb.cell (p := ⟨q, qo1 + k * 7 + 5, none⟩) hq).trans d5, (hb.cell (p := ⟨q, qo1 + k * 7 + 6, none⟩) hq).trans d6⟩)
        go_wp2
        go_region_held3 (fun w' => (w'.cell? ⟨p, po1 + k * 7, none⟩ = some (.int .i64 r.kind) ∧ w'.cell? ⟨p, po1 + k * 7 + 1, none⟩ = some (.int .i64 r.part) ∧ w'.cell? ⟨p, po1 + k * 7 + 2, none⟩ = some (.int .i64 r.split) ∧ w'.cell? ⟨p, po1 + k * 7 + 3, none⟩ = some (.int .i64 r.attempt) ∧ w'.cell? ⟨p, po1 + k * 7 + 4, none⟩ = some (.int .i64 r.reason) ∧ w'.cell? ⟨p, po1 + k * 7 + 5, none⟩ = some (.slice so r.set.length sc) ∧ w'.cell? ⟨p, po1 + k * 7 + 6, none⟩ = some (.slice po r.prs.length pc)) ∧ w'.cell? ⟨q, qo1 + k * 7, none⟩ = some (.int .i64 s.kind) ∧ w'.cell? ⟨q, qo1 + k * 7 + 1, none⟩ = some (.int .i64 s.part) ∧ w'.cell? ⟨q, qo1 + k * 7 + 2, none⟩ = some (.int .i64 s.split) ∧ w'.cell? ⟨q, qo1 + k * 7 + 3, none⟩ = some (.int .i64 s.attempt) ∧ w'.cell? ⟨q, qo1 + k * 7 + 4, none⟩ = some (.int .i64 s.reason) ∧ w'.cell? ⟨q, qo1 + k * 7 + 5, none⟩ = some (.slice so' s.set.length sc') ∧ w'.cell? ⟨q, qo1 + k * 7 + 6, none⟩ = some (.slice po' s.prs.length pc')) (first | exact HC.out _ HB5.out | exact HC.out _ (below_drew1 _) | go_keep)
          (first | (go_at_call 37; refine (sameRecord_dec r s so sc po pc so' sc' po' pc' _ ?_ ?_).mono ?_; (exact HI.out.below (below_drew1 _)); (exact HJ.out.below (below_drew1 _)); rintro e w5 ⟨rfl, hb5⟩; have HB5 := hid (below_then (below_drew1 wr) hb5 (below_drew1 wr).size); clear hb5))
        obtain ⟨g, hg⟩ : ∃ g, sameR r s = g := ⟨_, rfl⟩
        have HG := hid hg
        rw [hg]
        clear hg c0 c1 c2 c3 c4 c5 c6 d0 d1 d2 d3 d4 d5 d6 HC
        have HB6 := hid (below_then hbr HB5.out hlow)
        cases g
        · have H3 := hid (sameL_less HR.out HS.out HG.out)
          go_wp2
          go_ret
          exact ⟨by rw [H3.out]; rfl, HB6.out⟩
        · have HE := hid (take_same HT.out HL.out hlt (by rw [HR.out, HS.out, sameR_iff.1 HG.out]))
          go_wp2
          go_roundw
          case rel => exact ⟨k + 1, by omega, by go_num, HE.out, HB6.out⟩
          case measure => simp [intOf]; omega
      · obtain rfl : k = rs.length := by omega
        have hd5 : decide ((rs.length : Int) < (rs.length : Int)) = false := by simp
        have H3 := hid (sameL_all HL.out HT.out)
        go_wp2
        go_ret
        exact ⟨by rw [H3.out]; rfl, hbr⟩
  · have e1 : ((rs.length : Int) != (qs.length : Int)) = true := by simp; omega
    have H3 := hid (show sameL rs qs = false from sameL_no (fun e => hlen (by rw [e])))
    clear hlen
    go_enter Try.func19, Try.ntmps19
    go_wp2
    go_ret
    exact ⟨by rw [H3.out]; rfl, Below.refl _ _⟩
set_option maxHeartbeats 16000000 in
theorem equalRecs_dec (u v : Value) (rs qs : List RecV) (w : World) (hu : Recs w u rs) (hv : Recs w v qs) :
    Calls Try.prog 34 #[u, v, .func (.func 31) #[] #[]] w fun e w' => e = .returned (.bool (sameL rs qs)) ∧ Below w.heap.size w w' := by
  have HU := hid hu
  have HV := hid hv
  obtain ⟨ao, ca, rfl, a1, a2, -⟩ := hu.slice
  obtain ⟨bo, cb, rfl, b1, b2, -⟩ := hv.slice
  unfold maxLen at a2 b2
  clear hu hv
  by_cases hlen : rs.length = qs.length
  · have e1 : ((rs.length : Int) != (qs.length : Int)) = false := by simp; omega
    have HL := hid hlen
    have hle : rs.length ≤ qs.length := by omega
    clear hlen
    go_enter Try.func34, Try.ntmps34
    go_wp2
    go_loopw [17] (fun i wr => ∃ k : Nat, k ≤ rs.length ∧ i = .int .i64 k ∧ rs.take k = qs.take k ∧ Below w.heap.size w wr) (fun i _ => rs.length - (intOf i).toNat)
    case atStart => exact ⟨0, by omega, rfl, rfl, Below.refl _ _⟩
    case round =>
      obtain ⟨k, hk, rfl, htk, hbr⟩ := hrel
      have HT := hid htk
      have hlow := hbr.size
      clear htk
      by_cases hlt : k < rs.length
      · have hd5 : decide ((k : Int) < (rs.length : Int)) = true := by simp; omega
        obtain ⟨p, po1, r, so, sc, po, pc, hr, rfl, hp, hir, c0, c1, c2, c3, c4, c5, c6⟩ := (HU.out.below hbr).cell hlt
        obtain ⟨q, qo1, s, so', sc', po', pc', hs, rfl, hq, his, d0, d1, d2, d3, d4, d5, d6⟩ := (HV.out.below hbr).cell (show k < qs.length by omega)
        have HR := hid hr
        have HS := hid hs
        have hkn : (k : Int) < (qs.length : Int) := by omega
        have HB2 := hid (two_below wr (.cells #[.int .i64 r.kind, .int .i64 r.part, .int .i64 r.split, .int .i64 r.attempt, .int .i64 r.reason, .slice so r.set.length sc, .slice po r.prs.length pc] 33) (.cells #[.int .i64 s.kind, .int .i64 s.part, .int .i64 s.split, .int .i64 s.attempt, .int .i64 s.reason, .slice so' s.set.length sc', .slice po' s.prs.length pc'] 33))
        have HI := hid (hir.below HB2.out)
        have HJ := hid (his.below HB2.out)
        clear hr hs hir his
        go_wp2_with fail
        refine (recSame_dec r s so sc po pc so' sc' po' pc' _ HI.out HJ.out).mono ?_
        rintro e w5 ⟨rfl, hb5⟩
        have HB5 := hid (below_then HB2.out hb5 HB2.out.size)
        clear hb5 HB2 HI HJ
        obtain ⟨g, hg⟩ : ∃ g, sameR r s = g := ⟨_, rfl⟩
        have HG := hid hg
        rw [hg]
        clear hg c0 c1 c2 c3 c4 c5 c6 d0 d1 d2 d3 d4 d5 d6
        have HB6 := hid (below_then hbr HB5.out hlow)
        cases g
        · have H3 := hid (sameL_less HR.out HS.out HG.out)
          go_wp2
          go_ret
          exact ⟨by rw [H3.out]; rfl, HB6.out⟩
        · have HE := hid (take_same HT.out HL.out hlt (by rw [HR.out, HS.out, sameR_iff.1 HG.out]))
          go_wp2
          go_roundw
          case rel => exact ⟨k + 1, by omega, by go_num, HE.out, HB6.out⟩
          case measure => simp [intOf]; omega
      · obtain rfl : k = rs.length := by omega
        have hd5 : decide ((rs.length : Int) < (rs.length : Int)) = false := by simp
        have H3 := hid (sameL_all HL.out HT.out)
        go_wp2
        go_ret
        exact ⟨by rw [H3.out]; rfl, hbr⟩
  · have e1 : ((rs.length : Int) != (qs.length : Int)) = true := by simp; omega
    have H3 := hid (show sameL rs qs = false from sameL_no (fun e => hlen (by rw [e])))
    clear hlen
    go_enter Try.func34, Try.ntmps34
    go_wp2
    go_ret
    exact ⟨by rw [H3.out]; rfl, Below.refl _ _⟩
theorem recSames_any (u v : Value) (rs qs : List RecV) (w : World) (hu : Recs w u rs) (hv : Recs w v qs) :
    Calls Try.prog 15 #[u, v] w fun e w' => e = .returned (.bool (sameL rs qs)) ∧ Below w.heap.size w w' := by
  have HU := hid hu
  have HV := hid hv
  clear hu hv
  go_enter Try.func15, Try.ntmps15
  go_wp2_with fail
  refine (equalRecs_dec u v rs qs w HU.out HV.out).mono ?_
  rintro e w1 ⟨rfl, hb⟩
  obtain ⟨g, hg⟩ : ∃ g, sameL rs qs = g := ⟨_, rfl⟩
  have HG := hid hg
  rw [hg]
  clear hg
  go_wp2
  go_ret
  exact ⟨by rw [HG.out]; rfl, hb⟩

/-- No more than most. -/
def GreatR (rs : List RecV) (most : Nat) (e : Ending) : Prop := ∃ g, e = .returned (.bool g) ∧ (g = false → rs.length ≤ most)
set_option maxHeartbeats 16000000 in
theorem greatRecs_any (u : Value) (rs : List RecV) (most : Nat) (w : World) (hu : Recs w u rs) :
    Calls Try.prog 7 #[u, .int .i64 most] w fun e w' => GreatR rs most e ∧ w' = w := by
  have HU := hid hu
  obtain ⟨ao, ca, rfl, a1, a2, -⟩ := hu.slice
  unfold maxLen at a2
  clear hu
  by_cases hbig : most < rs.length
  · have hd : decide ((rs.length : Int) ≤ (most : Int)) = false := by simp; omega
    have hd2 : decide ((most : Int) < (rs.length : Int)) = true := by simp; omega
    have hd3 : decide ((0 : Int) < (rs.length : Int)) = true := by simp; omega
    go_enter Try.func7, Try.ntmps7
    go_wp2
    go_loop [5] (fun i => i = .int .i64 0) (fun _ => 0)
    case atStart => rfl
    case round =>
      subst hrel
      go_wp2
      go_ret
      exact ⟨⟨true, rfl, fun h => by cases h⟩, rfl⟩
  · have hd : decide ((rs.length : Int) ≤ (most : Int)) = true := by simp; omega
    have hd2 : decide ((most : Int) < (rs.length : Int)) = false := by simp; omega
    have hle : rs.length ≤ most := by omega
    go_enter Try.func7, Try.ntmps7
    go_wp2
    go_loop [5] (fun i => ∃ k : Nat, k ≤ rs.length ∧ i = .int .i64 k) (fun i => rs.length - (intOf i).toNat)
    case atStart => exact ⟨0, by omega, rfl⟩
    case round =>
      obtain ⟨k, hk, rfl⟩ := hrel
      by_cases hlt : k < rs.length
      · have hd5 : decide ((k : Int) < (rs.length : Int)) = true := by simp; omega
        obtain ⟨p, po1, r, so, sc, po, pc, hr, rfl, hp, hir, c0, c1, c2, c3, c4, c5, c6⟩ := HU.out.cell hlt
        have HI := hid hir
        have hsl := hir.set.len
        clear hr hir c0 c1 c2 c3 c4
        by_cases h20 : 20 < r.set.length
        · have hd20 : decide ((20 : Int) < (r.set.length : Int)) = true := by simp; omega
          go_wp2
          go_ret
          exact ⟨⟨true, rfl, fun h => by cases h⟩, rfl⟩
        · have hd20 : decide ((20 : Int) < (r.set.length : Int)) = false := by simp; omega
          go_wp2_with fail
          refine (greatPairs_any _ r.prs 50 w HI.out.prs).mono ?_
          rintro e w1 ⟨⟨g, rfl, -⟩, rfl⟩
          cases g
          · go_wp2
            go_round
            case rel => exact ⟨k + 1, by omega, by go_num⟩
            case measure => simp [intOf]; omega
          · go_wp2
            go_ret
            exact ⟨⟨true, rfl, fun h => by cases h⟩, rfl⟩
      · have hd5 : decide ((k : Int) < (rs.length : Int)) = false := by simp; omega
        go_wp2
        go_ret
        exact ⟨⟨false, rfl, fun _ => hle⟩, rfl⟩
end Go.Proofs.Ytpkobobandcclaa
