/- Records held against each other: the program's same, and slices.Equal of whole numbers. -/
import Derived.Test.YtpkobobandcclaaRcIs
namespace Go.Proofs.Ytpkobobandcclaa
open Go.RowKit
set_option linter.unusedVariables false

/-- All fields are the same. -/
def sameR (r q : RecV) : Bool := decide (r.kind = q.kind) && (decide (r.part = q.part) && (decide (r.split = q.split) && (decide (r.attempt = q.attempt) && (decide (r.reason = q.reason) && (decide (r.set = q.set) && decide (r.prs = q.prs))))))
theorem sameR_iff {r q : RecV} : sameR r q = true ↔ r = q := by
  obtain ⟨a0, a1, a2, a3, a4, a5, a6⟩ := r
  obtain ⟨b0, b1, b2, b3, b4, b5, b6⟩ := q
  simp [sameR]

set_option maxHeartbeats 1000000 in
theorem equalInts_dec (a b : Value) (l m : List Int) (w : World) (ha : Is w a l) (hb : Is w b m) :
    Calls Try.prog 51 #[a, b] w fun e w' => e = .returned (.bool (decide (l = m))) ∧ ∃ n, w' = w.drewN n := by
  have HA := hid ha
  have HB := hid hb
  obtain ⟨ao, ca, rfl, a1, a2, -, -⟩ := ha
  obtain ⟨bo, cb, rfl, b1, b2, -, -⟩ := hb
  unfold maxLen at a2 b2
  by_cases hlen : l.length = m.length
  · have e1 : ((l.length : Int) != (m.length : Int)) = false := by simp; omega
    have hle : l.length ≤ m.length := by omega
    have HL := hid hlen
    clear hlen
    go_enter Try.func51, Try.ntmps51
    go_wp2
    go_loopw [13] (fun i wr => ∃ k : Nat, k ≤ l.length ∧ i = .int .i64 k ∧ l.take k = m.take k ∧ ∃ t, wr = w.drewN t) (fun i _ => l.length - (intOf i).toNat)
    case atStart => exact ⟨0, by omega, rfl, rfl, 0, rfl⟩
    case round =>
      obtain ⟨k, hk, rfl, htk, t, rfl⟩ := hrel
      have HT := hid htk
      clear htk
      by_cases hlt : k < l.length
      · have hd5 : decide ((k : Int) < (l.length : Int)) = true := by simp; omega
        have hlm : k < m.length := by omega
        obtain ⟨p, po, x, hx, rfl, hp, c0⟩ := HA.out.cell hlt
        obtain ⟨q, qo, y, hy, rfl, hq, d0⟩ := HB.out.cell hlm
        have HX := hid hx
        have HY := hid hy
        clear hx hy
        by_cases hxy : x = y
        · have e2 : (x != y) = false := by simpa using hxy
          have HE := hid hxy
          clear hxy
          go_wp2
          go_quiet (fail)
          go_wp2
          go_roundw
          case rel => exact ⟨k + 1, by omega, by go_num, take_same HT.out HL.out hlt (by rw [HX.out, HY.out, HE.out]), _, rfl⟩
          case measure => simp [intOf]; omega
        · have e2 : (x != y) = true := by simpa using hxy
          have H3 := hid (show decide (l = m) = false from decide_eq_false (take_less HX.out HY.out hxy))
          clear hxy
          go_wp2
          go_quiet (fail)
          go_wp2
          go_ret
          exact ⟨by rw [H3.out]; rfl, _, World.drewN_drewN ..⟩
      · obtain rfl : k = l.length := by omega
        have hd5 : decide ((l.length : Int) < (l.length : Int)) = false := by simp
        have H3 := hid (show decide (l = m) = true from decide_eq_true (by
          have h1 := HT.out
          have h2 := HL.out
          rw [List.take_of_length_le (Nat.le_refl _), List.take_of_length_le (by omega)] at h1
          exact h1))
        go_wp2
        go_ret
        exact ⟨by rw [H3.out]; rfl, _, rfl⟩
  · have e1 : ((l.length : Int) != (m.length : Int)) = true := by simp; omega
    have H3 := hid (show decide (l = m) = false from decide_eq_false (fun e => hlen (by rw [e])))
    clear hlen
    go_enter Try.func51, Try.ntmps51
    go_wp2
    go_ret
    exact ⟨by rw [H3.out]; rfl, 0, rfl⟩

theorem two_below (w : World) (o1 o2 : Obj) : Below w.heap.size w ((w.alloc o1).alloc o2) := below_then (alloc_one w o1) (alloc_one _ o2) (alloc_one w o1).size
theorem drewN_below (w : World) (n : Nat) : Below w.heap.size w (w.drewN n) := ⟨rfl, rfl, rfl, Nat.le_refl _, fun _ _ => rfl⟩
set_option maxHeartbeats 4000000 in
theorem recSame_dec (r q : RecV) (so : Option Addr) (sc : Nat) (po : Option Addr) (pc : Nat) (so' : Option Addr) (sc' : Nat) (po' : Option Addr) (pc' : Nat) (w : World) (hr : RecIs w so sc po pc r) (hq : RecIs w so' sc' po' pc' q) :
    Calls Try.prog 31 #[.agg #[.int .i64 r.kind, .int .i64 r.part, .int .i64 r.split, .int .i64 r.attempt, .int .i64 r.reason, .slice so r.set.length sc, .slice po r.prs.length pc], .agg #[.int .i64 q.kind, .int .i64 q.part, .int .i64 q.split, .int .i64 q.attempt, .int .i64 q.reason, .slice so' q.set.length sc', .slice po' q.prs.length pc']] w fun e w' => e = .returned (.bool (sameR r q)) ∧ Below w.heap.size w w' := by
  have HB := hid (two_below w (.cells #[.int .i64 r.kind, .int .i64 r.part, .int .i64 r.split, .int .i64 r.attempt, .int .i64 r.reason, .slice so r.set.length sc, .slice po r.prs.length pc] 33) (.cells #[.int .i64 q.kind, .int .i64 q.part, .int .i64 q.split, .int .i64 q.attempt, .int .i64 q.reason, .slice so' q.set.length sc', .slice po' q.prs.length pc'] 33))
  have HI := hid (hr.below HB.out)
  have HQ := hid (hq.below HB.out)
  have HA := hid ((At.new w #[.int .i64 r.kind, .int .i64 r.part, .int .i64 r.split, .int .i64 r.attempt, .int .i64 r.reason, .slice so r.set.length sc, .slice po r.prs.length pc] 33).below (alloc_one _ (.cells #[.int .i64 q.kind, .int .i64 q.part, .int .i64 q.split, .int .i64 q.attempt, .int .i64 q.reason, .slice so' q.set.length sc', .slice po' q.prs.length pc'] 33)) (by simp))
  have HC := hid (At.new (w.alloc (.cells #[.int .i64 r.kind, .int .i64 r.part, .int .i64 r.split, .int .i64 r.attempt, .int .i64 r.reason, .slice so r.set.length sc, .slice po r.prs.length pc] 33)) #[.int .i64 q.kind, .int .i64 q.part, .int .i64 q.split, .int .i64 q.attempt, .int .i64 q.reason, .slice so' q.set.length sc', .slice po' q.prs.length pc'] 33)
  simp only [World.size_alloc] at HC
  clear hr hq
  by_cases h0 : r.kind = q.kind
  rotate_left
  · have b0 : (r.kind == q.kind) = false := by simpa using h0
    have HR := hid (show sameR r q = false by unfold sameR; rw [decide_eq_false h0]; simp)
    clear h0
    go_enter Try.func31, Try.ntmps31
    go_wp2
    go_ret
    exact ⟨by rw [HR.out]; rfl, HB.out⟩
  have b0 : (r.kind == q.kind) = true := by simpa using h0
  have H0 := hid h0
  clear h0
  by_cases h1 : r.part = q.part
  rotate_left
  · have b1 : (r.part == q.part) = false := by simpa using h1
    have HR := hid (show sameR r q = false by unfold sameR; rw [decide_eq_false h1]; simp)
    clear h1
    go_enter Try.func31, Try.ntmps31
    go_wp2
    go_ret
    exact ⟨by rw [HR.out]; rfl, HB.out⟩
  have b1 : (r.part == q.part) = true := by simpa using h1
  have H1 := hid h1
  clear h1
  by_cases h2 : r.split = q.split
  rotate_left
  · have b2 : (r.split == q.split) = false := by simpa using h2
    have HR := hid (show sameR r q = false by unfold sameR; rw [decide_eq_false h2]; simp)
    clear h2
    go_enter Try.func31, Try.ntmps31
    go_wp2
    go_ret
    exact ⟨by rw [HR.out]; rfl, HB.out⟩
  have b2 : (r.split == q.split) = true := by simpa using h2
  have H2 := hid h2
  clear h2
  by_cases h3 : r.attempt = q.attempt
  rotate_left
  · have b3 : (r.attempt == q.attempt) = false := by simpa using h3
    have HR := hid (show sameR r q = false by unfold sameR; rw [decide_eq_false h3]; simp)
    clear h3
    go_enter Try.func31, Try.ntmps31
    go_wp2
    go_ret
    exact ⟨by rw [HR.out]; rfl, HB.out⟩
  have b3 : (r.attempt == q.attempt) = true := by simpa using h3
  have H3 := hid h3
  clear h3
  by_cases h4 : r.reason = q.reason
  rotate_left
  · have b4 : (r.reason == q.reason) = false := by simpa using h4
    have HR := hid (show sameR r q = false by unfold sameR; rw [decide_eq_false h4]; simp)
    clear h4
    go_enter Try.func31, Try.ntmps31
    go_wp2
    go_ret
    exact ⟨by rw [HR.out]; rfl, HB.out⟩
  have b4 : (r.reason == q.reason) = true := by simpa using h4
  have H4 := hid h4
  clear h4
  go_enter Try.func31, Try.ntmps31
  go_wp2_with fail
  refine (equalInts_dec _ _ r.set q.set _ HI.out.set HQ.out.set).mono ?_
  rintro e w1 ⟨rfl, n1, rfl⟩
  obtain ⟨g5, hg5⟩ : ∃ g, decide (r.set = q.set) = g := ⟨_, rfl⟩
  have H5 := hid hg5
  rw [hg5]
  clear hg5
  cases g5
  · have HR := hid (show sameR r q = false by unfold sameR; rw [H5.out]; simp)
    go_wp2
    go_ret
    exact ⟨by rw [HR.out]; rfl, below_then HB.out (drewN_below _ _) HB.out.size⟩
  go_wp2_with fail
  refine (pairSame_dec _ _ r.prs q.prs _ (HI.out.prs.below (drewN_below _ _)) (HQ.out.prs.below (drewN_below _ _))).mono ?_
  rintro e w2 ⟨rfl, n2, rfl⟩
  have HR := hid (show sameR r q = decide (r.prs = q.prs) by unfold sameR; rw [decide_eq_true H0.out, decide_eq_true H1.out, decide_eq_true H2.out, decide_eq_true H3.out, decide_eq_true H4.out, H5.out]; simp)
  obtain ⟨g6, hg6⟩ : ∃ g, decide (r.prs = q.prs) = g := ⟨_, rfl⟩
  have H6 := hid hg6
  rw [hg6]
  clear hg6
  go_wp2
  go_ret
  exact ⟨by rw [HR.out, H6.out]; rfl, below_then HB.out (drewN_below _ _) HB.out.size⟩
end Go.Proofs.Ytpkobobandcclaa
