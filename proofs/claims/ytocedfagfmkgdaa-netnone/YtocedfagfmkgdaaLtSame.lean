/- Letters held against each other by the statements; great letters. -/
import Derived.Test.YtocedfagfmkgdaaLtIs
import Derived.Test.YtocedfagfmkgdaaIntsSameP
namespace Go.Proofs.Ytocedfagfmkgdaa
open Go.RowKit
set_option linter.unusedVariables false

/-- Messages are the same. -/
def sameM (r q : LetV) : Bool := decide (r.kind = q.kind) && (decide (r.split = q.split) && (decide (r.attempt = q.attempt) && (decide (r.part = q.part) && (decide (r.seq = q.seq) && (decide (r.next = q.next) && (decide (r.epoch = q.epoch) && (decide (r.reason = q.reason) && (decide (r.set = q.set) && (decide (r.prs = q.prs))))))))))
/-- Letters are the same. -/
def sameV (r q : LetV) : Bool := decide (r.from_ = q.from_) && (decide (r.to_ = q.to_) && sameM r q)
theorem sameV_iff {r q : LetV} : sameV r q = true ↔ r = q := by
  obtain ⟨a0, a1, a2, a3, a4, a5, a6, a7, a8, a9, aa, ab⟩ := r
  obtain ⟨b0, b1, b2, b3, b4, b5, b6, b7, b8, b9, ba, bb⟩ := q
  simp [sameV, sameM]
theorem two_below (w : World) (o1 o2 : Obj) : Below w.heap.size w ((w.alloc o1).alloc o2) := below_then (alloc_one w o1) (alloc_one _ o2) (alloc_one w o1).size
theorem drewN_below (w : World) (n : Nat) : Below w.heap.size w (w.drewN n) := ⟨rfl, rfl, rfl, Nat.le_refl _, fun _ _ => rfl⟩
set_option maxHeartbeats 8000000 in
theorem sameMsg_dec (r q : LetV) (so : Option Addr) (sc : Nat) (po : Option Addr) (pc : Nat) (so' : Option Addr) (sc' : Nat) (po' : Option Addr) (pc' : Nat) (w : World) (hr : LetIs w so sc po pc r) (hq : LetIs w so' sc' po' pc' q) :
    Calls Try.prog 27 #[.agg #[.int .i64 r.kind, .int .i64 r.split, .int .i64 r.attempt, .int .i64 r.part, .int .i64 r.seq, .int .i64 r.next, .int .i64 r.epoch, .int .i64 r.reason, .slice so r.set.length sc, .slice po r.prs.length pc], .agg #[.int .i64 q.kind, .int .i64 q.split, .int .i64 q.attempt, .int .i64 q.part, .int .i64 q.seq, .int .i64 q.next, .int .i64 q.epoch, .int .i64 q.reason, .slice so' q.set.length sc', .slice po' q.prs.length pc']] w fun e w' => e = .returned (.bool (sameM r q)) ∧ Below w.heap.size w w' := by
  have HB := hid (two_below w (.cells #[.int .i64 r.kind, .int .i64 r.split, .int .i64 r.attempt, .int .i64 r.part, .int .i64 r.seq, .int .i64 r.next, .int .i64 r.epoch, .int .i64 r.reason, .slice so r.set.length sc, .slice po r.prs.length pc] 34) (.cells #[.int .i64 q.kind, .int .i64 q.split, .int .i64 q.attempt, .int .i64 q.part, .int .i64 q.seq, .int .i64 q.next, .int .i64 q.epoch, .int .i64 q.reason, .slice so' q.set.length sc', .slice po' q.prs.length pc'] 34))
  have HI := hid (hr.below HB.out)
  have HQ := hid (hq.below HB.out)
  have HA := hid ((At.new w #[.int .i64 r.kind, .int .i64 r.split, .int .i64 r.attempt, .int .i64 r.part, .int .i64 r.seq, .int .i64 r.next, .int .i64 r.epoch, .int .i64 r.reason, .slice so r.set.length sc, .slice po r.prs.length pc] 34).below (alloc_one _ (.cells #[.int .i64 q.kind, .int .i64 q.split, .int .i64 q.attempt, .int .i64 q.part, .int .i64 q.seq, .int .i64 q.next, .int .i64 q.epoch, .int .i64 q.reason, .slice so' q.set.length sc', .slice po' q.prs.length pc'] 34)) (by simp))
  have HC := hid (At.new (w.alloc (.cells #[.int .i64 r.kind, .int .i64 r.split, .int .i64 r.attempt, .int .i64 r.part, .int .i64 r.seq, .int .i64 r.next, .int .i64 r.epoch, .int .i64 r.reason, .slice so r.set.length sc, .slice po r.prs.length pc] 34)) #[.int .i64 q.kind, .int .i64 q.split, .int .i64 q.attempt, .int .i64 q.part, .int .i64 q.seq, .int .i64 q.next, .int .i64 q.epoch, .int .i64 q.reason, .slice so' q.set.length sc', .slice po' q.prs.length pc'] 34)
  simp only [World.size_alloc] at HC
  clear hr hq
  by_cases h0 : r.kind = q.kind
  rotate_left
  · have b0 : (r.kind == q.kind) = false := by simpa using h0
    have HR := hid (show sameM r q = false by unfold sameM; rw [decide_eq_false h0]; simp)
    clear h0
    go_enter Try.func27, Try.ntmps27
    go_wp2
    go_ret
    exact ⟨by rw [HR.out]; rfl, HB.out⟩
  have b0 : (r.kind == q.kind) = true := by simpa using h0
  have H0 := hid h0
  clear h0
  by_cases h1 : r.split = q.split
  rotate_left
  · have b1 : (r.split == q.split) = false := by simpa using h1
    have HR := hid (show sameM r q = false by unfold sameM; rw [decide_eq_false h1]; simp)
    clear h1
    go_enter Try.func27, Try.ntmps27
    go_wp2
    go_ret
    exact ⟨by rw [HR.out]; rfl, HB.out⟩
  have b1 : (r.split == q.split) = true := by simpa using h1
  have H1 := hid h1
  clear h1
  by_cases h2 : r.attempt = q.attempt
  rotate_left
  · have b2 : (r.attempt == q.attempt) = false := by simpa using h2
    have HR := hid (show sameM r q = false by unfold sameM; rw [decide_eq_false h2]; simp)
    clear h2
    go_enter Try.func27, Try.ntmps27
    go_wp2
    go_ret
    exact ⟨by rw [HR.out]; rfl, HB.out⟩
  have b2 : (r.attempt == q.attempt) = true := by simpa using h2
  have H2 := hid h2
  clear h2
  by_cases h3 : r.part = q.part
  rotate_left
  · have b3 : (r.part == q.part) = false := by simpa using h3
    have HR := hid (show sameM r q = false by unfold sameM; rw [decide_eq_false h3]; simp)
    clear h3
    go_enter Try.func27, Try.ntmps27
    go_wp2
    go_ret
    exact ⟨by rw [HR.out]; rfl, HB.out⟩
  have b3 : (r.part == q.part) = true := by simpa using h3
  have H3 := hid h3
  clear h3
  by_cases h4 : r.seq = q.seq
  rotate_left
  · have b4 : (r.seq == q.seq) = false := by simpa using h4
    have HR := hid (show sameM r q = false by unfold sameM; rw [decide_eq_false h4]; simp)
    clear h4
    go_enter Try.func27, Try.ntmps27
    go_wp2
    go_ret
    exact ⟨by rw [HR.out]; rfl, HB.out⟩
  have b4 : (r.seq == q.seq) = true := by simpa using h4
  have H4 := hid h4
  clear h4
  by_cases h5 : r.next = q.next
  rotate_left
  · have b5 : (r.next == q.next) = false := by simpa using h5
    have HR := hid (show sameM r q = false by unfold sameM; rw [decide_eq_false h5]; simp)
    clear h5
    go_enter Try.func27, Try.ntmps27
    go_wp2
    go_ret
    exact ⟨by rw [HR.out]; rfl, HB.out⟩
  have b5 : (r.next == q.next) = true := by simpa using h5
  have H5 := hid h5
  clear h5
  by_cases h6 : r.epoch = q.epoch
  rotate_left
  · have b6 : (r.epoch == q.epoch) = false := by simpa using h6
    have HR := hid (show sameM r q = false by unfold sameM; rw [decide_eq_false h6]; simp)
    clear h6
    go_enter Try.func27, Try.ntmps27
    go_wp2
    go_ret
    exact ⟨by rw [HR.out]; rfl, HB.out⟩
  have b6 : (r.epoch == q.epoch) = true := by simpa using h6
  have H6 := hid h6
  clear h6
  by_cases h7 : r.reason = q.reason
  rotate_left
  · have b7 : (r.reason == q.reason) = false := by simpa using h7
    have HR := hid (show sameM r q = false by unfold sameM; rw [decide_eq_false h7]; simp)
    clear h7
    go_enter Try.func27, Try.ntmps27
    go_wp2
    go_ret
    exact ⟨by rw [HR.out]; rfl, HB.out⟩
  have b7 : (r.reason == q.reason) = true := by simpa using h7
  have H7 := hid h7
  clear h7
  go_enter Try.func27, Try.ntmps27
  go_wp2_with fail
  refine (sameInts_any _ _ r.set q.set _ HI.out.set HQ.out.set).mono ?_
  rintro e w1 ⟨rfl, n1, rfl⟩
  obtain ⟨g5, hg5⟩ : ∃ g, decide (r.set = q.set) = g := ⟨_, rfl⟩
  have HS := hid hg5
  rw [hg5]
  clear hg5
  cases g5
  · have HR := hid (show sameM r q = false by unfold sameM; rw [HS.out]; simp)
    go_wp2
    go_ret
    exact ⟨by rw [HR.out]; rfl, below_then HB.out (drewN_below _ _) HB.out.size⟩
  go_wp2_with fail
  refine (samePairs_dec _ _ r.prs q.prs _ (HI.out.prs.below (drewN_below _ _)) (HQ.out.prs.below (drewN_below _ _))).mono ?_
  rintro e w2 ⟨rfl, n2, rfl⟩
  have HR := hid (show sameM r q = decide (r.prs = q.prs) by unfold sameM; rw [decide_eq_true H0.out, decide_eq_true H1.out, decide_eq_true H2.out, decide_eq_true H3.out, decide_eq_true H4.out, decide_eq_true H5.out, decide_eq_true H6.out, decide_eq_true H7.out, HS.out]; simp)
  obtain ⟨g6, hg6⟩ : ∃ g, decide (r.prs = q.prs) = g := ⟨_, rfl⟩
  have HP := hid hg6
  rw [hg6]
  clear hg6
  go_wp2
  go_ret
  exact ⟨by rw [HR.out, HP.out]; rfl, below_then HB.out (drewN_below _ _) HB.out.size⟩

/-- What a slice's letters are. -/
def plain (xs : List LetX) : List LetV := xs.map (·.r)
/-- Lists of letters are the same. -/
def sameL (a b : List LetV) : Bool := decide (a = b)
theorem sameL_iff {a b : List LetV} : sameL a b = true ↔ a = b := by simp [sameL]
theorem sameL_no {a b : List LetV} (h : a ≠ b) : sameL a b = false := by simp [sameL, h]
theorem sameL_self (a : List LetV) : sameL a a = true := sameL_iff.2 rfl
theorem sameL_less {a b : List LetV} {j : Nat} {x y : LetV} (hx : a[j]? = some x) (hy : b[j]? = some y) (h : sameV x y = false) : sameL a b = false := sameL_no (fun e => by
  subst e
  rw [hx] at hy
  cases hy
  have := sameV_iff.2 (rfl : x = x)
  rw [h] at this
  cases this)
theorem sameL_all {a b : List LetV} (hl : a.length = b.length) (h : a.take a.length = b.take a.length) : sameL a b = true := sameL_iff.2 (by
  rw [List.take_of_length_le (Nat.le_refl _), List.take_of_length_le (by omega)] at h
  exact h)
theorem plain_at {xs : List LetX} {j : Nat} {x : LetX} (h : xs[j]? = some x) : (plain xs)[j]? = some x.r := by unfold plain; rw [List.getElem?_map, h]; rfl
theorem plain_len (xs : List LetX) : (plain xs).length = xs.length := by simp [plain]

set_option maxRecDepth 100000 in
set_option maxHeartbeats 16000000 in
theorem sameLetters_dec (u v : Value) (xs ys : List LetX) (w : World) (hu : LetsX w u xs) (hv : LetsX w v ys) :
    Calls Try.prog 13 #[u, v] w fun e w' => e = .returned (.bool (sameL (plain xs) (plain ys))) ∧ Below w.heap.size w w' := by
  have HU := hid hu
  have HV := hid hv
  obtain ⟨ao, ca, rfl, a1, a2, -⟩ := hu.slice
  obtain ⟨bo, cb, rfl, b1, b2, -⟩ := hv.slice
  unfold maxLen at a2 b2
  clear hu hv
  by_cases hlen : xs.length = ys.length
  · have e1 : ((xs.length : Int) != (ys.length : Int)) = false := by simp; omega
    have HL := hid hlen
    have hle : xs.length ≤ ys.length := by omega
    clear hlen
    go_enter Try.func13, Try.ntmps13
    go_wp2
    go_loopw [5] (fun i wr => ∃ k : Nat, k ≤ xs.length ∧ i = .int .i64 k ∧ (plain xs).take k = (plain ys).take k ∧ Below w.heap.size w wr) (fun i _ => xs.length - (intOf i).toNat)
    case atStart => exact ⟨0, by omega, rfl, rfl, Below.refl _ _⟩
    case round =>
      obtain ⟨k, hk, rfl, htk, hbr⟩ := hrel
      have HT := hid htk
      have hlow := hbr.size
      clear htk
      by_cases hlt : k < xs.length
      · have hd5 : decide ((k : Int) < (xs.length : Int)) = true := by simp; omega
        obtain ⟨p, po1, x, hr, rfl, hp, hir, c0, c1, c2, c3, c4, c5, c6, c7, c8, c9, c10, c11⟩ := (HU.out.below hbr).cell hlt
        obtain ⟨q, qo1, y, hs, rfl, hq, his, d0, d1, d2, d3, d4, d5, d6, d7, d8, d9, d10, d11⟩ := (HV.out.below hbr).cell (show k < ys.length by omega)
        have HR := hid (plain_at hr)
        have HS := hid (plain_at hs)
        have HI := hid hir
        have HJ := hid his
        have hkn : (k : Int) < (ys.length : Int) := by omega
        clear hr hs hir his
        have HC := hid (show ∀ w', Below wr.heap.size wr w' → (w'.cell? ⟨p, po1 + k * 12, none⟩ = some (.int .i64 x.r.from_) ∧ w'.cell? ⟨p, po1 + k * 12 + 1, none⟩ = some (.int .i64 x.r.to_) ∧ w'.cell? ⟨p, po1 + k * 12 + 2, none⟩ = some (.int .i64 x.r.kind) ∧ w'.cell? ⟨p, po1 + k * 12 + 3, none⟩ = some (.int .i64 x.r.split) ∧ w'.cell? ⟨p, po1 + k * 12 + 4, none⟩ = some (.int .i64 x.r.attempt) ∧ w'.cell? ⟨p, po1 + k * 12 + 5, none⟩ = some (.int .i64 x.r.part) ∧ w'.cell? ⟨p, po1 + k * 12 + 6, none⟩ = some (.int .i64 x.r.seq) ∧ w'.cell? ⟨p, po1 + k * 12 + 7, none⟩ = some (.int .i64 x.r.next) ∧ w'.cell? ⟨p, po1 + k * 12 + 8, none⟩ = some (.int .i64 x.r.epoch) ∧ w'.cell? ⟨p, po1 + k * 12 + 9, none⟩ = some (.int .i64 x.r.reason) ∧ w'.cell? ⟨p, po1 + k * 12 + 10, none⟩ = some (.slice x.so x.r.set.length x.sc) ∧ w'.cell? ⟨p, po1 + k * 12 + 11, none⟩ = some (.slice x.po x.r.prs.length x.pc)) ∧ w'.cell? ⟨q, qo1 + k * 12, none⟩ = some (.int .i64 y.r.from_) ∧ w'.cell? ⟨q, qo1 + k * 12 + 1, none⟩ = some (.int .i64 y.r.to_) ∧ w'.cell? ⟨q, qo1 + k * 12 + 2, none⟩ = some (.int .i64 y.r.kind) ∧ w'.cell? ⟨q, qo1 + k * 12 + 3, none⟩ = some (.int .i64 y.r.split) ∧ w'.cell? ⟨q, qo1 + k * 12 + 4, none⟩ = some (.int .i64 y.r.attempt) ∧ w'.cell? ⟨q, qo1 + k * 12 + 5, none⟩ = some (.int .i64 y.r.part) ∧ w'.cell? ⟨q, qo1 + k * 12 + 6, none⟩ = some (.int .i64 y.r.seq) ∧ w'.cell? ⟨q, qo1 + k * 12 + 7, none⟩ = some (.int .i64 y.r.next) ∧ w'.cell? ⟨q, qo1 + k * 12 + 8, none⟩ = some (.int .i64 y.r.epoch) ∧ w'.cell? ⟨q, qo1 + k * 12 + 9, none⟩ = some (.int .i64 y.r.reason) ∧ w'.cell? ⟨q, qo1 + k * 12 + 10, none⟩ = some (.slice y.so y.r.set.length y.sc) ∧ w'.cell? ⟨q, qo1 + k * 12 + 11, none⟩ = some (.slice y.po y.r.prs.length y.pc) from fun w' hb =>
          ⟨⟨(hb.cell (p := ⟨p, po1 + k * 12, none⟩) hp).trans c0, (hb.cell (p := ⟨p, po1 + k * 12 + 1, none⟩) hp).trans c1, (hb.cell (p := ⟨p, po1 + k * 12 + 2, none⟩) hp).trans c2, (hb.cell (p := ⟨p, po1 + k * 12 + 3, none⟩) hp).trans c3, (hb.cell (p := ⟨p, po1 + k * 12 + 4, none⟩) hp).trans c4, (hb.cell (p := ⟨p, po1 + k * 12 + 5, none⟩) hp).trans c5, (hb.cell (p := ⟨p, po1 + k * 12 + 6, none⟩) hp).trans c6, (hb.cell (p := ⟨p, po1 + k * 12 + 7, none⟩) hp).trans c7, (hb.cell (p := ⟨p, po1 + k * 12 + 8, none⟩) hp).trans c8, (hb.cell (p := ⟨p, po1 + k * 12 + 9, none⟩) hp).trans c9, (hb.cell (p := ⟨p, po1 + k * 12 + 10, none⟩) hp).trans c10, (hb.cell (p := ⟨p, po1 + k * 12 + 11, none⟩) hp).trans c11⟩, (hb.cell (p := ⟨q, qo1 + k * 12, none⟩) hq).trans d0, (hb.cell (p := ⟨q, qo1 + k * 12 + 1, none⟩) hq).trans d1, (hb.cell (p := ⟨q, qo1 + k * 12 + 2, none⟩) hq).trans d2, (hb.cell (p := ⟨q, qo1 + k * 12 + 3, none⟩) hq).trans d3, (hb.cell (p := ⟨q, qo1 + k * 12 + 4, none⟩) hq).trans d4, (hb.cell (p := ⟨q, qo1 + k * 12 + 5, none⟩) hq).trans d5, (hb.cell (p := ⟨q, qo1 + k * 12 + 6, none⟩) hq).trans d6, (hb.cell (p := ⟨q, qo1 + k * 12 + 7, none⟩) hq).trans d7, (hb.cell (p := ⟨q, qo1 + k * 12 + 8, none⟩) hq).trans d8, (hb.cell (p := ⟨q, qo1 + k * 12 + 9, none⟩) hq).trans d9, (hb.cell (p := ⟨q, qo1 + k * 12 + 10, none⟩) hq).trans d10, (hb.cell (p := ⟨q, qo1 + k * 12 + 11, none⟩) hq).trans d11⟩)
        by_cases h0 : x.r.from_ = y.r.from_
        rotate_left
        · have b0 : (x.r.from_ != y.r.from_) = true := by simpa using h0
          have H3 := hid (sameL_less HR.out HS.out (show sameV x.r y.r = false by unfold sameV; rw [decide_eq_false h0]; simp))
          clear h0 HC
          go_wp2
          go_quiet (fail)
          go_wp2
          go_ret
          exact ⟨by rw [H3.out]; rfl, below_then hbr (drewN_below _ _) hlow⟩
        have b0 : (x.r.from_ != y.r.from_) = false := by simpa using h0
        have H0 := hid h0
        clear h0
        by_cases h1 : x.r.to_ = y.r.to_
        rotate_left
        · have b1 : (x.r.to_ != y.r.to_) = true := by simpa using h1
          have H3 := hid (sameL_less HR.out HS.out (show sameV x.r y.r = false by unfold sameV; rw [decide_eq_false h1]; simp))
          clear h1 HC
          go_wp2
          go_quiet (fail)
          go_wp2
          go_ret
          exact ⟨by rw [H3.out]; rfl, below_then hbr (drewN_below _ _) hlow⟩
        have b1 : (x.r.to_ != y.r.to_) = false := by simpa using h1
        have H1 := hid h1
        clear h1
        go_wp2
        go_region_held3 (fun w' => (w'.cell? ⟨p, po1 + k * 12, none⟩ = some (.int .i64 x.r.from_) ∧ w'.cell? ⟨p, po1 + k * 12 + 1, none⟩ = some (.int .i64 x.r.to_) ∧ w'.cell? ⟨p, po1 + k * 12 + 2, none⟩ = some (.int .i64 x.r.kind) ∧ w'.cell? ⟨p, po1 + k * 12 + 3, none⟩ = some (.int .i64 x.r.split) ∧ w'.cell? ⟨p, po1 + k * 12 + 4, none⟩ = some (.int .i64 x.r.attempt) ∧ w'.cell? ⟨p, po1 + k * 12 + 5, none⟩ = some (.int .i64 x.r.part) ∧ w'.cell? ⟨p, po1 + k * 12 + 6, none⟩ = some (.int .i64 x.r.seq) ∧ w'.cell? ⟨p, po1 + k * 12 + 7, none⟩ = some (.int .i64 x.r.next) ∧ w'.cell? ⟨p, po1 + k * 12 + 8, none⟩ = some (.int .i64 x.r.epoch) ∧ w'.cell? ⟨p, po1 + k * 12 + 9, none⟩ = some (.int .i64 x.r.reason) ∧ w'.cell? ⟨p, po1 + k * 12 + 10, none⟩ = some (.slice x.so x.r.set.length x.sc) ∧ w'.cell? ⟨p, po1 + k * 12 + 11, none⟩ = some (.slice x.po x.r.prs.length x.pc)) ∧ w'.cell? ⟨q, qo1 + k * 12, none⟩ = some (.int .i64 y.r.from_) ∧ w'.cell? ⟨q, qo1 + k * 12 + 1, none⟩ = some (.int .i64 y.r.to_) ∧ w'.cell? ⟨q, qo1 + k * 12 + 2, none⟩ = some (.int .i64 y.r.kind) ∧ w'.cell? ⟨q, qo1 + k * 12 + 3, none⟩ = some (.int .i64 y.r.split) ∧ w'.cell? ⟨q, qo1 + k * 12 + 4, none⟩ = some (.int .i64 y.r.attempt) ∧ w'.cell? ⟨q, qo1 + k * 12 + 5, none⟩ = some (.int .i64 y.r.part) ∧ w'.cell? ⟨q, qo1 + k * 12 + 6, none⟩ = some (.int .i64 y.r.seq) ∧ w'.cell? ⟨q, qo1 + k * 12 + 7, none⟩ = some (.int .i64 y.r.next) ∧ w'.cell? ⟨q, qo1 + k * 12 + 8, none⟩ = some (.int .i64 y.r.epoch) ∧ w'.cell? ⟨q, qo1 + k * 12 + 9, none⟩ = some (.int .i64 y.r.reason) ∧ w'.cell? ⟨q, qo1 + k * 12 + 10, none⟩ = some (.slice y.so y.r.set.length y.sc) ∧ w'.cell? ⟨q, qo1 + k * 12 + 11, none⟩ = some (.slice y.po y.r.prs.length y.pc)) (first | exact HC.out _ HB5.out | exact HC.out _ (below_drew1 _) | go_keep)
          (first | (go_at_call 27; refine (sameMsg_dec x.r y.r x.so x.sc x.po x.pc y.so y.sc y.po y.pc _ ?_ ?_).mono ?_; (exact LetIs.below HI.out (below_drew1 _)); (exact LetIs.below HJ.out (below_drew1 _)); rintro e w5 ⟨rfl, hb5⟩; have HB5 := hid (below_then (below_drew1 wr) hb5 (below_drew1 wr).size); clear hb5))
        obtain ⟨g, hg⟩ : ∃ g, sameM x.r y.r = g := ⟨_, rfl⟩
        have HG := hid (show sameV x.r y.r = g by unfold sameV; rw [decide_eq_true H0.out, decide_eq_true H1.out, hg]; rfl)
        rw [hg]
        clear hg c0 c1 c2 c3 c4 c5 c6 c7 c8 c9 c10 c11 d0 d1 d2 d3 d4 d5 d6 d7 d8 d9 d10 d11 HC
        have HB6 := hid (below_then hbr HB5.out hlow)
        cases g
        · have H3 := hid (sameL_less HR.out HS.out HG.out)
          go_wp2
          go_ret
          exact ⟨by rw [H3.out]; rfl, HB6.out⟩
        · have HE := hid (take_same HT.out (by rw [plain_len, plain_len]; exact HL.out) (by rw [plain_len]; exact hlt) (by rw [HR.out, HS.out, sameV_iff.1 HG.out]))
          go_wp2
          go_roundw
          case rel => exact ⟨k + 1, by omega, by go_num, HE.out, HB6.out⟩
          case measure => simp [intOf]; omega
      · obtain rfl : k = xs.length := by omega
        have hd5 : decide ((xs.length : Int) < (xs.length : Int)) = false := by simp
        have H3 := hid (sameL_all (a := plain xs) (b := plain ys) (by rw [plain_len, plain_len]; exact HL.out) (by rw [plain_len]; exact HT.out))
        go_wp2
        go_ret
        exact ⟨by rw [H3.out]; rfl, hbr⟩
  · have e1 : ((xs.length : Int) != (ys.length : Int)) = true := by simp; omega
    have H3 := hid (show sameL (plain xs) (plain ys) = false from sameL_no (fun e => hlen (by rw [← plain_len xs, e, plain_len])))
    clear hlen
    go_enter Try.func13, Try.ntmps13
    go_wp2
    go_ret
    exact ⟨by rw [H3.out]; rfl, Below.refl _ _⟩
end Go.Proofs.Ytocedfagfmkgdaa