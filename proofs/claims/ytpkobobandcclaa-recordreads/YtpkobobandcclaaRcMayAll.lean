/- Which records may be: the program's May. -/
import Derived.Test.YtpkobobandcclaaRcMay
namespace Go.Proofs.Ytpkobobandcclaa
open Go.RowKit
set_option linter.unusedVariables false

set_option maxHeartbeats 4000000 in
theorem recMerged_any (r : RecV) (so : Option Addr) (sc : Nat) (po : Option Addr) (pc : Nat) (w : World) (hr : RecIs w so sc po pc r) (hk : r.kind = 4) :
    Calls Try.prog 29 #[.agg #[.int .i64 r.kind, .int .i64 r.part, .int .i64 r.split, .int .i64 r.attempt, .int .i64 r.reason, .slice so r.set.length sc, .slice po r.prs.length pc]] w fun e w' => e = .returned (.bool (mayR r)) ∧ Below w.heap.size w w' := by
  have HK := hid hk
  have HB := hid (two_below w (.cells #[.int .i64 r.kind, .int .i64 r.part, .int .i64 r.split, .int .i64 r.attempt, .int .i64 r.reason, .slice so r.set.length sc, .slice po r.prs.length pc] 33) (.cells #[.int .i64 r.kind, .int .i64 r.part, .int .i64 r.split, .int .i64 r.attempt, .int .i64 0, .slice none 0 0, .slice po r.prs.length pc] 33))
  have HI := hid (hr.below HB.out)
  have HA := hid ((At.new w #[.int .i64 r.kind, .int .i64 r.part, .int .i64 r.split, .int .i64 r.attempt, .int .i64 r.reason, .slice so r.set.length sc, .slice po r.prs.length pc] 33).below (alloc_one _ (.cells #[.int .i64 r.kind, .int .i64 r.part, .int .i64 r.split, .int .i64 r.attempt, .int .i64 0, .slice none 0 0, .slice po r.prs.length pc] 33)) (by simp))
  have HC := hid (At.new (w.alloc (.cells #[.int .i64 r.kind, .int .i64 r.part, .int .i64 r.split, .int .i64 r.attempt, .int .i64 r.reason, .slice so r.set.length sc, .slice po r.prs.length pc] 33)) #[.int .i64 r.kind, .int .i64 r.part, .int .i64 r.split, .int .i64 r.attempt, .int .i64 0, .slice none 0 0, .slice po r.prs.length pc] 33)
  simp only [World.size_alloc] at HC
  clear hr hk
  go_enter Try.func29, Try.ntmps29
  go_wp2_with fail
  refine (recPart_calls r.part _).mono ?_
  rintro e w0 ⟨rfl, rfl⟩
  obtain ⟨g0, hg0⟩ : ∃ g, inI r.part 0 3 = g := ⟨_, rfl⟩
  have H0 := hid hg0
  rw [hg0]
  clear hg0
  cases g0
  · have HR := hid (show mayR r = false by rw [mayR_merged HK.out, H0.out]; simp)
    go_wp2
    go_ret
    exact ⟨by rw [HR.out]; rfl, HB.out⟩
  go_wp2_with fail
  refine (recSplit_calls r.split _).mono ?_
  rintro e w1 ⟨rfl, rfl⟩
  obtain ⟨g1, hg1⟩ : ∃ g, inI r.split 0 5 = g := ⟨_, rfl⟩
  have H1 := hid hg1
  rw [hg1]
  clear hg1
  cases g1
  · have HR := hid (show mayR r = false by rw [mayR_merged HK.out, H1.out]; simp)
    go_wp2
    go_ret
    exact ⟨by rw [HR.out]; rfl, HB.out⟩
  go_wp2_with fail
  refine (recAttempt_calls r.attempt _).mono ?_
  rintro e w2 ⟨rfl, rfl⟩
  obtain ⟨g2, hg2⟩ : ∃ g, inI r.attempt 1 3 = g := ⟨_, rfl⟩
  have H2 := hid hg2
  rw [hg2]
  clear hg2
  cases g2
  · have HR := hid (show mayR r = false by rw [mayR_merged HK.out, H2.out]; simp)
    go_wp2
    go_ret
    exact ⟨by rw [HR.out]; rfl, HB.out⟩
  go_wp2_with fail
  refine (recPairs_any _ r.prs _ HI.out.prs).mono ?_
  rintro e w3 ⟨rfl, hb3⟩
  have hlt : w.heap.size + 1 < w3.heap.size := by have := hb3.size; simp at this; omega
  replace HA := hid (HA.out.below hb3 (by simp; omega))
  replace HC := hid (HC.out.below hb3 (by simp))
  replace HI := hid (HI.out.below hb3)
  replace HB := hid (below_then HB.out hb3 HB.out.size)
  clear hb3
  have c0 := HA.out 0 _ rfl
  have d0 := HC.out 0 _ rfl
  have c1 := HA.out 1 _ rfl
  have d1 := HC.out 1 _ rfl
  have c2 := HA.out 2 _ rfl
  have d2 := HC.out 2 _ rfl
  have c3 := HA.out 3 _ rfl
  have d3 := HC.out 3 _ rfl
  have c4 := HA.out 4 _ rfl
  have d4 := HC.out 4 _ rfl
  have c5 := HA.out 5 _ rfl
  have d5 := HC.out 5 _ rfl
  have c6 := HA.out 6 _ rfl
  have d6 := HC.out 6 _ rfl
  obtain ⟨g3, hg3⟩ : ∃ g, prsR r.prs = g := ⟨_, rfl⟩
  have H3 := hid hg3
  rw [hg3]
  clear hg3
  cases g3
  · have HR := hid (show mayR r = false by rw [mayR_merged HK.out, H3.out]; simp)
    go_wp2
    go_ret
    exact ⟨by rw [HR.out]; rfl, HB.out⟩
  go_wp2_with fail
  refine (recSame_dec r ⟨r.kind, r.part, r.split, r.attempt, 0, [], r.prs⟩ so sc po pc none 0 po pc _ HI.out ⟨Is.nil _, HI.out.prs⟩).mono ?_
  rintro e w9 ⟨rfl, hb9⟩
  have HR := hid (show mayR r = sameR r ⟨r.kind, r.part, r.split, r.attempt, 0, [], r.prs⟩ by rw [mayR_merged HK.out, H0.out, H1.out, H2.out, H3.out]; rfl)
  replace HB := hid (below_then HB.out hb9 HB.out.size)
  clear hb9 c0 c1 c2 c3 c4 c5 c6 d0 d1 d2 d3 d4 d5 d6
  obtain ⟨g9, hg9⟩ : ∃ g, sameR r ⟨r.kind, r.part, r.split, r.attempt, 0, [], r.prs⟩ = g := ⟨_, rfl⟩
  have H9 := hid hg9
  rw [hg9]
  clear hg9
  go_wp2
  go_ret
  exact ⟨by rw [HR.out, H9.out]; rfl, HB.out⟩
set_option maxHeartbeats 4000000 in
theorem recOver0_any (r : RecV) (so : Option Addr) (sc : Nat) (po : Option Addr) (pc : Nat) (w : World) (hr : RecIs w so sc po pc r) (hk : r.kind = 3) (h0 : r.attempt = 0) :
    Calls Try.prog 28 #[.agg #[.int .i64 r.kind, .int .i64 r.part, .int .i64 r.split, .int .i64 r.attempt, .int .i64 r.reason, .slice so r.set.length sc, .slice po r.prs.length pc]] w fun e w' => e = .returned (.bool (mayR r)) ∧ Below w.heap.size w w' := by
  have HK := hid hk
  have HZ := hid h0
  have HB := hid (two_below w (.cells #[.int .i64 r.kind, .int .i64 r.part, .int .i64 r.split, .int .i64 r.attempt, .int .i64 r.reason, .slice so r.set.length sc, .slice po r.prs.length pc] 33) (.cells #[.int .i64 r.kind, .int .i64 0, .int .i64 r.split, .int .i64 r.attempt, .int .i64 r.reason, .slice none 0 0, .slice none 0 0] 33))
  have HI := hid (hr.below HB.out)
  have b0 : (r.attempt == 0) = true := by rw [h0]; rfl
  have b1 : (r.attempt == 1) = false := by rw [h0]; rfl
  clear hr hk h0
  go_enter Try.func28, Try.ntmps28
  go_wp2_with fail
  refine (recWithin_calls r.reason 1 6 _).mono ?_
  rintro e w0 ⟨rfl, rfl⟩
  obtain ⟨g0, hg0⟩ : ∃ g, inI r.reason 1 6 = g := ⟨_, rfl⟩
  have H0 := hid hg0
  rw [hg0]
  clear hg0
  cases g0
  · have HR := hid (show mayR r = false by rw [mayR_over0 HK.out HZ.out, H0.out]; simp)
    go_wp2
    go_ret
    exact ⟨by rw [HR.out]; rfl, HB.out⟩
  go_wp2_with fail
  refine (recSplit_calls r.split _).mono ?_
  rintro e w1 ⟨rfl, rfl⟩
  obtain ⟨g1, hg1⟩ : ∃ g, inI r.split 0 5 = g := ⟨_, rfl⟩
  have H1 := hid hg1
  rw [hg1]
  clear hg1
  cases g1
  · have HR := hid (show mayR r = false by rw [mayR_over0 HK.out HZ.out, H1.out]; simp)
    go_wp2
    go_ret
    exact ⟨by rw [HR.out]; rfl, HB.out⟩
  go_wp2_with fail
  refine (recPart_calls r.part _).mono ?_
  rintro e w2 ⟨rfl, rfl⟩
  obtain ⟨g2, hg2⟩ : ∃ g, inI r.part 0 3 = g := ⟨_, rfl⟩
  have H2 := hid hg2
  rw [hg2]
  clear hg2
  cases g2
  · have HR := hid (show mayR r = false by rw [mayR_over0 HK.out HZ.out, H2.out]; simp)
    go_wp2
    go_ret
    exact ⟨by rw [HR.out]; rfl, HB.out⟩
  go_wp2_with fail
  refine (recSame_dec r ⟨r.kind, 0, r.split, r.attempt, r.reason, [], []⟩ so sc po pc none 0 none 0 _ HI.out ⟨Is.nil _, Reads.nil _⟩).mono ?_
  rintro e w9 ⟨rfl, hb9⟩
  have HR := hid (show mayR r = sameR r ⟨r.kind, 0, r.split, r.attempt, r.reason, [], []⟩ by rw [mayR_over0 HK.out HZ.out, H0.out, H1.out, H2.out]; rfl)
  replace HB := hid (below_then HB.out hb9 HB.out.size)
  clear hb9
  obtain ⟨g9, hg9⟩ : ∃ g, sameR r ⟨r.kind, 0, r.split, r.attempt, r.reason, [], []⟩ = g := ⟨_, rfl⟩
  have H9 := hid hg9
  rw [hg9]
  clear hg9
  go_wp2
  go_ret
  exact ⟨by rw [HR.out, H9.out]; rfl, HB.out⟩
set_option maxHeartbeats 4000000 in
theorem recOver1_any (r : RecV) (so : Option Addr) (sc : Nat) (po : Option Addr) (pc : Nat) (w : World) (hr : RecIs w so sc po pc r) (hk : r.kind = 3) (h0 : r.attempt = 1) :
    Calls Try.prog 28 #[.agg #[.int .i64 r.kind, .int .i64 r.part, .int .i64 r.split, .int .i64 r.attempt, .int .i64 r.reason, .slice so r.set.length sc, .slice po r.prs.length pc]] w fun e w' => e = .returned (.bool (mayR r)) ∧ Below w.heap.size w w' := by
  have HK := hid hk
  have HZ := hid h0
  have HB := hid (two_below w (.cells #[.int .i64 r.kind, .int .i64 r.part, .int .i64 r.split, .int .i64 r.attempt, .int .i64 r.reason, .slice so r.set.length sc, .slice po r.prs.length pc] 33) (.cells #[.int .i64 r.kind, .int .i64 r.part, .int .i64 0, .int .i64 r.attempt, .int .i64 r.reason, .slice none 0 0, .slice none 0 0] 33))
  have HI := hid (hr.below HB.out)
  have b0 : (r.attempt == 0) = false := by rw [h0]; rfl
  have b1 : (r.attempt == 1) = true := by rw [h0]; rfl
  clear hr hk h0
  go_enter Try.func28, Try.ntmps28
  go_wp2_with fail
  refine (recWithin_calls r.reason 1 6 _).mono ?_
  rintro e w0 ⟨rfl, rfl⟩
  obtain ⟨g0, hg0⟩ : ∃ g, inI r.reason 1 6 = g := ⟨_, rfl⟩
  have H0 := hid hg0
  rw [hg0]
  clear hg0
  cases g0
  · have HR := hid (show mayR r = false by rw [mayR_over1 HK.out HZ.out, H0.out]; simp)
    go_wp2
    go_ret
    exact ⟨by rw [HR.out]; rfl, HB.out⟩
  go_wp2_with fail
  refine (recSplit_calls r.split _).mono ?_
  rintro e w1 ⟨rfl, rfl⟩
  obtain ⟨g1, hg1⟩ : ∃ g, inI r.split 0 5 = g := ⟨_, rfl⟩
  have H1 := hid hg1
  rw [hg1]
  clear hg1
  cases g1
  · have HR := hid (show mayR r = false by rw [mayR_over1 HK.out HZ.out, H1.out]; simp)
    go_wp2
    go_ret
    exact ⟨by rw [HR.out]; rfl, HB.out⟩
  go_wp2_with fail
  refine (recPart_calls r.part _).mono ?_
  rintro e w2 ⟨rfl, rfl⟩
  obtain ⟨g2, hg2⟩ : ∃ g, inI r.part 0 3 = g := ⟨_, rfl⟩
  have H2 := hid hg2
  rw [hg2]
  clear hg2
  cases g2
  · have HR := hid (show mayR r = false by rw [mayR_over1 HK.out HZ.out, H2.out]; simp)
    go_wp2
    go_ret
    exact ⟨by rw [HR.out]; rfl, HB.out⟩
  go_wp2_with fail
  refine (recSame_dec r ⟨r.kind, r.part, 0, r.attempt, r.reason, [], []⟩ so sc po pc none 0 none 0 _ HI.out ⟨Is.nil _, Reads.nil _⟩).mono ?_
  rintro e w9 ⟨rfl, hb9⟩
  have HR := hid (show mayR r = sameR r ⟨r.kind, r.part, 0, r.attempt, r.reason, [], []⟩ by rw [mayR_over1 HK.out HZ.out, H0.out, H1.out, H2.out]; rfl)
  replace HB := hid (below_then HB.out hb9 HB.out.size)
  clear hb9
  obtain ⟨g9, hg9⟩ : ∃ g, sameR r ⟨r.kind, r.part, 0, r.attempt, r.reason, [], []⟩ = g := ⟨_, rfl⟩
  have H9 := hid hg9
  rw [hg9]
  clear hg9
  go_wp2
  go_ret
  exact ⟨by rw [HR.out, H9.out]; rfl, HB.out⟩
set_option maxHeartbeats 4000000 in
theorem recOver_any (r : RecV) (so : Option Addr) (sc : Nat) (po : Option Addr) (pc : Nat) (w : World) (hr : RecIs w so sc po pc r) (hk : r.kind = 3) :
    Calls Try.prog 28 #[.agg #[.int .i64 r.kind, .int .i64 r.part, .int .i64 r.split, .int .i64 r.attempt, .int .i64 r.reason, .slice so r.set.length sc, .slice po r.prs.length pc]] w fun e w' => e = .returned (.bool (mayR r)) ∧ Below w.heap.size w w' := by
  by_cases h0 : r.attempt = 0
  · exact recOver0_any r so sc po pc w hr hk h0
  by_cases h1 : r.attempt = 1
  · exact recOver1_any r so sc po pc w hr hk h1
  have HR := hid (mayR_over2 hk h0 h1)
  have HB := hid (two_below w (.cells #[.int .i64 r.kind, .int .i64 r.part, .int .i64 r.split, .int .i64 r.attempt, .int .i64 r.reason, .slice so r.set.length sc, .slice po r.prs.length pc] 33) (.cells #[.int .i64 r.kind, .int .i64 0, .int .i64 0, .int .i64 r.attempt, .int .i64 r.reason, .slice none 0 0, .slice none 0 0] 33))
  have b0 : (r.attempt == 0) = false := by simpa using h0
  have b1 : (r.attempt == 1) = false := by simpa using h1
  clear hr hk h0 h1
  go_enter Try.func28, Try.ntmps28
  go_wp2
  go_ret
  exact ⟨by rw [HR.out]; rfl, HB.out⟩
set_option maxHeartbeats 4000000 in
theorem recMay_any (r : RecV) (so : Option Addr) (sc : Nat) (po : Option Addr) (pc : Nat) (w : World) (hr : RecIs w so sc po pc r) :
    Calls Try.prog 12 #[.agg #[.int .i64 r.kind, .int .i64 r.part, .int .i64 r.split, .int .i64 r.attempt, .int .i64 r.reason, .slice so r.set.length sc, .slice po r.prs.length pc]] w fun e w' => e = .returned (.bool (mayR r)) ∧ Below w.heap.size w w' := by
  have HB := hid (alloc_one w (.cells #[.int .i64 r.kind, .int .i64 r.part, .int .i64 r.split, .int .i64 r.attempt, .int .i64 r.reason, .slice so r.set.length sc, .slice po r.prs.length pc] 33))
  have HI := hid (hr.below HB.out)
  clear hr
  by_cases h1 : r.kind = 1
  · have HK := hid h1
    have b1 : (r.kind == 1) = true := by rw [h1]; rfl
    have b3 : (r.kind == 3) = false := by rw [h1]; rfl
    have b4 : (r.kind == 4) = false := by rw [h1]; rfl
    have b5 : (r.kind == 5) = false := by rw [h1]; rfl
    have b2 : (r.kind == 2) = false := by rw [h1]; rfl
    have b6 : (r.kind == 6) = false := by rw [h1]; rfl
    clear h1 
    go_enter Try.func12, Try.ntmps12
    go_wp2_with fail
    refine (recWon_any r so sc po pc _ HI.out HK.out).mono ?_
    rintro e w1 ⟨rfl, hb1⟩
    replace HB := hid (below_then HB.out hb1 HB.out.size)
    clear hb1
    obtain ⟨g9, hg9⟩ : ∃ g, mayR r = g := ⟨_, rfl⟩
    have H9 := hid hg9
    rw [hg9]
    clear hg9
    go_wp2
    go_ret
    exact ⟨by rw [H9.out]; rfl, HB.out⟩
  by_cases h3 : r.kind = 3
  · have HK := hid h3
    have b1 : (r.kind == 1) = false := by rw [h3]; rfl
    have b3 : (r.kind == 3) = true := by rw [h3]; rfl
    have b4 : (r.kind == 4) = false := by rw [h3]; rfl
    have b5 : (r.kind == 5) = false := by rw [h3]; rfl
    have b2 : (r.kind == 2) = false := by rw [h3]; rfl
    have b6 : (r.kind == 6) = false := by rw [h3]; rfl
    clear h3 h1
    go_enter Try.func12, Try.ntmps12
    go_wp2_with fail
    refine (recOver_any r so sc po pc _ HI.out HK.out).mono ?_
    rintro e w1 ⟨rfl, hb1⟩
    replace HB := hid (below_then HB.out hb1 HB.out.size)
    clear hb1
    obtain ⟨g9, hg9⟩ : ∃ g, mayR r = g := ⟨_, rfl⟩
    have H9 := hid hg9
    rw [hg9]
    clear hg9
    go_wp2
    go_ret
    exact ⟨by rw [H9.out]; rfl, HB.out⟩
  by_cases h4 : r.kind = 4
  · have HK := hid h4
    have b1 : (r.kind == 1) = false := by rw [h4]; rfl
    have b3 : (r.kind == 3) = false := by rw [h4]; rfl
    have b4 : (r.kind == 4) = true := by rw [h4]; rfl
    have b5 : (r.kind == 5) = false := by rw [h4]; rfl
    have b2 : (r.kind == 2) = false := by rw [h4]; rfl
    have b6 : (r.kind == 6) = false := by rw [h4]; rfl
    clear h4 h1 h3
    go_enter Try.func12, Try.ntmps12
    go_wp2_with fail
    refine (recMerged_any r so sc po pc _ HI.out HK.out).mono ?_
    rintro e w1 ⟨rfl, hb1⟩
    replace HB := hid (below_then HB.out hb1 HB.out.size)
    clear hb1
    obtain ⟨g9, hg9⟩ : ∃ g, mayR r = g := ⟨_, rfl⟩
    have H9 := hid hg9
    rw [hg9]
    clear hg9
    go_wp2
    go_ret
    exact ⟨by rw [H9.out]; rfl, HB.out⟩
  by_cases h5 : r.kind = 5
  · have HK := hid h5
    have b1 : (r.kind == 1) = false := by rw [h5]; rfl
    have b3 : (r.kind == 3) = false := by rw [h5]; rfl
    have b4 : (r.kind == 4) = false := by rw [h5]; rfl
    have b5 : (r.kind == 5) = true := by rw [h5]; rfl
    have b2 : (r.kind == 2) = false := by rw [h5]; rfl
    have b6 : (r.kind == 6) = false := by rw [h5]; rfl
    clear h5 h1 h3 h4
    go_enter Try.func12, Try.ntmps12
    go_wp2_with fail
    refine (recSnap_any r so sc po pc _ HI.out HK.out).mono ?_
    rintro e w1 ⟨rfl, hb1⟩
    replace HB := hid (below_then HB.out hb1 HB.out.size)
    clear hb1
    obtain ⟨g9, hg9⟩ : ∃ g, mayR r = g := ⟨_, rfl⟩
    have H9 := hid hg9
    rw [hg9]
    clear hg9
    go_wp2
    go_ret
    exact ⟨by rw [H9.out]; rfl, HB.out⟩
  by_cases h2 : r.kind = 2
  · have HK := hid h2
    have b1 : (r.kind == 1) = false := by rw [h2]; rfl
    have b3 : (r.kind == 3) = false := by rw [h2]; rfl
    have b4 : (r.kind == 4) = false := by rw [h2]; rfl
    have b5 : (r.kind == 5) = false := by rw [h2]; rfl
    have b2 : (r.kind == 2) = true := by rw [h2]; rfl
    have b6 : (r.kind == 6) = false := by rw [h2]; rfl
    clear h2 h1 h3 h4 h5
    have HR := hid (mayR_none (show r.kind = 2 ∨ r.kind = 6 from .inl HK.out))
    go_enter Try.func12, Try.ntmps12
    go_wp2_with fail
    refine (recSame_dec r ⟨r.kind, 0, 0, 0, 0, [], []⟩ so sc po pc none 0 none 0 _ HI.out ⟨Is.nil _, Reads.nil _⟩).mono ?_
    rintro e w1 ⟨rfl, hb1⟩
    rw [← HR.out]
    replace HB := hid (below_then HB.out hb1 HB.out.size)
    clear hb1
    obtain ⟨g9, hg9⟩ : ∃ g, mayR r = g := ⟨_, rfl⟩
    have H9 := hid hg9
    rw [hg9]
    clear hg9
    go_wp2
    go_ret
    exact ⟨by rw [H9.out]; rfl, HB.out⟩
  by_cases h6 : r.kind = 6
  · have HK := hid h6
    have b1 : (r.kind == 1) = false := by rw [h6]; rfl
    have b3 : (r.kind == 3) = false := by rw [h6]; rfl
    have b4 : (r.kind == 4) = false := by rw [h6]; rfl
    have b5 : (r.kind == 5) = false := by rw [h6]; rfl
    have b2 : (r.kind == 2) = false := by rw [h6]; rfl
    have b6 : (r.kind == 6) = true := by rw [h6]; rfl
    clear h6 h1 h3 h4 h5 h2
    have HR := hid (mayR_none (show r.kind = 2 ∨ r.kind = 6 from .inr HK.out))
    go_enter Try.func12, Try.ntmps12
    go_wp2_with fail
    refine (recSame_dec r ⟨r.kind, 0, 0, 0, 0, [], []⟩ so sc po pc none 0 none 0 _ HI.out ⟨Is.nil _, Reads.nil _⟩).mono ?_
    rintro e w1 ⟨rfl, hb1⟩
    rw [← HR.out]
    replace HB := hid (below_then HB.out hb1 HB.out.size)
    clear hb1
    obtain ⟨g9, hg9⟩ : ∃ g, mayR r = g := ⟨_, rfl⟩
    have H9 := hid hg9
    rw [hg9]
    clear hg9
    go_wp2
    go_ret
    exact ⟨by rw [H9.out]; rfl, HB.out⟩
  have HR := hid (mayR_other (r := r) (by omega))
  have b1 : (r.kind == 1) = false := by simpa using h1
  have b3 : (r.kind == 3) = false := by simpa using h3
  have b4 : (r.kind == 4) = false := by simpa using h4
  have b5 : (r.kind == 5) = false := by simpa using h5
  have b2 : (r.kind == 2) = false := by simpa using h2
  have b6 : (r.kind == 6) = false := by simpa using h6
  clear h1 h2 h3 h4 h5 h6
  go_enter Try.func12, Try.ntmps12
  go_wp2
  go_ret
  exact ⟨by rw [HR.out]; rfl, HB.out⟩
end Go.Proofs.Ytpkobobandcclaa
