/- Which jobs and configurations may be: the program's answers. -/
import Derived.Test.YtjmlanmdlpooaaaJMath
import Derived.Test.YtjmlanmdlpooaaaPBad
import Derived.Test.YtjmlanmdlpooaaaSLook
import Derived.Test.YtjmlanmdlpooaaaLis
import Derived.Test.YtjmlanmdlpooaaaIntsP
namespace Go.Proofs.Ytjmlanmdlpooaaa
open Go.RowKit
set_option linter.unusedVariables false

/-! ### Bounds -/
theorem within_calls (n lo hi : Int) (w : World) : Calls Try.prog 21 #[.int .i64 n, .int .i64 lo, .int .i64 hi] w fun e w' => e = .returned (.bool (inI n lo hi)) ∧ w = w' := by
  by_cases h : lo ≤ n
  · have hd : decide (lo ≤ n) = true := by simpa using h
    have HR := hid (show inI n lo hi = decide (n ≤ hi) by simp [inI, hd])
    go_enter Try.func21, Try.ntmps21
    go_wp2
    go_ret
    exact ⟨by rw [HR.out]; rfl, rfl⟩
  · have hd : decide (lo ≤ n) = false := by simpa using h
    have HR := hid (show inI n lo hi = false by simp [inI, hd])
    go_enter Try.func21, Try.ntmps21
    go_wp2
    go_ret
    exact ⟨by rw [HR.out]; rfl, rfl⟩

/-! ### Splits -/
theorem splitJ_eq (l : List KV) : splitJ l = (decide (l.length ≤ 8) && mayP l) := rfl
theorem inI_len (l : List KV) : inI (l.length : Int) 0 8 = decide (l.length ≤ 8) := by
  simp only [inI]
  have : decide ((0 : Int) ≤ (l.length : Int)) = true := by simp
  rw [this, Bool.true_and]
  exact decide_eq_decide.2 (by omega)
set_option maxHeartbeats 1000000 in
theorem maySplits_any (v : Value) (ls : List (List KV)) (w : World) (hv : Lis w v ls) :
    Calls Try.prog 20 #[v] w fun e w' => e = .returned (.bool (inI ls.length 1 6 && ls.all splitJ)) ∧ Below w.heap.size w w' := by
  have HV := hid hv
  obtain ⟨ao, ca, rfl, a1, a2, -⟩ := hv.slice
  unfold maxLen at a2
  clear hv
  go_enter Try.func20, Try.ntmps20
  go_wp2_with fail
  refine (within_calls _ _ _ _).mono ?_
  rintro e w1 ⟨rfl, rfl⟩
  obtain ⟨g, hg⟩ : ∃ g, inI ls.length 1 6 = g := ⟨_, rfl⟩
  have HG := hid hg
  rw [hg]
  clear hg
  cases g
  · go_wp2
    go_ret
    exact ⟨by rw [HG.out]; rfl, Below.refl _ _⟩
  · go_wp2
    go_loopw [11] (fun i wr => ∃ k : Nat, k ≤ ls.length ∧ (ls.take k).all splitJ = true ∧ i = .int .i64 k ∧ Below w.heap.size w wr) (fun i _ => ls.length - (intOf i).toNat)
    case atStart => exact ⟨0, by omega, rfl, rfl, Below.refl _ _⟩
    case round =>
      obtain ⟨k, hk, hm, rfl, hbr⟩ := hrel
      have HM := hid hm
      clear hm
      by_cases hlt : k < ls.length
      · obtain ⟨b, off, l, xo, xc, hl, rfl, hb, c1, hp⟩ := (HV.out.below hbr).cell hlt
        have HL := hid hl
        have HP := hid hp
        clear hl hp
        have hd4 : decide ((k : Int) < (ls.length : Int)) = true := by simp; omega
        go_wp2_with fail
        refine (within_calls _ _ _ _).mono ?_
        rintro e w1 ⟨rfl, rfl⟩
        rw [inI_len]
        obtain ⟨g1, hg1⟩ : ∃ g, decide (l.length ≤ 8) = g := ⟨_, rfl⟩
        have HG1 := hid hg1
        rw [hg1]
        clear hg1
        cases g1
        · have HN := hid (splits_not HL.out (by rw [splitJ_eq, HG1.out]; rfl))
          go_wp2
          go_ret
          exact ⟨by rw [HN.out]; simp, hbr⟩
        · go_wp2_with fail
          refine (pairMay_any _ l _ HP.out).mono ?_
          rintro e w2 ⟨rfl, hb2⟩
          have HB2 := hid (below_then hbr hb2 hbr.size)
          clear hb2 c1
          obtain ⟨g2, hg2⟩ : ∃ g, mayP l = g := ⟨_, rfl⟩
          have HG2 := hid hg2
          rw [hg2]
          clear hg2
          cases g2
          · have HN := hid (splits_not HL.out (by rw [splitJ_eq, HG1.out, HG2.out]; rfl))
            go_wp2
            go_ret
            exact ⟨by rw [HN.out]; simp, HB2.out⟩
          · have HS := hid (splits_step HM.out HL.out (by rw [splitJ_eq, HG1.out, HG2.out]; rfl))
            go_wp2
            go_roundw
            case rel => exact ⟨k + 1, by omega, HS.out, by go_num, HB2.out⟩
            case measure => simp [intOf]; omega
      · obtain rfl : k = ls.length := by omega
        have hd4 : decide ((ls.length : Int) < (ls.length : Int)) = false := by simp
        have HR := hid (show ls.all splitJ = true by have := HM.out; rw [List.take_length] at this; exact this)
        go_wp2
        go_ret
        exact ⟨by rw [HR.out, HG.out]; rfl, hbr⟩

/-! ### Programs -/
theorem mayDo_any (v : Value) (l : List Inst) (w : World) (hv : Co w v l) :
    Calls Try.prog 22 #[v] w fun e w' => e = .returned (.bool (decide (l ≠ []) && decide (bad l < 0))) ∧ Below w.heap.size w w' := by
  have HV := hid hv
  obtain ⟨ao, ca, rfl, a1, a2, -, -⟩ := hv
  unfold maxLen at a2
  by_cases hl : l = []
  · subst hl
    go_enter Try.func22, Try.ntmps22
    go_wp2
    go_ret
    exact ⟨by simp, Below.refl _ _⟩
  · have HL := hid hl
    have hpos : 0 < l.length := by
      rcases Nat.eq_zero_or_pos l.length with e | e
      · exact absurd (List.eq_nil_of_length_eq_zero e) hl
      · exact e
    obtain ⟨n, hn⟩ : ∃ n, l.length = n := ⟨_, rfl⟩
    rw [hn] at a1 hpos HV ⊢
    have hd : decide ((0 : Int) < (n : Int)) = true := by simp; omega
    clear hn hl
    go_enter Try.func22, Try.ntmps22
    go_wp2_with fail
    refine (may_any _ l w HV.out).mono ?_
    rintro e w2 ⟨rfl, hb2⟩
    have HB2 := hid hb2
    clear hb2
    obtain ⟨g, hg⟩ : ∃ g, decide (bad l < 0) = g := ⟨_, rfl⟩
    have HG := hid hg
    rw [hg]
    clear hg
    go_wp2
    go_ret
    exact ⟨by rw [HG.out]; simp [HL.out], HB2.out⟩

/-! ### Marks -/
/-- The least that the k-th mark may be. -/
def Least (ms : List Int) (k : Nat) (L : Int) : Prop := 1 ≤ L ∧ (k = 0 → L = 1) ∧ ∀ y, 0 < k → ms[k - 1]? = some y → L = y + 1
theorem Least.zero (ms : List Int) : Least ms 0 1 := ⟨by omega, fun _ => rfl, fun y h => by omega⟩
theorem marks_step {n : Int} {ms : List Int} {k : Nat} {x L : Int} (h : MarksTo n ms k) (hL : Least ms k L) (hk : k < ms.length) (hx : ms[k]? = some x) (h1 : inI x L n = true) : MarksTo n ms (k + 1) ∧ Least ms (k + 1) (x + 1) := by
  obtain ⟨h2, h3⟩ := inI_iff.1 h1
  obtain ⟨l1, l2, l3⟩ := hL
  refine ⟨h.step hx (inI_iff.2 ⟨by omega, h3⟩) fun y h0 hy => ?_, by omega, (fun e => by omega), fun y h0 hy => ?_⟩
  · have := l3 y h0 hy
    omega
  · rw [Nat.add_sub_cancel, hx] at hy
    cases hy
    rfl
theorem marks_no {n : Int} {ms : List Int} {k : Nat} {x L : Int} (hL : Least ms k L) (hk : k < ms.length) (hx : ms[k]? = some x) (h1 : inI x L n = false) : marksJ n ms = false := by
  obtain ⟨l1, l2, l3⟩ := hL
  refine marksJ_not hx ?_
  by_cases hb : x ≤ n
  · have hlt : x < L := by
      rcases Int.lt_or_le x L with h | h
      · exact h
      · rw [inI_iff.2 ⟨h, hb⟩] at h1
        cases h1
    rcases Nat.eq_zero_or_pos k with h0 | h0
    · left
      have := l2 h0
      cases e : inI x 1 n with
      | false => rfl
      | true => have := (inI_iff.1 e).1; omega
    · right
      have hy : ms[k - 1]? = some (ms[k - 1]'(by omega)) := List.getElem?_eq_getElem (by omega)
      refine ⟨_, h0, hy, ?_⟩
      have := l3 _ h0 hy
      omega
  · left
    cases e : inI x 1 n with
    | false => rfl
    | true => exact absurd (inI_iff.1 e).2 hb
theorem Is.cell {w : World} {ao : Option Addr} {m cap : Nat} {l : List Int} (h : Is w (.slice ao m cap) l) {j : Nat} (hj : j < l.length) : ∃ b off x, l[j]? = some x ∧ ao = some ⟨b, off, none⟩ ∧ b < w.heap.size ∧ w.cell? ⟨b, off + j, none⟩ = some (.int .i64 x) := by
  obtain ⟨ao', cap', e, _, _, _, h4⟩ := h
  simp only [Value.slice.injEq] at e
  obtain ⟨rfl, -, rfl⟩ := e
  obtain ⟨b, off, rfl, hb, hc⟩ := h4 (by intro e; rw [e] at hj; simp at hj)
  refine ⟨b, off, l[j], List.getElem?_eq_getElem hj, rfl, hb, ?_⟩
  have := hc j hj
  simpa [List.getD, List.getElem?_eq_getElem hj] using this
def marksOk (n : Int) (ms : List Int) : Bool := decide (ms.length ≤ 4) && marksJ n ms
theorem inI_marks (ms : List Int) : inI (ms.length : Int) 0 4 = decide (ms.length ≤ 4) := by
  simp only [inI]
  have : decide ((0 : Int) ≤ (ms.length : Int)) = true := by simp
  rw [this, Bool.true_and]
  exact decide_eq_decide.2 (by omega)
set_option maxHeartbeats 1000000 in
theorem mayMarks_any (v : Value) (ms : List Int) (n : Int) (w : World) (hv : Is w v ms) (hn : n ≤ 1000) :
    Calls Try.prog 24 #[v, .int .i64 n] w fun e w' => e = .returned (.bool (marksOk n ms)) ∧ w = w' := by
  have HV := hid hv
  have HN := hid hn
  obtain ⟨ao, ca, rfl, a1, a2, -, -⟩ := hv
  unfold maxLen at a2
  clear hn
  go_enter Try.func24, Try.ntmps24
  go_wp2_with fail
  refine (within_calls _ _ _ _).mono ?_
  rintro e w1 ⟨rfl, rfl⟩
  rw [inI_marks]
  obtain ⟨g, hg⟩ : ∃ g, decide (ms.length ≤ 4) = g := ⟨_, rfl⟩
  have HG := hid hg
  rw [hg]
  clear hg
  cases g
  · have HR := hid (show marksOk n ms = false by unfold marksOk; rw [HG.out]; rfl)
    go_wp2
    go_ret
    exact ⟨by rw [HR.out]; rfl, rfl⟩
  · go_wp2
    go_loop [5, 14] (fun a i => ∃ (k : Nat) (L : Int), k ≤ ms.length ∧ MarksTo n ms k ∧ Least ms k L ∧ a = .int .i64 L ∧ i = .int .i64 k) (fun _ i => ms.length - (intOf i).toNat)
    case atStart => exact ⟨0, 1, by omega, MarksTo.zero n ms, Least.zero ms, rfl, rfl⟩
    case round =>
      obtain ⟨k, L, hk, hm, hl, rfl, rfl⟩ := hrel
      have HM := hid hm
      have HL := hid hl
      clear hm hl
      by_cases hlt : k < ms.length
      · obtain ⟨b, off, x, hx, rfl, hb, c1⟩ := HV.out.cell hlt
        have HX := hid hx
        clear hx
        have hd4 : decide ((k : Int) < (ms.length : Int)) = true := by simp; omega
        go_wp2_with fail
        refine (within_calls x L n _).mono ?_
        rintro e w1 ⟨rfl, rfl⟩
        obtain ⟨g1, hg1⟩ : ∃ g, inI x L n = g := ⟨_, rfl⟩
        have HG1 := hid hg1
        rw [hg1]
        clear hg1
        cases g1
        · have HR := hid (show marksOk n ms = false by unfold marksOk; rw [marks_no HL.out hlt HX.out HG1.out]; simp)
          go_wp2
          go_ret
          exact ⟨by rw [HR.out]; rfl, rfl⟩
        · have HS := hid (marks_step HM.out HL.out hlt HX.out HG1.out)
          have hx0 : 0 ≤ x := by
            have h1 := (inI_iff.1 HG1.out).1
            have h2 := HL.out.1
            omega
          have hx1 : x ≤ 1000 := by
            have h1 := (inI_iff.1 HG1.out).2
            have h2 := HN.out
            omega
          go_wp2
          go_round
          case rel => exact ⟨k + 1, x + 1, by omega, HS.out.1, HS.out.2, by go_num, by go_num⟩
          case measure => simp [intOf]; omega
      · obtain rfl : k = ms.length := by omega
        have hd4 : decide ((ms.length : Int) < (ms.length : Int)) = false := by simp
        have HR := hid (show marksOk n ms = true by unfold marksOk; rw [HG.out, (marksJ_iff n ms).2 HM.out]; rfl)
        go_wp2
        go_ret
        exact ⟨by rw [HR.out]; rfl, rfl⟩
end Go.Proofs.Ytjmlanmdlpooaaa
