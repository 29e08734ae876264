/- Which records may be: the program's answers. -/
import Derived.Test.YtpkobobandcclaaRcSame
import Derived.Test.YtpkobobandcclaaSLook
namespace Go.Proofs.Ytpkobobandcclaa
open Go.RowKit
set_option linter.unusedVariables false

/-! ### Bounds -/
theorem recWithin_calls (n lo hi : Int) (w : World) : Calls Try.prog 47 #[.int .i64 n, .int .i64 lo, .int .i64 hi] w fun e w' => e = .returned (.bool (inI n lo hi)) ∧ w = w' := by
  by_cases h : lo ≤ n
  · have hd : decide (lo ≤ n) = true := by simpa using h
    have HR := hid (show inI n lo hi = decide (n ≤ hi) by simp [inI, hd])
    go_enter Try.func47, Try.ntmps47
    go_wp2
    go_ret
    exact ⟨by rw [HR.out]; rfl, rfl⟩
  · have hd : decide (lo ≤ n) = false := by simpa using h
    have HR := hid (show inI n lo hi = false by simp [inI, hd])
    go_enter Try.func47, Try.ntmps47
    go_wp2
    go_ret
    exact ⟨by rw [HR.out]; rfl, rfl⟩
theorem recSplit_calls (n : Int) (w : World) : Calls Try.prog 44 #[.int .i64 n] w fun e w' => e = .returned (.bool (inI n 0 5)) ∧ w = w' := by
  go_enter Try.func44, Try.ntmps44
  go_wp2_with fail
  refine (recWithin_calls _ _ _ _).mono ?_
  rintro e w1 ⟨rfl, rfl⟩
  go_wp2
  go_ret
  exact ⟨rfl, rfl⟩
theorem recPart_calls (n : Int) (w : World) : Calls Try.prog 48 #[.int .i64 n] w fun e w' => e = .returned (.bool (inI n 0 3)) ∧ w = w' := by
  go_enter Try.func48, Try.ntmps48
  go_wp2_with fail
  refine (recWithin_calls _ _ _ _).mono ?_
  rintro e w1 ⟨rfl, rfl⟩
  go_wp2
  go_ret
  exact ⟨rfl, rfl⟩
theorem recAttempt_calls (n : Int) (w : World) : Calls Try.prog 45 #[.int .i64 n] w fun e w' => e = .returned (.bool (inI n 1 3)) ∧ w = w' := by
  go_enter Try.func45, Try.ntmps45
  go_wp2_with fail
  refine (recWithin_calls _ _ _ _).mono ?_
  rintro e w1 ⟨rfl, rfl⟩
  go_wp2
  go_ret
  exact ⟨rfl, rfl⟩

/-! ### Sets -/
theorem all_step {p : Int → Bool} {l : List Int} {k : Nat} {x : Int} (h : (l.take k).all p = true) (hx : l[k]? = some x) (h1 : p x = true) : (l.take (k + 1)).all p = true := by
  rw [List.take_add_one, hx, List.all_append, h]
  simp [h1]
theorem all_not {p : Int → Bool} {l : List Int} {k : Nat} {x : Int} (hx : l[k]? = some x) (h1 : p x = false) : l.all p = false := by
  rw [List.all_eq_false]
  exact ⟨x, List.mem_of_getElem? hx, by simp [h1]⟩
set_option maxHeartbeats 1000000 in
theorem recCounts_any (v : Value) (l : List Int) (w : World) (hv : Is w v l) :
    Calls Try.prog 46 #[v] w fun e w' => e = .returned (.bool (setW l)) ∧ w = w' := by
  have HV := hid hv
  obtain ⟨ao, ca, rfl, a1, a2, -, -⟩ := hv
  unfold maxLen at a2
  by_cases hbig : 4 < l.length
  · have hd : decide ((4 : Int) < (l.length : Int)) = true := by simp; omega
    have HR := hid (show setW l = false by unfold setW; rw [decide_eq_false (by omega)]; rfl)
    clear hbig
    go_enter Try.func46, Try.ntmps46
    go_wp2
    go_ret
    exact ⟨by rw [HR.out]; rfl, rfl⟩
  · have hd : decide ((4 : Int) < (l.length : Int)) = false := by simp; omega
    have HE := hid (show setW l = l.all (fun x => inI x 0 40) by unfold setW; rw [decide_eq_true (by omega)]; rfl)
    clear hbig
    go_enter Try.func46, Try.ntmps46
    go_wp2
    go_loop [10] (fun i => ∃ k : Nat, k ≤ l.length ∧ (l.take k).all (fun x => inI x 0 40) = true ∧ i = .int .i64 k) (fun i => l.length - (intOf i).toNat)
    case atStart => exact ⟨0, by omega, rfl, rfl⟩
    case round =>
      obtain ⟨k, hk, hm, rfl⟩ := hrel
      have HM := hid hm
      clear hm
      by_cases hlt : k < l.length
      · obtain ⟨b, off, x, hx, rfl, hb, c1⟩ := HV.out.cell hlt
        have HX := hid hx
        clear hx
        have hd4 : decide ((k : Int) < (l.length : Int)) = true := by simp; omega
        go_wp2_with fail
        refine (recWithin_calls x 0 40 _).mono ?_
        rintro e w1 ⟨rfl, rfl⟩
        obtain ⟨g1, hg1⟩ : ∃ g, inI x 0 40 = g := ⟨_, rfl⟩
        have HG1 := hid hg1
        rw [hg1]
        clear hg1
        cases g1
        · have HR := hid (show setW l = false by rw [HE.out]; exact all_not HX.out HG1.out)
          go_wp2
          go_ret
          exact ⟨by rw [HR.out]; rfl, rfl⟩
        · have HS := hid (all_step HM.out HX.out HG1.out)
          go_wp2
          go_round
          case rel => exact ⟨k + 1, by omega, HS.out, by go_num⟩
          case measure => simp [intOf]; omega
      · obtain rfl : k = l.length := by omega
        have hd4 : decide ((l.length : Int) < (l.length : Int)) = false := by simp
        have HR := hid (show setW l = true by rw [HE.out]; have := HM.out; rw [List.take_length] at this; exact this)
        go_wp2
        go_ret
        exact ⟨by rw [HR.out]; rfl, rfl⟩

/-- Rising from L on, to 5. -/
def upS : Int → List Int → Bool
  | _, [] => true
  | L, x :: l => inI x L 5 && upS (x + 1) l
def hdS (L : Int) : List Int → Bool
  | [] => true
  | x :: _ => decide (L ≤ x)
theorem rises_hd (x : Int) : ∀ l : List Int, risesI (x :: l) = (hdS (x + 1) l && risesI l)
  | [] => rfl
  | y :: l => by
    show (decide (x < y) && risesI (y :: l)) = (decide (x + 1 ≤ y) && risesI (y :: l))
    rw [show decide (x < y) = decide (x + 1 ≤ y) from decide_eq_decide.2 (by omega)]
theorem upS_eq : ∀ (l : List Int) (L : Int), 0 ≤ L → upS L l = (l.all (fun x => inI x 0 5) && risesI l && hdS L l)
  | [], _, _ => rfl
  | x :: l, L, h => by
    unfold upS
    rw [rises_hd, List.all_cons]
    by_cases hx : L ≤ x
    · rw [upS_eq l (x + 1) (by omega)]
      have e1 : inI x L 5 = inI x 0 5 := by
        rw [Bool.eq_iff_iff, inI_iff, inI_iff]; omega
      have e2 : hdS L (x :: l) = true := by simpa [hdS] using hx
      rw [e1, e2]
      cases inI x 0 5 <;> cases l.all (fun x => inI x 0 5) <;> cases risesI l <;> cases hdS (x + 1) l <;> rfl
    · have e1 : inI x L 5 = false := by
        cases e : inI x L 5 with
        | false => rfl
        | true => exact absurd (inI_iff.1 e).1 hx
      have e2 : hdS L (x :: l) = false := by simpa [hdS] using hx
      rw [e1, e2]
      simp
theorem upS_set (l : List Int) : upS 0 l = setS l := by
  rw [upS_eq l 0 (by omega)]
  unfold setS
  cases h : l.all (fun x => inI x 0 5) with
  | false => rfl
  | true =>
    have : hdS 0 l = true := by
      cases l with
      | nil => rfl
      | cons x l =>
        rw [List.all_cons, Bool.and_eq_true, inI_iff] at h
        simpa [hdS] using h.1.1
    rw [this]
    simp
theorem upS_at {l : List Int} {k : Nat} {x L : Int} (hx : l[k]? = some x) : upS L (l.drop k) = (inI x L 5 && upS (x + 1) (l.drop (k + 1))) := by
  obtain ⟨hk, rfl⟩ := List.getElem?_eq_some_iff.1 hx
  rw [List.drop_eq_getElem_cons hk]
  rfl
set_option maxHeartbeats 1000000 in
theorem recSplits_any (v : Value) (l : List Int) (w : World) (hv : Is w v l) :
    Calls Try.prog 50 #[v] w fun e w' => e = .returned (.bool (setS l)) ∧ w = w' := by
  have HV := hid hv
  obtain ⟨ao, ca, rfl, a1, a2, -, -⟩ := hv
  unfold maxLen at a2
  go_enter Try.func50, Try.ntmps50
  go_wp2
  go_loop [3, 8] (fun a i => ∃ (k : Nat) (L : Int), k ≤ l.length ∧ 0 ≤ L ∧ upS L (l.drop k) = setS l ∧ a = .int .i64 L ∧ i = .int .i64 k) (fun _ i => l.length - (intOf i).toNat)
  case atStart => exact ⟨0, 0, by omega, by omega, upS_set l, rfl, rfl⟩
  case round =>
    obtain ⟨k, L, hk, hL, hm, rfl, rfl⟩ := hrel
    have HM := hid hm
    clear hm
    by_cases hlt : k < l.length
    · obtain ⟨b, off, x, hx, rfl, hb, c1⟩ := HV.out.cell hlt
      have HX := hid hx
      clear hx
      have hd4 : decide ((k : Int) < (l.length : Int)) = true := by simp; omega
      go_wp2_with fail
      refine (recWithin_calls x L 5 _).mono ?_
      rintro e w1 ⟨rfl, rfl⟩
      obtain ⟨g1, hg1⟩ : ∃ g, inI x L 5 = g := ⟨_, rfl⟩
      have HG1 := hid hg1
      rw [hg1]
      clear hg1
      cases g1
      · have HR := hid (show setS l = false by rw [← HM.out, upS_at HX.out, HG1.out]; rfl)
        go_wp2
        go_ret
        exact ⟨by rw [HR.out]; rfl, rfl⟩
      · have HS := hid (show upS (x + 1) (l.drop (k + 1)) = setS l by rw [← HM.out, upS_at HX.out, HG1.out]; rfl)
        have hx0 : 0 ≤ x := by have := (inI_iff.1 HG1.out).1; omega
        have hx1 : x ≤ 5 := (inI_iff.1 HG1.out).2
        go_wp2
        go_round
        case rel => exact ⟨k + 1, x + 1, by omega, by omega, HS.out, by go_num, by go_num⟩
        case measure => simp [intOf]; omega
    · obtain rfl : k = l.length := by omega
      have hd4 : decide ((l.length : Int) < (l.length : Int)) = false := by simp
      have HR := hid (show setS l = true by rw [← HM.out, List.drop_length]; rfl)
      go_wp2
      go_ret
      exact ⟨by rw [HR.out]; rfl, rfl⟩

/-! ### By kinds -/
theorem mayP_okJ (l : List KV) : mayP l = l.all okJ := rfl
set_option maxHeartbeats 1000000 in
theorem recPairs_any (v : Value) (l : List KV) (w : World) (hv : Prs w v l) :
    Calls Try.prog 49 #[v] w fun e w' => e = .returned (.bool (prsR l)) ∧ Below w.heap.size w w' := by
  have HV := hid hv
  obtain ⟨ao, ca, rfl, a1, a2, -, -⟩ := hv
  unfold maxLen at a2
  by_cases hbig : l.length ≤ 40
  · have hd : decide ((l.length : Int) ≤ (40 : Int)) = true := by simp; omega
    have HE := hid (show prsR l = mayP l by unfold prsR; rw [decide_eq_true hbig, mayP_okJ]; rfl)
    clear hbig
    go_enter Try.func49, Try.ntmps49
    go_wp2_with fail
    refine (pairMay_any _ l _ HV.out).mono ?_
    rintro e w1 ⟨rfl, hb⟩
    have HB := hid hb
    clear hb
    obtain ⟨g1, hg1⟩ : ∃ g, mayP l = g := ⟨_, rfl⟩
    have HG1 := hid hg1
    rw [hg1]
    clear hg1
    go_wp2
    go_ret
    exact ⟨by rw [HE.out, HG1.out]; rfl, HB.out⟩
  · have hd : decide ((l.length : Int) ≤ (40 : Int)) = false := by simp; omega
    have HR := hid (show prsR l = false by unfold prsR; rw [decide_eq_false hbig]; rfl)
    clear hbig
    go_enter Try.func49, Try.ntmps49
    go_wp2
    go_ret
    exact ⟨by rw [HR.out]; rfl, Below.refl _ _⟩
theorem and_if {a b : Bool} : (a && b) = true ↔ a = true ∧ b = true := by simp
theorem nil_len {α : Type} {l : List α} : l = [] ↔ l.length = 0 := by cases l <;> simp
theorem mayR_won {r : RecV} (h : r.kind = 1) : mayR r = (inI r.split 0 5 && (inI r.attempt 1 3 && (setW r.set && sameR r ⟨r.kind, 0, r.split, r.attempt, 0, r.set, []⟩))) := by
  unfold mayR sameR
  rw [if_pos h, Bool.eq_iff_iff]
  simp only [Bool.and_eq_true, decide_eq_true_eq, nil_len, true_and]
  constructor <;> (intro k; simp only [k, and_self])
theorem mayR_snap {r : RecV} (h : r.kind = 5) : mayR r = (inI r.part 0 3 && (setS r.set && sameR r ⟨r.kind, r.part, 0, 0, 0, r.set, []⟩)) := by
  unfold mayR sameR
  rw [if_neg (by omega), if_neg (by omega), if_neg (by omega), if_neg (by omega), if_pos h, Bool.eq_iff_iff]
  simp only [Bool.and_eq_true, decide_eq_true_eq, nil_len, true_and]
  constructor <;> (intro k; simp only [k, and_self])
theorem mayR_merged {r : RecV} (h : r.kind = 4) : mayR r = (inI r.part 0 3 && (inI r.split 0 5 && (inI r.attempt 1 3 && (prsR r.prs && sameR r ⟨r.kind, r.part, r.split, r.attempt, 0, [], r.prs⟩)))) := by
  unfold mayR sameR
  rw [if_neg (by omega), if_neg (by omega), if_neg (by omega), if_pos h, Bool.eq_iff_iff]
  simp only [Bool.and_eq_true, decide_eq_true_eq, nil_len, true_and, and_true]
  constructor <;> (intro k; simp only [k, and_self])
theorem mayR_none {r : RecV} (h : r.kind = 2 ∨ r.kind = 6) : mayR r = sameR r ⟨r.kind, 0, 0, 0, 0, [], []⟩ := by
  unfold mayR sameR
  rw [if_neg (by omega), if_pos h, Bool.eq_iff_iff]
  simp only [Bool.and_eq_true, decide_eq_true_eq, nil_len, true_and]
  constructor <;> (intro k; simp only [k, and_self])
theorem mayR_over0 {r : RecV} (h : r.kind = 3) (h0 : r.attempt = 0) : mayR r = (inI r.reason 1 6 && (inI r.split 0 5 && (inI r.part 0 3 && sameR r ⟨r.kind, 0, r.split, r.attempt, r.reason, [], []⟩))) := by
  unfold mayR sameR
  rw [if_neg (by omega), if_neg (by omega), if_pos h, Bool.eq_iff_iff]
  simp only [Bool.and_eq_true, Bool.or_eq_true, decide_eq_true_eq, nil_len, true_and, inI_iff]
  omega
theorem mayR_over1 {r : RecV} (h : r.kind = 3) (h0 : r.attempt = 1) : mayR r = (inI r.reason 1 6 && (inI r.split 0 5 && (inI r.part 0 3 && sameR r ⟨r.kind, r.part, 0, r.attempt, r.reason, [], []⟩))) := by
  unfold mayR sameR
  rw [if_neg (by omega), if_neg (by omega), if_pos h, Bool.eq_iff_iff]
  simp only [Bool.and_eq_true, Bool.or_eq_true, decide_eq_true_eq, nil_len, true_and, inI_iff]
  omega
theorem mayR_over2 {r : RecV} (h : r.kind = 3) (h0 : r.attempt ≠ 0) (h1 : r.attempt ≠ 1) : mayR r = false := by
  unfold mayR
  rw [if_neg (by omega), if_neg (by omega), if_pos h, Bool.eq_false_iff]
  simp only [ne_eq, Bool.and_eq_true, Bool.or_eq_true, decide_eq_true_eq, inI_iff]
  omega
theorem mayR_other {r : RecV} (h : r.kind < 1 ∨ 6 < r.kind) : mayR r = false := by
  unfold mayR
  rw [if_neg (by omega), if_neg (by omega), if_neg (by omega), if_neg (by omega), if_neg (by omega)]
set_option maxHeartbeats 4000000 in
theorem recWon_any (r : RecV) (so : Option Addr) (sc : Nat) (po : Option Addr) (pc : Nat) (w : World) (hr : RecIs w so sc po pc r) (hk : r.kind = 1) :
    Calls Try.prog 27 #[.agg #[.int .i64 r.kind, .int .i64 r.part, .int .i64 r.split, .int .i64 r.attempt, .int .i64 r.reason, .slice so r.set.length sc, .slice po r.prs.length pc]] w fun e w' => e = .returned (.bool (mayR r)) ∧ Below w.heap.size w w' := by
  have HK := hid hk
  have HB := hid (two_below w (.cells #[.int .i64 r.kind, .int .i64 r.part, .int .i64 r.split, .int .i64 r.attempt, .int .i64 r.reason, .slice so r.set.length sc, .slice po r.prs.length pc] 33) (.cells #[.int .i64 r.kind, .int .i64 0, .int .i64 r.split, .int .i64 r.attempt, .int .i64 0, .slice so r.set.length sc, .slice none 0 0] 33))
  have HI := hid (hr.below HB.out)
  clear hr hk
  go_enter Try.func27, Try.ntmps27
  go_wp2_with fail
  refine (recSplit_calls r.split _).mono ?_
  rintro e w0 ⟨rfl, rfl⟩
  obtain ⟨g0, hg0⟩ : ∃ g, inI r.split 0 5 = g := ⟨_, rfl⟩
  have H0 := hid hg0
  rw [hg0]
  clear hg0
  cases g0
  · have HR := hid (show mayR r = false by rw [mayR_won HK.out, H0.out]; simp)
    go_wp2
    go_ret
    exact ⟨by rw [HR.out]; rfl, HB.out⟩
  go_wp2_with fail
  refine (recAttempt_calls r.attempt _).mono ?_
  rintro e w1 ⟨rfl, rfl⟩
  obtain ⟨g1, hg1⟩ : ∃ g, inI r.attempt 1 3 = g := ⟨_, rfl⟩
  have H1 := hid hg1
  rw [hg1]
  clear hg1
  cases g1
  · have HR := hid (show mayR r = false by rw [mayR_won HK.out, H1.out]; simp)
    go_wp2
    go_ret
    exact ⟨by rw [HR.out]; rfl, HB.out⟩
  go_wp2_with fail
  refine (recCounts_any _ r.set _ HI.out.set).mono ?_
  rintro e w2 ⟨rfl, rfl⟩
  obtain ⟨g2, hg2⟩ : ∃ g, setW r.set = g := ⟨_, rfl⟩
  have H2 := hid hg2
  rw [hg2]
  clear hg2
  cases g2
  · have HR := hid (show mayR r = false by rw [mayR_won HK.out, H2.out]; simp)
    go_wp2
    go_ret
    exact ⟨by rw [HR.out]; rfl, HB.out⟩
  go_wp2_with fail
  refine (recSame_dec r ⟨r.kind, 0, r.split, r.attempt, 0, r.set, []⟩ so sc po pc so sc none 0 _ HI.out ⟨HI.out.set, Reads.nil _⟩).mono ?_
  rintro e w9 ⟨rfl, hb9⟩
  have HR := hid (show mayR r = sameR r ⟨r.kind, 0, r.split, r.attempt, 0, r.set, []⟩ by rw [mayR_won HK.out, H0.out, H1.out, H2.out]; rfl)
  replace HB := hid (below_then HB.out hb9 HB.out.size)
  clear hb9
  obtain ⟨g9, hg9⟩ : ∃ g, sameR r ⟨r.kind, 0, r.split, r.attempt, 0, r.set, []⟩ = g := ⟨_, rfl⟩
  have H9 := hid hg9
  rw [hg9]
  clear hg9
  go_wp2
  go_ret
  exact ⟨by rw [HR.out, H9.out]; rfl, HB.out⟩
set_option maxHeartbeats 4000000 in
theorem recSnap_any (r : RecV) (so : Option Addr) (sc : Nat) (po : Option Addr) (pc : Nat) (w : World) (hr : RecIs w so sc po pc r) (hk : r.kind = 5) :
    Calls Try.prog 30 #[.agg #[.int .i64 r.kind, .int .i64 r.part, .int .i64 r.split, .int .i64 r.attempt, .int .i64 r.reason, .slice so r.set.length sc, .slice po r.prs.length pc]] w fun e w' => e = .returned (.bool (mayR r)) ∧ Below w.heap.size w w' := by
  have HK := hid hk
  have HB := hid (two_below w (.cells #[.int .i64 r.kind, .int .i64 r.part, .int .i64 r.split, .int .i64 r.attempt, .int .i64 r.reason, .slice so r.set.length sc, .slice po r.prs.length pc] 33) (.cells #[.int .i64 r.kind, .int .i64 r.part, .int .i64 0, .int .i64 0, .int .i64 0, .slice so r.set.length sc, .slice none 0 0] 33))
  have HI := hid (hr.below HB.out)
  clear hr hk
  go_enter Try.func30, Try.ntmps30
  go_wp2_with fail
  refine (recPart_calls r.part _).mono ?_
  rintro e w0 ⟨rfl, rfl⟩
  obtain ⟨g0, hg0⟩ : ∃ g, inI r.part 0 3 = g := ⟨_, rfl⟩
  have H0 := hid hg0
  rw [hg0]
  clear hg0
  cases g0
  · have HR := hid (show mayR r = false by rw [mayR_snap HK.out, H0.out]; simp)
    go_wp2
    go_ret
    exact ⟨by rw [HR.out]; rfl, HB.out⟩
  go_wp2_with fail
  refine (recSplits_any _ r.set _ HI.out.set).mono ?_
  rintro e w1 ⟨rfl, rfl⟩
  obtain ⟨g1, hg1⟩ : ∃ g, setS r.set = g := ⟨_, rfl⟩
  have H1 := hid hg1
  rw [hg1]
  clear hg1
  cases g1
  · have HR := hid (show mayR r = false by rw [mayR_snap HK.out, H1.out]; simp)
    go_wp2
    go_ret
    exact ⟨by rw [HR.out]; rfl, HB.out⟩
  go_wp2_with fail
  refine (recSame_dec r ⟨r.kind, r.part, 0, 0, 0, r.set, []⟩ so sc po pc so sc none 0 _ HI.out ⟨HI.out.set, Reads.nil _⟩).mono ?_
  rintro e w9 ⟨rfl, hb9⟩
  have HR := hid (show mayR r = sameR r ⟨r.kind, r.part, 0, 0, 0, r.set, []⟩ by rw [mayR_snap HK.out, H0.out, H1.out]; rfl)
  replace HB := hid (below_then HB.out hb9 HB.out.size)
  clear hb9
  obtain ⟨g9, hg9⟩ : ∃ g, sameR r ⟨r.kind, r.part, 0, 0, 0, r.set, []⟩ = g := ⟨_, rfl⟩
  have H9 := hid hg9
  rw [hg9]
  clear hg9
  go_wp2
  go_ret
  exact ⟨by rw [HR.out, H9.out]; rfl, HB.out⟩
end Go.Proofs.Ytpkobobandcclaa
