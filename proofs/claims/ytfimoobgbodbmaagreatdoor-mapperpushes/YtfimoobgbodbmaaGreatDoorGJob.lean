/- Laid together: IntsP JMay JJob JGreat. -/
import Derived.Test.YtfimoobgbodbmaaGreatDoorProg
import Derived.Test.YtfimoobgbodbmaaGreatDoorGSeq
import Derived.Room.AppendFits
import Derived.Laws.AppendOwnNone
import Derived.WalkSpells
import Derived.WalkLawsBesides
import Derived.Test.YtfimoobgbodbmaaGreatDoorGPlain
import Derived.Test.YtfimoobgbodbmaaGreatDoorGProg
import Derived.Test.YtfimoobgbodbmaaGreatDoorSLook
import Derived.Test.YtfimoobgbodbmaaGreatDoorLis
/-! Slices of whole numbers: how they read. -/
namespace Go.Proofs.YtfimoobgbodbmaaGreatDoor
open Go.RowKit
set_option linter.unusedVariables false
set_option maxRecDepth 100000

/-- Whole numbers as cells. -/
def ict (l : List Int) : List Value := l.map (Value.int .i64)
theorem ict_length (l : List Int) : (ict l).length = l.length := by simp [ict]
theorem ict_append (a b : List Int) : ict (a ++ b) = ict a ++ ict b := by simp [ict]
theorem ict_at {l : List Int} {j : Nat} (h : j < l.length) : (ict l)[j]? = some (.int .i64 (l.getD j 0)) := by
  simp [ict, List.getElem?_eq_getElem h, List.getD]

/-- v is a slice of whole numbers that reads as l in the world w. -/
def Is (w : World) (v : Value) (l : List Int) : Prop :=
  ∃ ao cap, v = .slice ao l.length cap ∧ l.length ≤ cap ∧ cap ≤ maxLen ∧ (ao = none → l = [] ∧ cap = 0) ∧
    (l ≠ [] → ∃ b off, ao = some ⟨b, off, none⟩ ∧ b < w.heap.size ∧ ∀ j, j < l.length → w.cell? ⟨b, off + j, none⟩ = some (.int .i64 (l.getD j 0)))
theorem Is.below {w w' : World} {v : Value} {l : List Int} (h : Is w v l) (hb : Below w.heap.size w w') : Is w' v l := by
  obtain ⟨ao, cap, rfl, h1, h2, h3, h4⟩ := h
  refine ⟨ao, cap, rfl, h1, h2, h3, fun hl => ?_⟩
  obtain ⟨b, off, rfl, hlt, hc⟩ := h4 hl
  exact ⟨b, off, rfl, Nat.lt_of_lt_of_le hlt hb.size, fun j hj => (hb.cell (p := ⟨b, off + j, none⟩) hlt).trans (hc j hj)⟩
/-- What the call owns reads as it must. -/
theorem Is.own {w : World} {base g n cap : Nat} {l : List Int} (h : w.ownsRow base 3 1 (.slice (some ⟨g, 0, none⟩) n cap) n (ict l)) : Is w (.slice (some ⟨g, 0, none⟩) n cap) l := by
  have hn : l.length = n := by have := h.1; rw [ict_length] at this; omega
  subst hn
  have hcell := fun j (hj : j < l.length) => (h.cellAt j (by omega)).trans (ict_at hj)
  rcases h.2 with ⟨h', _⟩ | ⟨g', cap', cur, h', hb, hg, hnc, hm, _, _⟩
  · cases h'
  · simp only [Value.slice.injEq, Option.some.injEq, Addr.mk.injEq, and_true, true_and] at h'
    obtain ⟨rfl, rfl⟩ := h'
    exact ⟨some ⟨g, 0, none⟩, cap, rfl, hnc, hm, fun e => (by cases e), fun _ => ⟨g, 0, rfl, (Array.getElem?_eq_some_iff.1 hg).1, fun j hj => by rw [Nat.zero_add]; exact hcell j hj⟩⟩
theorem Tryz.info3 : (Tryz.prog.info? 3).map (fun i => (i.zero, i.size, i.bytes)) = some (some (.int .i64 0), 1, 8) := by kernel_rfl

end Go.Proofs.YtfimoobgbodbmaaGreatDoor
/-! Which jobs and configurations may be: the program's answers. -/
namespace Go.Proofs.YtfimoobgbodbmaaGreatDoor
open Go.RowKit
set_option linter.unusedVariables false
set_option maxRecDepth 100000

/-! ### Bounds -/
theorem within_calls (n lo hi : Int) (w : World) : Calls Tryz.prog 56 #[.int .i64 n, .int .i64 lo, .int .i64 hi] w fun e w' => e = .returned (.bool (inI n lo hi)) ∧ w = w' := by
  by_cases h : lo ≤ n
  · have hd : decide (lo ≤ n) = true := by simpa using h
    have HR := hid (show inI n lo hi = decide (n ≤ hi) by simp [inI, hd])
    go_enter Tryz.func56, Tryz.ntmps56
    go_wp2
    go_ret
    exact ⟨by rw [HR.out]; rfl, rfl⟩
  · have hd : decide (lo ≤ n) = false := by simpa using h
    have HR := hid (show inI n lo hi = false by simp [inI, hd])
    go_enter Tryz.func56, Tryz.ntmps56
    go_wp2
    go_ret
    exact ⟨by rw [HR.out]; rfl, rfl⟩

/-! ### Splits -/
theorem splitJ_eq (l : List KV) : splitJ l = (decide (l.length ≤ 8) && mayP l) := rfl
theorem inI_len (l : List KV) : inI (l.length : Int) 0 8 = decide (l.length ≤ 8) := by
  simp only [inI]
  have : decide ((0 : Int) ≤ (l.length : Int)) = true := by simp
  rw [this, Bool.true_and]
  exact decide_eq_decide.2 (by omega)
set_option maxHeartbeats 1000000 in
theorem maySplits_any (v : Value) (ls : List (List KV)) (w : World) (hv : Lis w v ls) :
    Calls Tryz.prog 74 #[v] w fun e w' => e = .returned (.bool (inI ls.length 1 6 && ls.all splitJ)) ∧ Below w.heap.size w w' := by
  have HV := hid hv
  obtain ⟨ao, ca, rfl, a1, a2, -⟩ := hv.slice
  unfold maxLen at a2
  clear hv
  go_enter Tryz.func74, Tryz.ntmps74
  go_wp2_with fail
  refine (within_calls _ _ _ _).mono ?_
  rintro e w1 ⟨rfl, rfl⟩
  obtain ⟨g, hg⟩ : ∃ g, inI ls.length 1 6 = g := ⟨_, rfl⟩
  have HG := hid hg
  rw [hg]
  clear hg
  cases g
  · go_wp2
    go_ret
    exact ⟨by rw [HG.out]; rfl, Below.refl _ _⟩
  · go_wp2
    go_loopw [11] (fun i wr => ∃ k : Nat, k ≤ ls.length ∧ (ls.take k).all splitJ = true ∧ i = .int .i64 k ∧ Below w.heap.size w wr) (fun i _ => ls.length - (intOf i).toNat)
    case atStart => exact ⟨0, by omega, rfl, rfl, Below.refl _ _⟩
    case round =>
      obtain ⟨k, hk, hm, rfl, hbr⟩ := hrel
      have HM := hid hm
      clear hm
      by_cases hlt : k < ls.length
      · obtain ⟨b, off, l, xo, xc, hl, rfl, hb, c1, hp⟩ := (HV.out.below hbr).cell hlt
        have HL := hid hl
        have HP := hid hp
        clear hl hp
        have hd4 : decide ((k : Int) < (ls.length : Int)) = true := by simp; omega
        go_wp2_with fail
        refine (within_calls _ _ _ _).mono ?_
        rintro e w1 ⟨rfl, rfl⟩
        rw [inI_len]
        obtain ⟨g1, hg1⟩ : ∃ g, decide (l.length ≤ 8) = g := ⟨_, rfl⟩
        have HG1 := hid hg1
        rw [hg1]
        clear hg1
        cases g1
        · have HN := hid (splits_not HL.out (by rw [splitJ_eq, HG1.out]; rfl))
          go_wp2
          go_ret
          exact ⟨by rw [HN.out]; simp, hbr⟩
        · go_wp2_with fail
          refine (pairMay_any _ l _ HP.out).mono ?_
          rintro e w2 ⟨rfl, hb2⟩
          have HB2 := hid (below_then hbr hb2 hbr.size)
          clear hb2 c1
          obtain ⟨g2, hg2⟩ : ∃ g, mayP l = g := ⟨_, rfl⟩
          have HG2 := hid hg2
          rw [hg2]
          clear hg2
          cases g2
          · have HN := hid (splits_not HL.out (by rw [splitJ_eq, HG1.out, HG2.out]; rfl))
            go_wp2
            go_ret
            exact ⟨by rw [HN.out]; simp, HB2.out⟩
          · have HS := hid (splits_step HM.out HL.out (by rw [splitJ_eq, HG1.out, HG2.out]; rfl))
            go_wp2
            go_roundw
            case rel => exact ⟨k + 1, by omega, HS.out, by go_num, HB2.out⟩
            case measure => simp [intOf]; omega
      · obtain rfl : k = ls.length := by omega
        have hd4 : decide ((ls.length : Int) < (ls.length : Int)) = false := by simp
        have HR := hid (show ls.all splitJ = true by have := HM.out; rw [List.take_length] at this; exact this)
        go_wp2
        go_ret
        exact ⟨by rw [HR.out, HG.out]; rfl, hbr⟩

/-! ### Programs -/
theorem mayDo_any (v : Value) (l : List Inst) (w : World) (hv : Co w v l) :
    Calls Tryz.prog 75 #[v] w fun e w' => e = .returned (.bool (decide (l ≠ []) && decide (bad l < 0))) ∧ Below w.heap.size w w' := by
  have HV := hid hv
  obtain ⟨ao, ca, rfl, a1, a2, -, -⟩ := hv
  unfold maxLen at a2
  by_cases hl : l = []
  · subst hl
    go_enter Tryz.func75, Tryz.ntmps75
    go_wp2
    go_ret
    exact ⟨by simp, Below.refl _ _⟩
  · have HL := hid hl
    have hpos : 0 < l.length := by
      rcases Nat.eq_zero_or_pos l.length with e | e
      · exact absurd (List.eq_nil_of_length_eq_zero e) hl
      · exact e
    obtain ⟨n, hn⟩ : ∃ n, l.length = n := ⟨_, rfl⟩
    rw [hn] at a1 hpos HV ⊢
    have hd : decide ((0 : Int) < (n : Int)) = true := by simp; omega
    clear hn hl
    go_enter Tryz.func75, Tryz.ntmps75
    go_wp2_with fail
    refine (may_any _ l w HV.out).mono ?_
    rintro e w2 ⟨rfl, hb2⟩
    have HB2 := hid hb2
    clear hb2
    obtain ⟨g, hg⟩ : ∃ g, decide (bad l < 0) = g := ⟨_, rfl⟩
    have HG := hid hg
    rw [hg]
    clear hg
    go_wp2
    go_ret
    exact ⟨by rw [HG.out]; simp [HL.out], HB2.out⟩

/-! ### Marks -/
/-- The least that the k-th mark may be. -/
def Least (ms : List Int) (k : Nat) (L : Int) : Prop := 1 ≤ L ∧ (k = 0 → L = 1) ∧ ∀ y, 0 < k → ms[k - 1]? = some y → L = y + 1
theorem Least.zero (ms : List Int) : Least ms 0 1 := ⟨by omega, fun _ => rfl, fun y h => by omega⟩
theorem marks_step {n : Int} {ms : List Int} {k : Nat} {x L : Int} (h : MarksTo n ms k) (hL : Least ms k L) (hk : k < ms.length) (hx : ms[k]? = some x) (h1 : inI x L n = true) : MarksTo n ms (k + 1) ∧ Least ms (k + 1) (x + 1) := by
  obtain ⟨h2, h3⟩ := inI_iff.1 h1
  obtain ⟨l1, l2, l3⟩ := hL
  refine ⟨h.step hx (inI_iff.2 ⟨by omega, h3⟩) fun y h0 hy => ?_, by omega, (fun e => by omega), fun y h0 hy => ?_⟩
  · have := l3 y h0 hy
    omega
  · rw [Nat.add_sub_cancel, hx] at hy
    cases hy
    rfl
theorem marks_no {n : Int} {ms : List Int} {k : Nat} {x L : Int} (hL : Least ms k L) (hk : k < ms.length) (hx : ms[k]? = some x) (h1 : inI x L n = false) : marksJ n ms = false := by
  obtain ⟨l1, l2, l3⟩ := hL
  refine marksJ_not hx ?_
  by_cases hb : x ≤ n
  · have hlt : x < L := by
      rcases Int.lt_or_le x L with h | h
      · exact h
      · rw [inI_iff.2 ⟨h, hb⟩] at h1
        cases h1
    rcases Nat.eq_zero_or_pos k with h0 | h0
    · left
      have := l2 h0
      cases e : inI x 1 n with
      | false => rfl
      | true => have := (inI_iff.1 e).1; omega
    · right
      have hy : ms[k - 1]? = some (ms[k - 1]'(by omega)) := List.getElem?_eq_getElem (by omega)
      refine ⟨_, h0, hy, ?_⟩
      have := l3 _ h0 hy
      omega
  · left
    cases e : inI x 1 n with
    | false => rfl
    | true => exact absurd (inI_iff.1 e).2 hb
theorem Is.cell {w : World} {ao : Option Addr} {m cap : Nat} {l : List Int} (h : Is w (.slice ao m cap) l) {j : Nat} (hj : j < l.length) : ∃ b off x, l[j]? = some x ∧ ao = some ⟨b, off, none⟩ ∧ b < w.heap.size ∧ w.cell? ⟨b, off + j, none⟩ = some (.int .i64 x) := by
  obtain ⟨ao', cap', e, _, _, _, h4⟩ := h
  simp only [Value.slice.injEq] at e
  obtain ⟨rfl, -, rfl⟩ := e
  obtain ⟨b, off, rfl, hb, hc⟩ := h4 (by intro e; rw [e] at hj; simp at hj)
  refine ⟨b, off, l[j], List.getElem?_eq_getElem hj, rfl, hb, ?_⟩
  rw [hc j hj]
  simp [List.getD, List.getElem?_eq_getElem hj]
def marksOk (n : Int) (ms : List Int) : Bool := decide (ms.length ≤ 4) && marksJ n ms
theorem inI_marks (ms : List Int) : inI (ms.length : Int) 0 4 = decide (ms.length ≤ 4) := by
  simp only [inI]
  have : decide ((0 : Int) ≤ (ms.length : Int)) = true := by simp
  rw [this, Bool.true_and]
  exact decide_eq_decide.2 (by omega)
set_option maxHeartbeats 1000000 in
theorem mayMarks_any (v : Value) (ms : List Int) (n : Int) (w : World) (hv : Is w v ms) (hn : n ≤ 1000) :
    Calls Tryz.prog 77 #[v, .int .i64 n] w fun e w' => e = .returned (.bool (marksOk n ms)) ∧ w = w' := by
  have HV := hid hv
  have HN := hid hn
  obtain ⟨ao, ca, rfl, a1, a2, -, -⟩ := hv
  unfold maxLen at a2
  clear hn
  go_enter Tryz.func77, Tryz.ntmps77
  go_wp2_with fail
  refine (within_calls _ _ _ _).mono ?_
  rintro e w1 ⟨rfl, rfl⟩
  rw [inI_marks]
  obtain ⟨g, hg⟩ : ∃ g, decide (ms.length ≤ 4) = g := ⟨_, rfl⟩
  have HG := hid hg
  rw [hg]
  clear hg
  cases g
  · have HR := hid (show marksOk n ms = false by unfold marksOk; rw [HG.out]; rfl)
    go_wp2
    go_ret
    exact ⟨by rw [HR.out]; rfl, rfl⟩
  · go_wp2
    go_loop [5, 14] (fun a i => ∃ (k : Nat) (L : Int), k ≤ ms.length ∧ MarksTo n ms k ∧ Least ms k L ∧ a = .int .i64 L ∧ i = .int .i64 k) (fun _ i => ms.length - (intOf i).toNat)
    case atStart => exact ⟨0, 1, by omega, MarksTo.zero n ms, Least.zero ms, rfl, rfl⟩
    case round =>
      obtain ⟨k, L, hk, hm, hl, rfl, rfl⟩ := hrel
      have HM := hid hm
      have HL := hid hl
      clear hm hl
      by_cases hlt : k < ms.length
      · obtain ⟨b, off, x, hx, rfl, hb, c1⟩ := HV.out.cell hlt
        have HX := hid hx
        clear hx
        have hd4 : decide ((k : Int) < (ms.length : Int)) = true := by simp; omega
        go_wp2_with fail
        refine (within_calls x L n _).mono ?_
        rintro e w1 ⟨rfl, rfl⟩
        obtain ⟨g1, hg1⟩ : ∃ g, inI x L n = g := ⟨_, rfl⟩
        have HG1 := hid hg1
        rw [hg1]
        clear hg1
        cases g1
        · have HR := hid (show marksOk n ms = false by unfold marksOk; rw [marks_no HL.out hlt HX.out HG1.out]; simp)
          go_wp2
          go_ret
          exact ⟨by rw [HR.out]; rfl, rfl⟩
        · have HS := hid (marks_step HM.out HL.out hlt HX.out HG1.out)
          have hx0 : 0 ≤ x := by
            have h1 := (inI_iff.1 HG1.out).1
            have h2 := HL.out.1
            omega
          have hx1 : x ≤ 1000 := by
            have h1 := (inI_iff.1 HG1.out).2
            have h2 := HN.out
            omega
          go_wp2
          go_round
          case rel => exact ⟨k + 1, x + 1, by omega, HS.out.1, HS.out.2, by go_num, by go_num⟩
          case measure => simp [intOf]; omega
      · obtain rfl : k = ms.length := by omega
        have hd4 : decide ((ms.length : Int) < (ms.length : Int)) = false := by simp
        have HR := hid (show marksOk n ms = true by unfold marksOk; rw [HG.out, (marksJ_iff n ms).2 HM.out]; rfl)
        go_wp2
        go_ret
        exact ⟨by rw [HR.out]; rfl, rfl⟩
end Go.Proofs.YtfimoobgbodbmaaGreatDoor
/-! May of a job and of a configuration: the program's answers. -/
namespace Go.Proofs.YtfimoobgbodbmaaGreatDoor
open Go.RowKit
set_option linter.unusedVariables false
set_option maxRecDepth 100000

/-- Slices that read as a job. -/
structure JobIs (w : World) (so mo co ro ko : Option Addr) (sc mc cc rc kc : Nat) (j : JobV) : Prop where
  sp : Lis w (.slice so j.splits.length sc) j.splits
  mp : Co w (.slice mo j.mp.length mc) j.mp
  cb : Co w (.slice co j.cb.length cc) j.cb
  rd : Co w (.slice ro j.rd.length rc) j.rd
  mks : Is w (.slice ko j.marks.length kc) j.marks
theorem JobIs.below {w w' : World} {so mo co ro ko : Option Addr} {sc mc cc rc kc : Nat} {j : JobV} (h : JobIs w so mo co ro ko sc mc cc rc kc j) (hb : Below w.heap.size w w') : JobIs w' so mo co ro ko sc mc cc rc kc j :=
  ⟨h.sp.below hb, h.mp.below hb, h.cb.below hb, h.rd.below hb, h.mks.below hb⟩
/-- Cells that lie one behind the other. -/
def At (w : World) (b : Nat) (cs : List Value) : Prop := ∀ i v, cs[i]? = some v → w.cell? ⟨b, i, none⟩ = some v
theorem At.below {w w' : World} {b : Nat} {cs : List Value} (h : At w b cs) (hb : Below w.heap.size w w') (hlt : b < w.heap.size) : At w' b cs := fun i v hi => (hb.cell (p := ⟨b, i, none⟩) hlt).trans (h i v hi)
theorem At.new (w : World) (cs : Array Value) (t : TypeId) : At (w.alloc (.cells cs t)) w.heap.size cs.toList := by
  intro i v h
  simpa [go_sem] using h
theorem mayJ_prog (j : JobV) : mayJ j = (((((((((inI j.splits.length 1 6 && j.splits.all splitJ) && inI j.parts 1 4) && (decide (j.mp ≠ []) && decide (bad j.mp < 0))) && (decide (j.rd ≠ []) && decide (bad j.rd < 0))) && decide (bad j.cb < 0)) && inI j.chunk 1 7) && inI j.window 1 4) && inI j.fuel 1 2000) && marksOk j.splits.length j.marks) := by
  unfold mayJ marksOk
  ac_rfl

set_option maxHeartbeats 4000000 in
theorem jobMay_any (j : JobV) (so mo co ro ko : Option Addr) (sc mc cc rc kc : Nat) (w : World) (h : JobIs w so mo co ro ko sc mc cc rc kc j) :
    Calls Tryz.prog 57 #[.agg #[.slice so j.splits.length sc, .int .i64 j.parts, .slice mo j.mp.length mc, .slice co j.cb.length cc, .slice ro j.rd.length rc, .int .i64 j.chunk, .int .i64 j.window, .int .i64 j.fuel, .slice ko j.marks.length kc]] w fun e w' => e = .returned (.bool (mayJ j)) ∧ Below w.heap.size w w' := by
  have HJ := hid (h.below (alloc_one w (.cells #[.slice so j.splits.length sc, .int .i64 j.parts, .slice mo j.mp.length mc, .slice co j.cb.length cc, .slice ro j.rd.length rc, .int .i64 j.chunk, .int .i64 j.window, .int .i64 j.fuel, .slice ko j.marks.length kc] 26)))
  have HA := hid (At.new w #[.slice so j.splits.length sc, .int .i64 j.parts, .slice mo j.mp.length mc, .slice co j.cb.length cc, .slice ro j.rd.length rc, .int .i64 j.chunk, .int .i64 j.window, .int .i64 j.fuel, .slice ko j.marks.length kc] 26)
  have HB := hid (alloc_one w (.cells #[.slice so j.splits.length sc, .int .i64 j.parts, .slice mo j.mp.length mc, .slice co j.cb.length cc, .slice ro j.rd.length rc, .int .i64 j.chunk, .int .i64 j.window, .int .i64 j.fuel, .slice ko j.marks.length kc] 26))
  have hsl : j.splits.length ≤ 9223372036854775807 := by
    obtain ⟨ao, ca, e, a1, a2, -⟩ := h.sp.slice
    unfold maxLen at a2
    omega
  clear h
  go_enter Tryz.func57, Tryz.ntmps57
  go_wp2_with fail
  refine (maySplits_any _ j.splits _ HJ.out.sp).mono ?_
  rintro e w0 ⟨rfl, hb0⟩
  replace HA := hid (HA.out.below hb0 (by simp))
  replace HJ := hid (HJ.out.below hb0)
  have HZ := hid (show w.heap.size < w0.heap.size by have := hb0.size; simp at this; omega)
  replace HB := hid (below_then HB.out hb0 HB.out.size)
  clear hb0
  try clear c0 c1 c2 c3 c4 c5 c6 c7 c8
  have c0 := HA.out 0 _ rfl
  have c1 := HA.out 1 _ rfl
  have c2 := HA.out 2 _ rfl
  have c3 := HA.out 3 _ rfl
  have c4 := HA.out 4 _ rfl
  have c5 := HA.out 5 _ rfl
  have c6 := HA.out 6 _ rfl
  have c7 := HA.out 7 _ rfl
  have c8 := HA.out 8 _ rfl
  obtain ⟨g0, hg0⟩ : ∃ g, (inI j.splits.length 1 6 && j.splits.all splitJ) = g := ⟨_, rfl⟩
  have H0 := hid hg0
  rw [hg0]
  clear hg0
  cases g0
  · have HR := hid (show mayJ j = false by rw [mayJ_prog, H0.out]; simp)
    go_wp2
    go_ret
    exact ⟨by rw [HR.out]; rfl, HB.out⟩
  · skip
    go_wp2_with fail
    refine (within_calls _ _ _ _).mono ?_
    rintro e wx ⟨rfl, rfl⟩
    obtain ⟨g1, hg1⟩ : ∃ g, (inI j.parts 1 4) = g := ⟨_, rfl⟩
    have H1 := hid hg1
    rw [hg1]
    clear hg1
    cases g1
    · have HR := hid (show mayJ j = false by rw [mayJ_prog, H1.out]; simp)
      go_wp2
      go_ret
      exact ⟨by rw [HR.out]; rfl, HB.out⟩
    · skip
      go_wp2_with fail
      refine (mayDo_any _ j.mp _ HJ.out.mp).mono ?_
      rintro e w2 ⟨rfl, hb2⟩
      replace HA := hid (HA.out.below hb2 HZ.out)
      replace HJ := hid (HJ.out.below hb2)
      replace HZ := hid (Nat.lt_of_lt_of_le HZ.out hb2.size)
      replace HB := hid (below_then HB.out hb2 HB.out.size)
      clear hb2
      clear c0 c1 c2 c3 c4 c5 c6 c7 c8
      have c0 := HA.out 0 _ rfl
      have c1 := HA.out 1 _ rfl
      have c2 := HA.out 2 _ rfl
      have c3 := HA.out 3 _ rfl
      have c4 := HA.out 4 _ rfl
      have c5 := HA.out 5 _ rfl
      have c6 := HA.out 6 _ rfl
      have c7 := HA.out 7 _ rfl
      have c8 := HA.out 8 _ rfl
      obtain ⟨g2, hg2⟩ : ∃ g, (decide (j.mp ≠ []) && decide (bad j.mp < 0)) = g := ⟨_, rfl⟩
      have H2 := hid hg2
      rw [hg2]
      clear hg2
      cases g2
      · have HR := hid (show mayJ j = false by rw [mayJ_prog, H2.out]; simp)
        go_wp2
        go_ret
        exact ⟨by rw [HR.out]; rfl, HB.out⟩
      · skip
        go_wp2_with fail
        refine (mayDo_any _ j.rd _ HJ.out.rd).mono ?_
        rintro e w3 ⟨rfl, hb3⟩
        replace HA := hid (HA.out.below hb3 HZ.out)
        replace HJ := hid (HJ.out.below hb3)
        replace HZ := hid (Nat.lt_of_lt_of_le HZ.out hb3.size)
        replace HB := hid (below_then HB.out hb3 HB.out.size)
        clear hb3
        clear c0 c1 c2 c3 c4 c5 c6 c7 c8
        have c0 := HA.out 0 _ rfl
        have c1 := HA.out 1 _ rfl
        have c2 := HA.out 2 _ rfl
        have c3 := HA.out 3 _ rfl
        have c4 := HA.out 4 _ rfl
        have c5 := HA.out 5 _ rfl
        have c6 := HA.out 6 _ rfl
        have c7 := HA.out 7 _ rfl
        have c8 := HA.out 8 _ rfl
        obtain ⟨g3, hg3⟩ : ∃ g, (decide (j.rd ≠ []) && decide (bad j.rd < 0)) = g := ⟨_, rfl⟩
        have H3 := hid hg3
        rw [hg3]
        clear hg3
        cases g3
        · have HR := hid (show mayJ j = false by rw [mayJ_prog, H3.out]; simp)
          go_wp2
          go_ret
          exact ⟨by rw [HR.out]; rfl, HB.out⟩
        · skip
          go_wp2_with fail
          refine (may_any _ j.cb _ HJ.out.cb).mono ?_
          rintro e w4 ⟨rfl, hb4⟩
          replace HA := hid (HA.out.below hb4 HZ.out)
          replace HJ := hid (HJ.out.below hb4)
          replace HZ := hid (Nat.lt_of_lt_of_le HZ.out hb4.size)
          replace HB := hid (below_then HB.out hb4 HB.out.size)
          clear hb4
          clear c0 c1 c2 c3 c4 c5 c6 c7 c8
          have c0 := HA.out 0 _ rfl
          have c1 := HA.out 1 _ rfl
          have c2 := HA.out 2 _ rfl
          have c3 := HA.out 3 _ rfl
          have c4 := HA.out 4 _ rfl
          have c5 := HA.out 5 _ rfl
          have c6 := HA.out 6 _ rfl
          have c7 := HA.out 7 _ rfl
          have c8 := HA.out 8 _ rfl
          obtain ⟨g4, hg4⟩ : ∃ g, (decide (bad j.cb < 0)) = g := ⟨_, rfl⟩
          have H4 := hid hg4
          rw [hg4]
          clear hg4
          cases g4
          · have HR := hid (show mayJ j = false by rw [mayJ_prog, H4.out]; simp)
            go_wp2
            go_ret
            exact ⟨by rw [HR.out]; rfl, HB.out⟩
          · skip
            go_wp2_with fail
            refine (within_calls _ _ _ _).mono ?_
            rintro e wx ⟨rfl, rfl⟩
            obtain ⟨g5, hg5⟩ : ∃ g, (inI j.chunk 1 7) = g := ⟨_, rfl⟩
            have H5 := hid hg5
            rw [hg5]
            clear hg5
            cases g5
            · have HR := hid (show mayJ j = false by rw [mayJ_prog, H5.out]; simp)
              go_wp2
              go_ret
              exact ⟨by rw [HR.out]; rfl, HB.out⟩
            · skip
              go_wp2_with fail
              refine (within_calls _ _ _ _).mono ?_
              rintro e wx ⟨rfl, rfl⟩
              obtain ⟨g6, hg6⟩ : ∃ g, (inI j.window 1 4) = g := ⟨_, rfl⟩
              have H6 := hid hg6
              rw [hg6]
              clear hg6
              cases g6
              · have HR := hid (show mayJ j = false by rw [mayJ_prog, H6.out]; simp)
                go_wp2
                go_ret
                exact ⟨by rw [HR.out]; rfl, HB.out⟩
              · skip
                go_wp2_with fail
                refine (within_calls _ _ _ _).mono ?_
                rintro e wx ⟨rfl, rfl⟩
                obtain ⟨g7, hg7⟩ : ∃ g, (inI j.fuel 1 2000) = g := ⟨_, rfl⟩
                have H7 := hid hg7
                rw [hg7]
                clear hg7
                cases g7
                · have HR := hid (show mayJ j = false by rw [mayJ_prog, H7.out]; simp)
                  go_wp2
                  go_ret
                  exact ⟨by rw [HR.out]; rfl, HB.out⟩
                · skip
                  go_wp2_with fail
                  refine (mayMarks_any _ j.marks _ _ HJ.out.mks (by have := H0.out; simp only [Bool.and_eq_true] at this; have := (inI_iff.1 this.1).2; omega)).mono ?_
                  rintro e wx ⟨rfl, rfl⟩
                  obtain ⟨g8, hg8⟩ : ∃ g, (marksOk j.splits.length j.marks) = g := ⟨_, rfl⟩
                  have H8 := hid hg8
                  rw [hg8]
                  clear hg8
                  cases g8
                  · have HR := hid (show mayJ j = false by rw [mayJ_prog, H8.out]; simp)
                    go_wp2
                    go_ret
                    exact ⟨by rw [HR.out]; rfl, HB.out⟩
                  · skip
                    have HR := hid (show mayJ j = true by rw [mayJ_prog, H0.out, H1.out, H2.out, H3.out, H4.out, H5.out, H6.out, H7.out, H8.out]; rfl)
                    go_wp2
                    go_ret
                    exact ⟨by rw [HR.out]; rfl, HB.out⟩
theorem mayC_prog (c : CfgV) : mayC c = (((inI c.workers 1 4 && inI c.tries 1 3) && inI c.timeout 1 50) && mayJ c.job) := by
  unfold mayC
  ac_rfl
set_option maxHeartbeats 4000000 in
theorem mayConfig_any (c : CfgV) (so mo co ro ko : Option Addr) (sc mc cc rc kc : Nat) (w : World) (h : JobIs w so mo co ro ko sc mc cc rc kc c.job) :
    Calls Tryz.prog 29 #[.agg #[.slice so c.job.splits.length sc, .int .i64 c.job.parts, .slice mo c.job.mp.length mc, .slice co c.job.cb.length cc, .slice ro c.job.rd.length rc, .int .i64 c.job.chunk, .int .i64 c.job.window, .int .i64 c.job.fuel, .slice ko c.job.marks.length kc, .int .i64 c.workers, .int .i64 c.tries, .int .i64 c.timeout]] w fun e w' => e = .returned (.bool (mayC c)) ∧ Below w.heap.size w w' := by
  have HJ := hid (h.below (alloc_one w (.cells #[.slice so c.job.splits.length sc, .int .i64 c.job.parts, .slice mo c.job.mp.length mc, .slice co c.job.cb.length cc, .slice ro c.job.rd.length rc, .int .i64 c.job.chunk, .int .i64 c.job.window, .int .i64 c.job.fuel, .slice ko c.job.marks.length kc, .int .i64 c.workers, .int .i64 c.tries, .int .i64 c.timeout] 28)))
  have HB := hid (alloc_one w (.cells #[.slice so c.job.splits.length sc, .int .i64 c.job.parts, .slice mo c.job.mp.length mc, .slice co c.job.cb.length cc, .slice ro c.job.rd.length rc, .int .i64 c.job.chunk, .int .i64 c.job.window, .int .i64 c.job.fuel, .slice ko c.job.marks.length kc, .int .i64 c.workers, .int .i64 c.tries, .int .i64 c.timeout] 28))
  clear h
  go_enter Tryz.func29, Tryz.ntmps29
  go_wp2_with fail
  refine (within_calls _ _ _ _).mono ?_
  rintro e wx ⟨rfl, rfl⟩
  obtain ⟨g0, hg0⟩ : ∃ g, (inI c.workers 1 4) = g := ⟨_, rfl⟩
  have H0 := hid hg0
  rw [hg0]
  clear hg0
  cases g0
  · have HR := hid (show mayC c = false by rw [mayC_prog, H0.out]; simp)
    go_wp2
    go_ret
    exact ⟨by rw [HR.out]; rfl, HB.out⟩
  · skip
    go_wp2_with fail
    refine (within_calls _ _ _ _).mono ?_
    rintro e wx ⟨rfl, rfl⟩
    obtain ⟨g1, hg1⟩ : ∃ g, (inI c.tries 1 3) = g := ⟨_, rfl⟩
    have H1 := hid hg1
    rw [hg1]
    clear hg1
    cases g1
    · have HR := hid (show mayC c = false by rw [mayC_prog, H1.out]; simp)
      go_wp2
      go_ret
      exact ⟨by rw [HR.out]; rfl, HB.out⟩
    · skip
      go_wp2_with fail
      refine (within_calls _ _ _ _).mono ?_
      rintro e wx ⟨rfl, rfl⟩
      obtain ⟨g2, hg2⟩ : ∃ g, (inI c.timeout 1 50) = g := ⟨_, rfl⟩
      have H2 := hid hg2
      rw [hg2]
      clear hg2
      cases g2
      · have HR := hid (show mayC c = false by rw [mayC_prog, H2.out]; simp)
        go_wp2
        go_ret
        exact ⟨by rw [HR.out]; rfl, HB.out⟩
      · skip
        go_wp2_with fail
        refine (jobMay_any c.job so mo co ro ko sc mc cc rc kc _ HJ.out).mono ?_
        rintro e w1 ⟨rfl, hb1⟩
        replace HB := hid (below_then HB.out hb1 HB.out.size)
        clear hb1
        obtain ⟨g3, hg3⟩ : ∃ g, (mayJ c.job) = g := ⟨_, rfl⟩
        have H3 := hid hg3
        rw [hg3]
        clear hg3
        cases g3
        · have HR := hid (show mayC c = false by rw [mayC_prog, H3.out]; simp)
          go_wp2
          go_ret
          exact ⟨by rw [HR.out]; rfl, HB.out⟩
        · skip
          have HR := hid (show mayC c = true by rw [mayC_prog, H0.out, H1.out, H2.out, H3.out]; rfl)
          go_wp2
          go_ret
          exact ⟨by rw [HR.out]; rfl, HB.out⟩
end Go.Proofs.YtfimoobgbodbmaaGreatDoor
/-! GreatJob: it answers, and nothing old turns. -/
namespace Go.Proofs.YtfimoobgbodbmaaGreatDoor
open Go.RowKit
set_option linter.unusedVariables false
set_option maxRecDepth 100000

/-- Some truth value is answered. -/
def Says (e : Ending) : Prop := ∃ g, e = .returned (.bool g)
set_option maxHeartbeats 4000000 in
theorem greatJob_any (j : JobV) (so mo co ro ko : Option Addr) (sc mc cc rc kc : Nat) (w : World) (h : JobIs w so mo co ro ko sc mc cc rc kc j) :
    Calls Tryz.prog 7 #[.agg #[.slice so j.splits.length sc, .int .i64 j.parts, .slice mo j.mp.length mc, .slice co j.cb.length cc, .slice ro j.rd.length rc, .int .i64 j.chunk, .int .i64 j.window, .int .i64 j.fuel, .slice ko j.marks.length kc]] w fun e w' => Says e ∧ Below w.heap.size w w' := by
  have HJ := hid (h.below (alloc_one w (.cells #[.slice so j.splits.length sc, .int .i64 j.parts, .slice mo j.mp.length mc, .slice co j.cb.length cc, .slice ro j.rd.length rc, .int .i64 j.chunk, .int .i64 j.window, .int .i64 j.fuel, .slice ko j.marks.length kc] 26)))
  have HA := hid (At.new w #[.slice so j.splits.length sc, .int .i64 j.parts, .slice mo j.mp.length mc, .slice co j.cb.length cc, .slice ro j.rd.length rc, .int .i64 j.chunk, .int .i64 j.window, .int .i64 j.fuel, .slice ko j.marks.length kc] 26)
  have HB := hid (alloc_one w (.cells #[.slice so j.splits.length sc, .int .i64 j.parts, .slice mo j.mp.length mc, .slice co j.cb.length cc, .slice ro j.rd.length rc, .int .i64 j.chunk, .int .i64 j.window, .int .i64 j.fuel, .slice ko j.marks.length kc] 26))
  have hsl : j.splits.length ≤ 9223372036854775807 := by
    obtain ⟨ao, ca, e, a1, a2, -⟩ := h.sp.slice
    unfold maxLen at a2
    omega
  clear h
  go_enter Tryz.func7, Tryz.ntmps7
  go_wp2
  generalize w.alloc (.cells #[.slice so j.splits.length sc, .int .i64 j.parts, .slice mo j.mp.length mc, .slice co j.cb.length cc, .slice ro j.rd.length rc, .int .i64 j.chunk, .int .i64 j.window, .int .i64 j.fuel, .slice ko j.marks.length kc] 26) = w0 at HJ HA HB ⊢
  have c0 := HA.out 0 _ rfl
  have c2 := HA.out 2 _ rfl
  have c3 := HA.out 3 _ rfl
  have c4 := HA.out 4 _ rfl
  have c8 := HA.out 8 _ rfl
  go_loop [3] (fun i => ∃ k : Nat, k ≤ j.splits.length ∧ i = .int .i64 k) (fun i => j.splits.length - (intOf i).toNat)
  case atStart => exact ⟨0, by omega, rfl⟩
  case round =>
    obtain ⟨k, hk, rfl⟩ := hrel
    by_cases hgo : k < j.splits.length ∧ j.splits.length ≤ 8
    · obtain ⟨hlt, h8⟩ := hgo
      obtain ⟨b, off, l, xo, xc, hl, rfl, hb, x1, hp⟩ := HJ.out.sp.cell hlt
      have HP := hid hp
      clear hl hp
      have hdk : decide ((k : Int) < (j.splits.length : Int)) = true := by simp; omega
      have hd8 : decide ((j.splits.length : Int) ≤ 8) = true := by simp; omega
      go_wp2_with fail
      refine (greatPairs_any _ l 10 _ HP.out).mono ?_
      rintro e wx ⟨⟨g, rfl, -⟩, hwx⟩
      subst hwx
      cases g
      · go_wp2
        go_round
        case rel => exact ⟨k + 1, by omega, by go_num⟩
        case measure => simp [intOf]; omega
      · go_wp2
        go_ret
        exact ⟨⟨_, rfl⟩, HB.out⟩
    · by_cases h8 : 8 < j.splits.length
      · have hd8 : decide ((8 : Int) < (j.splits.length : Int)) = true := by simp; omega
        have hd9 : decide ((j.splits.length : Int) ≤ 8) = false := by simp; omega
        by_cases hlt : k < j.splits.length
        · have hdk : decide ((k : Int) < (j.splits.length : Int)) = true := by simp; omega
          go_wp2
          go_ret
          exact ⟨⟨_, rfl⟩, HB.out⟩
        · have hdk : decide ((k : Int) < (j.splits.length : Int)) = false := by simp; omega
          go_wp2
          go_ret
          exact ⟨⟨_, rfl⟩, HB.out⟩
      · have hd8 : decide ((8 : Int) < (j.splits.length : Int)) = false := by simp; omega
        obtain rfl : k = j.splits.length := by omega
        have hdk : decide ((j.splits.length : Int) < (j.splits.length : Int)) = false := by simp
        clear hgo
        by_cases hm : 10 < j.marks.length
        · have hdm : decide ((10 : Int) < (j.marks.length : Int)) = true := by simp; omega
          go_wp2
          go_ret
          exact ⟨⟨_, rfl⟩, HB.out⟩
        · have hdm : decide ((10 : Int) < (j.marks.length : Int)) = false := by simp; omega
          go_wp2_with fail
          refine (great_any _ j.mp _ HJ.out.mp).mono ?_
          rintro e wx ⟨⟨g, rfl, -⟩, hwx⟩
          subst hwx
          cases g
          · skip
            go_wp2_with fail
            refine (great_any _ j.cb _ HJ.out.cb).mono ?_
            rintro e wx ⟨⟨g, rfl, -⟩, hwx⟩
            subst hwx
            cases g
            · skip
              go_wp2_with fail
              refine (great_any _ j.rd _ HJ.out.rd).mono ?_
              rintro e wx ⟨⟨g, rfl, -⟩, hwx⟩
              subst hwx
              cases g
              · go_wp2
                go_ret
                exact ⟨⟨_, rfl⟩, HB.out⟩
              · go_wp2
                go_ret
                exact ⟨⟨_, rfl⟩, HB.out⟩
            · go_wp2
              go_ret
              exact ⟨⟨_, rfl⟩, HB.out⟩
          · go_wp2
            go_ret
            exact ⟨⟨_, rfl⟩, HB.out⟩
end Go.Proofs.YtfimoobgbodbmaaGreatDoor
