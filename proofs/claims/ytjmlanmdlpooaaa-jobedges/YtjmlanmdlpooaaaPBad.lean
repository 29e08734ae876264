/- GreatCode; Bad of the program and of the reference; May. -/
import Derived.Test.YtjmlanmdlpooaaaPCode
namespace Go.Proofs.Ytjmlanmdlpooaaa
open Go.RowKit
set_option linter.unusedVariables false

/-- Is it great? If it is not, there are at most 60. -/
def GreatSays (l : List Inst) (e : Ending) : Prop := ∃ g, e = .returned (.bool g) ∧ (g = false → l.length ≤ 60)
set_option maxHeartbeats 1000000 in
theorem great_any (v : Value) (l : List Inst) (w : World) (hv : Co w v l) :
    Calls Try.prog 18 #[v] w fun e w' => GreatSays l e ∧ w' = w := by
  obtain ⟨ao, ca, rfl, a1, a2, a3, a4⟩ := hv
  unfold maxLen at a2
  by_cases hbig : 60 < l.length
  · have hd : decide ((l.length : Int) ≤ 60) = false := by simp; omega
    have hd2 : decide ((60 : Int) < (l.length : Int)) = true := by simp; omega
    have hd3 : decide ((0 : Int) < (l.length : Int)) = true := by simp; omega
    clear a3 a4
    go_enter Try.func18, Try.ntmps18
    go_wp2
    go_loop [3] (fun i => i = .int .i64 0) (fun _ => 0)
    case atStart => rfl
    case round =>
      subst hrel
      go_wp2
      go_ret
      exact ⟨⟨true, rfl, fun h => by cases h⟩, rfl⟩
  · have HB := hid hbig
    have hd : decide ((l.length : Int) ≤ 60) = true := by simp; omega
    have hd2 : decide ((60 : Int) < (l.length : Int)) = false := by simp; omega
    clear hbig a3
    go_enter Try.func18, Try.ntmps18
    go_wp2
    go_loop [3] (fun i => ∃ k : Nat, k ≤ l.length ∧ i = .int .i64 k) (fun i => l.length - (intOf i).toNat)
    case atStart => exact ⟨0, by omega, rfl⟩
    case round =>
      obtain ⟨k, hk, rfl⟩ := hrel
      by_cases hlt : k < l.length
      · have hl : l ≠ [] := by intro e; rw [e] at hlt; simp at hlt
        obtain ⟨b, off, rfl, hb, hc⟩ := a4 hl
        obtain ⟨c0, c1, c2⟩ := hc k hlt
        clear hc hl a4 c0 c1
        generalize (l.getD k zInst).2.2 = s at c2
        have hd4 : decide ((k : Int) < (l.length : Int)) = true := by simp; omega
        by_cases hs : 100 < s.size
        · have hd5 : decide ((100 : Int) < (s.size : Int)) = true := by simp; omega
          go_wp2
          go_ret
          exact ⟨⟨true, rfl, fun h => by cases h⟩, rfl⟩
        · have hd5 : decide ((100 : Int) < (s.size : Int)) = false := by simp; omega
          go_wp2
          go_round
          case rel => exact ⟨k + 1, by omega, by go_num⟩
          case measure => simp [intOf]; omega
      · have hd4 : decide ((k : Int) < (l.length : Int)) = false := by simp; omega
        clear a4
        go_wp2
        go_ret
        exact ⟨⟨false, rfl, fun _ => by have := HB.out; omega⟩, rfl⟩

/-- A world behind which nothing old has turned, from any that is so. -/
theorem below_next {B : Nat} {w w1 w2 : World} (h : Below B w w1) (k : Below w1.heap.size w1 w2) (hB : B ≤ w1.heap.size) : Below B w w2 :=
  ⟨k.os.trans h.os, k.tape.trans h.tape, k.output.trans h.output, Nat.le_trans h.size k.size, fun i hi => (k.block i (by omega)).trans (h.block i hi)⟩

set_option maxHeartbeats 1000000 in
theorem bad_any (v : Value) (l : List Inst) (w : World) (hv : Co w v l) :
    Calls Try.prog 29 #[v] w fun e w' => e = .returned (.int .i64 (bad l)) ∧ Below w.heap.size w w' := by
  obtain ⟨ao, ca, rfl, a1, a2, a3, a4⟩ := hv
  unfold maxLen at a2
  by_cases hl : l = []
  · subst hl
    clear a3 a4
    have hz : bad [] = -1 := bad_none (by simp) (fun i hi => by simp at hi)
    have HZ := hid hz
    clear hz
    go_enter Try.func29, Try.ntmps29
    go_wp2
    go_loop [13] (fun i => i = .int .i64 0) (fun _ => 0)
    case atStart => rfl
    case round =>
      subst hrel
      go_wp2
      go_ret
      exact ⟨by rw [HZ.out]; rfl, Below.refl _ _⟩
  · obtain ⟨b, off, rfl, hb, hc⟩ := a4 hl
    have HC := hid hc
    clear a3 a4 hc hl
    by_cases h40 : 40 < l.length
    · have hmx : max (40 : Int) 0 = 40 := rfl
      have hq : (40 : Int) < (l.length : Int) := by omega
      have hq2 : ¬ (l.length : Int) ≤ 40 := by omega
      have hd9 : decide ((40 : Int) < (l.length : Int)) = true := by simp; omega
      go_enter Try.func29, Try.ntmps29
      go_wp2
      go_loopw [13] (fun i wr => ∃ k : Nat, k ≤ 40 ∧ i = .int .i64 k ∧ Fine l l.length k ∧ Below w.heap.size w wr) (fun i _ => 40 - (intOf i).toNat)
      case atStart => exact ⟨0, by omega, rfl, fine_zero _ _, Below.refl _ _⟩
      case round =>
        obtain ⟨k, hk, rfl, hF, hbel⟩ := hrel
        have HF := hid hF
        have hsz := hbel.size
        clear hF
        by_cases hlt : k < 40
        · obtain ⟨c0, c1, c2⟩ := (HC.out k (by omega)).below hbel hb
          obtain ⟨x, hx⟩ : ∃ x, l.getD k zInst = x := ⟨_, rfl⟩
          have HX := hid hx
          rw [hx] at c0 c1 c2
          clear hx
          have hd4 : decide ((k : Int) < (40 : Int)) = true := by simp; omega
          go_wp2_with fail
          refine (judge_calls x _ _).mono ?_
          rintro e w2 ⟨rfl, hb2⟩
          have HB2 := hid (below_next (hbel.alloc (by omega) _) hb2 (by simp; omega))
          clear hb2 c0 c1 c2
          obtain ⟨g, hg⟩ : ∃ g, good x l.length = g := ⟨_, rfl⟩
          rw [hg]
          have HG := hid (show good (l.getD k zInst) l.length = g by rw [HX.out]; exact hg)
          clear hg
          generalize jumps x = j
          cases g
          · have HE := hid (bad_at (by omega) (by omega) HF.out HG.out)
            go_wp2
            go_ret
            exact ⟨by rw [HE.out]; rfl, HB2.out⟩
          · go_wp2
            go_roundw
            case rel => exact ⟨k + 1, by omega, by go_num, HF.out.step HG.out, HB2.out⟩
            case measure => simp [intOf]; omega
        · have hd4 : decide ((k : Int) < (40 : Int)) = false := by simp; omega
          obtain rfl : k = 40 := by omega
          have HE := hid (bad_great h40 HF.out)
          go_wp2
          go_ret
          exact ⟨by rw [HE.out]; rfl, hbel⟩
    · have hq : ¬ (40 : Int) < (l.length : Int) := by omega
      have hq2 : (l.length : Int) ≤ 40 := by omega
      have hd9 : decide ((40 : Int) < (l.length : Int)) = false := by simp; omega
      go_enter Try.func29, Try.ntmps29
      go_wp2
      go_loopw [13] (fun i wr => ∃ k : Nat, k ≤ l.length ∧ i = .int .i64 k ∧ Fine l l.length k ∧ Below w.heap.size w wr) (fun i _ => l.length - (intOf i).toNat)
      case atStart => exact ⟨0, by omega, rfl, fine_zero _ _, Below.refl _ _⟩
      case round =>
        obtain ⟨k, hk, rfl, hF, hbel⟩ := hrel
        have HF := hid hF
        have hsz := hbel.size
        clear hF
        by_cases hlt : k < l.length
        · obtain ⟨c0, c1, c2⟩ := (HC.out k (by omega)).below hbel hb
          obtain ⟨x, hx⟩ : ∃ x, l.getD k zInst = x := ⟨_, rfl⟩
          have HX := hid hx
          rw [hx] at c0 c1 c2
          clear hx
          have hd4 : decide ((k : Int) < (l.length : Int)) = true := by simp; omega
          go_wp2_with fail
          refine (judge_calls x _ _).mono ?_
          rintro e w2 ⟨rfl, hb2⟩
          have HB2 := hid (below_next (hbel.alloc (by omega) _) hb2 (by simp; omega))
          clear hb2 c0 c1 c2
          obtain ⟨g, hg⟩ : ∃ g, good x l.length = g := ⟨_, rfl⟩
          rw [hg]
          have HG := hid (show good (l.getD k zInst) l.length = g by rw [HX.out]; exact hg)
          clear hg
          generalize jumps x = j
          cases g
          · have HE := hid (bad_at (by omega) (by omega) HF.out HG.out)
            go_wp2
            go_ret
            exact ⟨by rw [HE.out]; rfl, HB2.out⟩
          · go_wp2
            go_roundw
            case rel => exact ⟨k + 1, by omega, by go_num, HF.out.step HG.out, HB2.out⟩
            case measure => simp [intOf]; omega
        · have hd4 : decide ((k : Int) < (l.length : Int)) = false := by simp; omega
          obtain rfl : k = l.length := by omega
          have HE := hid (bad_none (by omega) HF.out)
          go_wp2
          go_ret
          exact ⟨by rw [HE.out]; rfl, hbel⟩

theorem may_any (v : Value) (l : List Inst) (w : World) (hv : Co w v l) :
    Calls Try.prog 23 #[v] w fun e w' => e = .returned (.bool (decide (bad l < 0))) ∧ Below w.heap.size w w' := by
  go_enter Try.func23, Try.ntmps23
  go_wp2_with fail
  refine (bad_any v l w hv).mono ?_
  rintro e w2 ⟨rfl, hb2⟩
  have HB2 := hid hb2
  go_wp2
  go_ret
  exact ⟨rfl, HB2.out⟩

set_option maxHeartbeats 1000000 in
theorem refBad_any (v : Value) (l : List Inst) (w : World) (hv : Co w v l) :
    Calls Try.prog 26 #[v] w fun e w' => e = .returned (.int .i64 (bad l)) ∧ Below w.heap.size w w' := by
  obtain ⟨ao, ca, rfl, a1, a2, a3, a4⟩ := hv
  have HC := hid a4
  unfold maxLen at a2
  clear a3 a4
  go_enter Try.func26, Try.ntmps26
  go_wp2
  go_loopw [3] (fun i wr => ∃ k : Nat, k ≤ l.length ∧ k ≤ 40 ∧ i = .int .i64 k ∧ Fine l l.length k ∧ Below w.heap.size w wr) (fun i _ => l.length - (intOf i).toNat)
  case atStart => exact ⟨0, by omega, by omega, rfl, fine_zero _ _, Below.refl _ _⟩
  case round =>
    obtain ⟨k, hk, hk4, rfl, hF, hbel⟩ := hrel
    have HF := hid hF
    have hsz := hbel.size
    clear hF
    by_cases hlt : k < l.length
    · have hd4 : decide ((k : Int) < (l.length : Int)) = true := by simp; omega
      by_cases h40 : k < 40
      · have hd5 : decide ((k : Int) < 40) = true := by simp; omega
        obtain ⟨b, off, rfl, hb, hc⟩ := HC.out (by intro e; rw [e] at hlt; simp at hlt)
        obtain ⟨c0, c1, c2⟩ := (hc k hlt).below hbel hb
        obtain ⟨x, hx⟩ : ∃ x, l.getD k zInst = x := ⟨_, rfl⟩
        have HX := hid hx
        rw [hx] at c0 c1 c2
        clear hx hc
        go_wp2_with fail
        refine (good_calls x _ _).mono ?_
        rintro e w2 ⟨rfl, hb2⟩
        have HB2 := hid (below_next hbel hb2 (by omega))
        clear hb2 c0 c1 c2
        obtain ⟨g, hg⟩ : ∃ g, good x l.length = g := ⟨_, rfl⟩
        rw [hg]
        have HG := hid (show good (l.getD k zInst) l.length = g by rw [HX.out]; exact hg)
        clear hg
        cases g
        · have HE := hid (bad_at (by omega) (by omega) HF.out HG.out)
          go_wp2
          go_ret
          exact ⟨by rw [HE.out]; rfl, HB2.out⟩
        · go_wp2
          go_roundw
          case rel => exact ⟨k + 1, by omega, by omega, by go_num, HF.out.step HG.out, HB2.out⟩
          case measure => simp [intOf]; omega
      · obtain rfl : k = 40 := by omega
        have hd6 : decide ((40 : Int) < (l.length : Int)) = true := by simp; omega
        have HE := hid (bad_great (by omega) HF.out)
        go_wp2
        go_ret
        exact ⟨by rw [HE.out]; rfl, hbel⟩
    · have hd4 : decide ((k : Int) < (l.length : Int)) = false := by simp; omega
      obtain rfl : k = l.length := by omega
      have hd6 : decide ((40 : Int) < (l.length : Int)) = false := by simp; omega
      have HE := hid (bad_none (by omega) HF.out)
      go_wp2
      go_ret
      exact ⟨by rw [HE.out]; rfl, hbel⟩
end Go.Proofs.Ytjmlanmdlpooaaa
