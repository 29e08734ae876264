/- GreatJob: it answers, and nothing old turns. -/
import Derived.Test.YtjmlanmdlpooaaaJJob
namespace Go.Proofs.Ytjmlanmdlpooaaa
open Go.RowKit
set_option linter.unusedVariables false

/-- Some truth value is answered. -/
def Says (e : Ending) : Prop := ∃ g, e = .returned (.bool g)
set_option maxHeartbeats 4000000 in
theorem greatJob_any (j : JobV) (so mo co ro ko : Option Addr) (sc mc cc rc kc : Nat) (w : World) (h : JobIs w so mo co ro ko sc mc cc rc kc j) :
    Calls Try.prog 6 #[.agg #[.slice so j.splits.length sc, .int .i64 j.parts, .slice mo j.mp.length mc, .slice co j.cb.length cc, .slice ro j.rd.length rc, .int .i64 j.chunk, .int .i64 j.window, .int .i64 j.fuel, .slice ko j.marks.length kc]] w fun e w' => Says e ∧ Below w.heap.size w w' := by
  have HJ := hid (h.below (alloc_one w (.cells #[.slice so j.splits.length sc, .int .i64 j.parts, .slice mo j.mp.length mc, .slice co j.cb.length cc, .slice ro j.rd.length rc, .int .i64 j.chunk, .int .i64 j.window, .int .i64 j.fuel, .slice ko j.marks.length kc] 26)))
  have HA := hid (At.new w #[.slice so j.splits.length sc, .int .i64 j.parts, .slice mo j.mp.length mc, .slice co j.cb.length cc, .slice ro j.rd.length rc, .int .i64 j.chunk, .int .i64 j.window, .int .i64 j.fuel, .slice ko j.marks.length kc] 26)
  have HB := hid (alloc_one w (.cells #[.slice so j.splits.length sc, .int .i64 j.parts, .slice mo j.mp.length mc, .slice co j.cb.length cc, .slice ro j.rd.length rc, .int .i64 j.chunk, .int .i64 j.window, .int .i64 j.fuel, .slice ko j.marks.length kc] 26))
  have hsl : j.splits.length ≤ 9223372036854775807 := by
    obtain ⟨ao, ca, e, a1, a2, -⟩ := h.sp.slice
    unfold maxLen at a2
    omega
  clear h
  go_enter Try.func6, Try.ntmps6
  go_wp2
  generalize w.alloc (.cells #[.slice so j.splits.length sc, .int .i64 j.parts, .slice mo j.mp.length mc, .slice co j.cb.length cc, .slice ro j.rd.length rc, .int .i64 j.chunk, .int .i64 j.window, .int .i64 j.fuel, .slice ko j.marks.length kc] 26) = w0 at HJ HA HB ⊢
  have c0 := HA.out 0 _ rfl
  have c2 := HA.out 2 _ rfl
  have c3 := HA.out 3 _ rfl
  have c4 := HA.out 4 _ rfl
  have c8 := HA.out 8 _ rfl
  go_loop [3] (fun i => ∃ k : Nat, k ≤ j.splits.length ∧ i = .int .i64 k) (fun i => j.splits.length - (intOf i).toNat)
  case atStart => exact ⟨0, by omega, rfl⟩
  case round =>
    obtain ⟨k, hk, rfl⟩ := hrel
    by_cases hgo : k < j.splits.length ∧ j.splits.length ≤ 8
    · obtain ⟨hlt, h8⟩ := hgo
      obtain ⟨b, off, l, xo, xc, hl, rfl, hb, x1, hp⟩ := HJ.out.sp.cell hlt
      have HP := hid hp
      clear hl hp
      have hdk : decide ((k : Int) < (j.splits.length : Int)) = true := by simp; omega
      have hd8 : decide ((j.splits.length : Int) ≤ 8) = true := by simp; omega
      go_wp2_with fail
      refine (greatPairs_any _ l 10 _ HP.out).mono ?_
      rintro e wx ⟨⟨g, rfl, -⟩, hwx⟩
      subst hwx
      cases g
      · go_wp2
        go_round
        case rel => exact ⟨k + 1, by omega, by go_num⟩
        case measure => simp [intOf]; omega
      · go_wp2
        go_ret
        exact ⟨⟨_, rfl⟩, HB.out⟩
    · by_cases h8 : 8 < j.splits.length
      · have hd8 : decide ((8 : Int) < (j.splits.length : Int)) = true := by simp; omega
        have hd9 : decide ((j.splits.length : Int) ≤ 8) = false := by simp; omega
        by_cases hlt : k < j.splits.length
        · have hdk : decide ((k : Int) < (j.splits.length : Int)) = true := by simp; omega
          go_wp2
          go_ret
          exact ⟨⟨_, rfl⟩, HB.out⟩
        · have hdk : decide ((k : Int) < (j.splits.length : Int)) = false := by simp; omega
          go_wp2
          go_ret
          exact ⟨⟨_, rfl⟩, HB.out⟩
      · have hd8 : decide ((8 : Int) < (j.splits.length : Int)) = false := by simp; omega
        obtain rfl : k = j.splits.length := by omega
        have hdk : decide ((j.splits.length : Int) < (j.splits.length : Int)) = false := by simp
        clear hgo
        by_cases hm : 10 < j.marks.length
        · have hdm : decide ((10 : Int) < (j.marks.length : Int)) = true := by simp; omega
          go_wp2
          go_ret
          exact ⟨⟨_, rfl⟩, HB.out⟩
        · have hdm : decide ((10 : Int) < (j.marks.length : Int)) = false := by simp; omega
          go_wp2_with fail
          refine (great_any _ j.mp _ HJ.out.mp).mono ?_
          rintro e wx ⟨⟨g, rfl, -⟩, hwx⟩
          subst hwx
          cases g
          · skip
            go_wp2_with fail
            refine (great_any _ j.cb _ HJ.out.cb).mono ?_
            rintro e wx ⟨⟨g, rfl, -⟩, hwx⟩
            subst hwx
            cases g
            · skip
              go_wp2_with fail
              refine (great_any _ j.rd _ HJ.out.rd).mono ?_
              rintro e wx ⟨⟨g, rfl, -⟩, hwx⟩
              subst hwx
              cases g
              · go_wp2
                go_ret
                exact ⟨⟨_, rfl⟩, HB.out⟩
              · go_wp2
                go_ret
                exact ⟨⟨_, rfl⟩, HB.out⟩
            · go_wp2
              go_ret
              exact ⟨⟨_, rfl⟩, HB.out⟩
          · go_wp2
            go_ret
            exact ⟨⟨_, rfl⟩, HB.out⟩
end Go.Proofs.Ytjmlanmdlpooaaa
