/- Slices of whole numbers: how they read; what SameInts and OverInts do, and tally.Tally's All. -/
import Derived.Test.YtpaglpcponkabaaTal
import Derived.Room.AppendFits
import Derived.Laws.AppendOwnNone
namespace Go.Proofs.Ytpaglpcponkabaa
open Go.RowKit
set_option linter.unusedVariables false

/-- Whole numbers as cells. -/
def ict (l : List Int) : List Value := l.map (Value.int .i64)
theorem ict_length (l : List Int) : (ict l).length = l.length := by simp [ict]
theorem ict_append (a b : List Int) : ict (a ++ b) = ict a ++ ict b := by simp [ict]
theorem ict_at {l : List Int} {j : Nat} (h : j < l.length) : (ict l)[j]? = some (.int .i64 (l.getD j 0)) := by
  simp [ict, List.getElem?_eq_getElem h, List.getD]

/-- v is a slice of whole numbers that reads as l in the world w. -/
def Is (w : World) (v : Value) (l : List Int) : Prop :=
  ∃ ao cap, v = .slice ao l.length cap ∧ l.length ≤ cap ∧ cap ≤ maxLen ∧ (ao = none → l = [] ∧ cap = 0) ∧
    (l ≠ [] → ∃ b off, ao = some ⟨b, off, none⟩ ∧ b < w.heap.size ∧ ∀ j, j < l.length → w.cell? ⟨b, off + j, none⟩ = some (.int .i64 (l.getD j 0)))
theorem Is.below {w w' : World} {v : Value} {l : List Int} (h : Is w v l) (hb : Below w.heap.size w w') : Is w' v l := by
  obtain ⟨ao, cap, rfl, h1, h2, h3, h4⟩ := h
  refine ⟨ao, cap, rfl, h1, h2, h3, fun hl => ?_⟩
  obtain ⟨b, off, rfl, hlt, hc⟩ := h4 hl
  exact ⟨b, off, rfl, Nat.lt_of_lt_of_le hlt hb.size, fun j hj => (hb.cell (p := ⟨b, off + j, none⟩) hlt).trans (hc j hj)⟩
/-- What the call owns reads as it must. -/
theorem Is.own {w : World} {base g n cap : Nat} {l : List Int} (h : w.ownsRow base 3 1 (.slice (some ⟨g, 0, none⟩) n cap) n (ict l)) : Is w (.slice (some ⟨g, 0, none⟩) n cap) l := by
  have hn : l.length = n := by have := h.1; rw [ict_length] at this; omega
  subst hn
  have hcell := fun j (hj : j < l.length) => (h.cellAt j (by omega)).trans (ict_at hj)
  rcases h.2 with ⟨h', _⟩ | ⟨g', cap', cur, h', hb, hg, hnc, hm, _, _⟩
  · cases h'
  · simp only [Value.slice.injEq, Option.some.injEq, Addr.mk.injEq, and_true, true_and] at h'
    obtain ⟨rfl, rfl⟩ := h'
    exact ⟨some ⟨g, 0, none⟩, cap, rfl, hnc, hm, fun e => (by cases e), fun _ => ⟨g, 0, rfl, (Array.getElem?_eq_some_iff.1 hg).1, fun j hj => by rw [Nat.zero_add]; exact hcell j hj⟩⟩
/-- The counters of a tally, sliced. -/
theorem Is.tl {w : World} {b : Nat} {c : List Int} (h : Tl w b c) : Is w (.slice (some ⟨b, 0, none⟩) 8 8) c := by
  obtain ⟨h1, h2, h3⟩ := h
  exact ⟨some ⟨b, 0, none⟩, 8, by rw [h1], by omega, by unfold maxLen; omega, fun e => (by cases e), fun _ => ⟨b, 0, rfl, h2, fun j hj => by rw [Nat.zero_add]; exact (h3 j (by omega)).1⟩⟩

theorem Try.info3 : (Try.prog.info? 3).map (fun i => (i.zero, i.size, i.bytes)) = some (some (.int .i64 0), 1, 8) := by kernel_rfl

theorem tl_take {c : List Int} (hc : c.length = 8) {k : Nat} (hk : k < 8) : ict (c.take (k + 1)) = ict (c.take k) ++ [.int .i64 (c.getD k 0)] := by
  rw [List.take_succ_eq_append_getElem (by omega), ict_append]
  simp [ict, List.getD, List.getElem?_eq_getElem (show k < c.length by omega)]

theorem all_nil (w : World) : Calls Try.prog 13 #[.pointer none] w fun e w' => e = .returned (.slice none 0 0) ∧ w = w' := by
  go_enter Try.func13, Try.ntmps13
  go_wp2
  go_ret
  exact ⟨rfl, rfl⟩

set_option maxHeartbeats 400000 in
theorem all_any (b : Nat) (c : List Int) (w : World) (hc : Tl w b c) : Calls Try.prog 13 #[.pointer (some ⟨b, 0, none⟩)] w fun e w' => e = .returned (.slice (some ⟨w.heap.size, 0, none⟩) 8 8) ∧ w'.ownsRow w.heap.size 3 1 (.slice (some ⟨w.heap.size, 0, none⟩) 8 8) 8 (ict c) ∧ Below w.heap.size w w' := by
  have HC := hid hc
  obtain ⟨hl, hb, -⟩ := hc
  have HL := hid hl
  clear hl
  obtain ⟨i0, hi, hz0, hz1, hz2⟩ := info_parts Try.info3
  go_enter Try.func13, Try.ntmps13
  go_wp2_with (at_make; refine wpList_make_own _ rfl _ _ 33 rfl w.heap.size 3 i0 (.int .i64 0) 1 Try.underlying33 hi hz0 hz1 .i64 .i64 8 8 rfl rfl (by omega) (by rw [hz2]; omega) (by unfold maxLen; omega) (Nat.le_refl _) ?_; intro w1 ho1 hg1)
  have hb1 : Below w.heap.size w w1 := (Below.refl _ _).grown hg1 (Nat.le_refl _) (by intro q hq; cases hq)
  clear hg1
  go_loopw [3, 8] (fun v i wr => ∃ m : Nat, m ≤ 8 ∧ i = .int .i64 m ∧ v = .slice (some ⟨w.heap.size, 0, none⟩) m 8 ∧ wr.ownsRow w.heap.size 3 1 (.slice (some ⟨w.heap.size, 0, none⟩) m 8) m (ict (c.take m)) ∧ Below w.heap.size w wr)
    (fun _ i _ => 8 - (intOf i).toNat)
  case atStart => exact ⟨0, by omega, rfl, rfl, by simpa [ict] using ho1, hb1⟩
  case round =>
    obtain ⟨m, hm8, rfl, rfl, ho, hbel⟩ := hrel
    by_cases hlt : m < 8
    · have hsz := hbel.size
      have HG := hid (HC.out.below hbel)
      go_wp2_with fail
      refine (get_any b m c wr HG.out).mono ?_
      rintro e w2 ⟨rfl, rfl⟩
      rw [vl_at m hlt]
      obtain ⟨x, hx⟩ : ∃ x, c.getD m 0 = x := ⟨_, rfl⟩
      rw [hx]
      have HX := hid hx
      clear hx
      go_wp2_with (at_builtin; refine wpList_append_fits _ rfl _ _ 33 rfl w.heap.size 3 i0 1 Try.underlying33 hi hz1 w.heap.size m 8 _ rfl (ho.alloc _) ⟨wr.heap.size, 0, none⟩ 1 1 [.int .i64 x] rfl rfl (cell_one_new _ _ _) (by intro u hu; simp at hu; subst hu; rfl) (by omega) ?_; intro w2 ho2 hg2)
      have hbel2 : Below w.heap.size w w2 := (hbel.alloc (by omega) _).grown hg2 (by simp; omega) (by intro q hq; cases hq; exact Nat.le_refl _)
      have ho3 : w2.ownsRow w.heap.size 3 1 (.slice (some ⟨w.heap.size, 0, none⟩) (m+1) 8) (m+1) (ict (c.take (m+1))) := by
        rw [tl_take HL.out hlt, HX.out]; exact ho2
      clear ho2 hg2 ho hbel HG
      go_roundw
      case rel => exact ⟨m+1, by omega, by go_num, rfl, ho3, hbel2⟩
      case measure => simp [intOf]; omega
    · obtain rfl : m = 8 := by omega
      go_wp2
      go_ret
      rw [List.take_of_length_le (by rw [HL.out]; omega)] at ho
      exact ⟨rfl, ho, hbel⟩
end Go.Proofs.Ytpaglpcponkabaa
