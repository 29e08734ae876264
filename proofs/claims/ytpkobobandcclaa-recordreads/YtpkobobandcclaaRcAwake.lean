/- awake of chapter 15's statements: it is true. -/
import Derived.Test.YtpkobobandcclaaRcLaw
namespace Go.Proofs.Ytpkobobandcclaa
open Go.RowKit
set_option linter.unusedVariables false

def lifeV : RecV := ⟨6, 0, 0, 0, 0, [], []⟩
def zeroV : RecV := ⟨0, 0, 0, 0, 0, [], []⟩
def lifeX : RecX := ⟨lifeV, none, 0, none, 0⟩
theorem may_life : mayR lifeV = true := by decide
theorem may_zero : mayR zeroV = false := by decide
theorem lay_life : layL [lifeV] = layR lifeV := by simp [layL, flatR, may_life]
theorem life_is (w : World) : lifeX.Is w := ⟨Is.nil w, Reads.nil w⟩
theorem zero_is (w : World) : RecIs w none 0 none 0 zeroV := ⟨Is.nil w, Reads.nil w⟩
theorem life_len : (layR lifeV).length = 64 := by decide
theorem life_byt : Byt (layR lifeV ++ [0, 0, 9]) := Byt.append (Byt.layR _) (by intro x hx; simp at hx; omega)
theorem life_begins : Begins (layR lifeV ++ [0, 0, 9]) [lifeV] 64 := by
  have h := begins_cons (b := [0, 0, 9]) (rs := []) (n := 0) may_life ⟨fun r h => by simp at h, rfl, [0, 0, 9], by simp [flatR], has_short (by simp)⟩
  rw [life_len] at h
  exact h
theorem life_7 : (layR lifeV).getD 7 0 = 56 := by decide
theorem life_15 : (layR lifeV).getD 15 0 = 6 := by decide
set_option maxHeartbeats 16000000 in
theorem awake_any (W : World) : Calls Try.prog 8 #[] W fun e w' => e = .returned (.bool true) ∧ Below W.heap.size W w' := by
  have HA := hid (alloc_one W (.cells #[.int .i64 6, .int .i64 0, .int .i64 0, .int .i64 0, .int .i64 0, .slice none 0 0, .slice none 0 0] 33))
  have HR := hid (Recs.made lifeX W (life_is W))
  obtain ⟨i0, hi, hz0, hz1, hz2⟩ := info_parts Try.info5
  go_enter Try.func8, Try.ntmps8
  go_wp2_with fail
  refine (recLay_any _ [lifeV] _ HR.out (by decide)).mono ?_
  rintro e w1 ⟨u1, rfl, ho1, hb1⟩
  rw [lay_life] at ho1
  have HB1 := hid (below_then HA.out hb1 HA.out.size)
  have HO1 := hid ho1
  obtain ⟨bo, bc, hv⟩ := ho1.form
  rw [life_len] at hv
  subst hv
  obtain ⟨b, off, rfl⟩ : ∃ b off, bo = some ⟨b, off, none⟩ := by
    obtain ⟨ao, cap', e, _, _, _, h4⟩ := HO1.out.bs
    cases e
    obtain ⟨b, off, e, _⟩ := h4 (by intro e; have := life_len; rw [e] at this; simp at this)
    exact ⟨b, off, e⟩
  obtain ⟨hnone, hnews, -⟩ := Bs.news2 HO1.out.bs
  have hcl : (cel (layR lifeV)).length = 64 * 1 := by rw [cel_length, life_len]
  clear ho1 hb1
  go_wp2_with (first | (at_builtin; refine wpList_append_own_any _ rfl _ _ 25 rfl w1.heap.size 5 i0 (.int .u8 0) 1 1 Try.underlying25 hi hz0 hz1 hz2 rfl (by decide) _ 0 [] rfl (World.ownsRow_nil _ _ _ _) (some ⟨b, off, none⟩) 64 bc (cel (layR lifeV)) rfl hcl hnone hnews (cel_oneCell _) (by unfold maxLen; omega) (by omega) (Nat.le_refl _) ?_; intro v2 w2 ho2 hg2) | (at_builtin; refine wpList_append_own _ rfl _ _ 25 rfl w1.heap.size 5 i0 (.int .u8 0) 1 1 Try.underlying25 hi hz0 hz1 hz2 rfl (by decide) _ (0 + 64) ([] ++ cel (layR lifeV)) rfl (owns_below ho2 (alloc_one w2 (.cells #[.int .u8 0, .int .u8 0, .int .u8 9] 5))) ⟨w2.heap.size, 0, none⟩ 3 3 [.int .u8 0, .int .u8 0, .int .u8 9] rfl rfl (new_cells w2 #[.int .u8 0, .int .u8 0, .int .u8 9] _) (by intro u hu; simp at hu; rcases hu with rfl | rfl <;> rfl) (by unfold maxLen; omega) (by omega) (by have := hg2.size; simp at this ⊢; omega) ?_; intro v3 w3 ho3 hg3 _))
  have HB2 := hid (below_then HB1.out (below_none hg2) HB1.out.size)
  have hA2 := alloc_one w2 (.cells #[.int .u8 0, .int .u8 0, .int .u8 9] 5)
  have HB3 := hid ((below_then HB2.out hA2 HB2.out.size).grown hg3 (below_then HB2.out hA2 HB2.out.size).size (fun k hk => by have := (ho2.lt k hk).1; have := HB1.out.size; omega))
  have HO3 := hid (show OB w1.heap.size v3 (layR lifeV ++ [0, 0, 9]) w3 by
    unfold OB
    rw [List.length_append, life_len, cel_append]
    exact ho3)
  have HO13 := hid (show OB w1.heap.size (.slice (some ⟨b, off, none⟩) 64 bc) [] w1 ∨ True from .inr trivial)
  have hb1e : ∀ j, j < 64 → w1.cell? ⟨b, off + j, none⟩ = some (.int .u8 ((layR lifeV).getD j 0)) := by
    obtain ⟨ao, cap', e, _, _, _, h4⟩ := HO1.out.bs
    cases e
    obtain ⟨b', off', e, _, hc⟩ := h4 (by intro e; have := life_len; rw [e] at this; simp at this)
    cases e
    intro j hj
    exact hc j (by rw [life_len]; exact hj)
  have hblt : b < w1.heap.size := World.block_lt_of_cell? w1 _ (hb1e 0 (by decide))
  have hB13 : Below w1.heap.size w1 w3 := (below_then (below_none hg2) hA2 (below_none hg2).size).grown hg3 (below_then (below_none hg2) hA2 (below_none hg2).size).size (fun k hk => (ho2.lt k hk).1)
  have hu7 := (hb1e 7 (by decide))
  have hu15 := (hb1e 15 (by decide))
  rw [life_7] at hu7
  rw [life_15] at hu15
  have HU7 := hid ((hB13.cell (p := ⟨b, off + 7, none⟩) hblt).trans hu7)
  have HU15 := hid ((hB13.cell (p := ⟨b, off + 15, none⟩) hblt).trans hu15)
  have hblt3 : b < w3.heap.size := Nat.lt_of_lt_of_le hblt hB13.size
  clear ho2 hg2 ho3 hg3 HO13 hb1e hu7 hu15 hB13 hnews hnone hcl HA HR
  refine (recRead_any v3 _ w3 HO3.out.bs life_byt (by rw [List.length_append, life_len]; simp)).mono ?_
  rintro e w4 ⟨u4, xs, n, rfl, hr4, hbg, hb4⟩
  obtain ⟨hxs, rfl⟩ := begins_unique _ _ _ _ _ hbg life_begins
  have HR4 := hid (show Recs w4 u4 [lifeV] by rw [← hxs]; exact hr4.recs)
  have HB4 := hid (below_then HB3.out hb4 HB3.out.size)
  have e7 : w4.cell? ⟨b, off + 7, none⟩ = some (.int .u8 56) := (hb4.cell (p := ⟨b, off + 7, none⟩) hblt3).trans HU7.out
  have e15 : w4.cell? ⟨b, off + 15, none⟩ = some (.int .u8 6) := (hb4.cell (p := ⟨b, off + 15, none⟩) hblt3).trans HU15.out
  have HB5 := hid (below_then HB4.out (alloc_one w4 (.cells #[.int .i64 6, .int .i64 0, .int .i64 0, .int .i64 0, .int .i64 0, .slice none 0 0, .slice none 0 0] 33)) HB4.out.size)
  have HR5 := hid (Recs.made lifeX w4 (life_is w4))
  have HR6 := hid (HR4.out.below (alloc_one w4 (.cells #[.int .i64 6, .int .i64 0, .int .i64 0, .int .i64 0, .int .i64 0, .slice none 0 0, .slice none 0 0] 33)))
  clear hr4 hbg hb4 hxs HR4
  go_wp2_with fail
  refine (sameRecords_dec _ _ [lifeV] [lifeV] _ HR6.out HR5.out).mono ?_
  rw [sameL_self]
  rintro e w6 ⟨rfl, hb6⟩
  have HB6 := hid (below_then HB5.out hb6 HB5.out.size)
  clear hb6 e7 e15
  go_wp2_with fail
  refine (recMay_any zeroV none 0 none 0 w6 (zero_is w6)).mono ?_
  rw [may_zero]
  rintro e w7 ⟨rfl, hb7⟩
  have HB7 := hid (below_then HB6.out hb7 HB6.out.size)
  go_wp2
  go_ret
  exact ⟨rfl, HB7.out⟩
end Go.Proofs.Ytpkobobandcclaa
