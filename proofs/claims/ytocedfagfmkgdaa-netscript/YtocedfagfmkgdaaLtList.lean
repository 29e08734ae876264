/- List: a row of copies, whose lists share no memory. -/
import Derived.Test.YtocedfagfmkgdaaLtOps
namespace Go.Proofs.Ytocedfagfmkgdaa
open Go.RowKit
set_option linter.unusedVariables false

/-- A row that is owned, its letters' lists too, and these share no memory. -/
structure LRowA (B : Nat) (xs : List LetX) (u : Value) (w : World) : Prop where
  row : LRow B xs u w
  apart : xs.Pairwise LetX.Apart
theorem LRowA.below {B : Nat} {xs : List LetX} {u : Value} {w w' : World} (h : LRowA B xs u w) (hb : Below w.heap.size w w') : LRowA B xs u w' := ⟨h.row.below hb, h.apart⟩
/-- One more, whose lists are new. -/
theorem LRowA.push {B : Nat} {xs : List LetX} {x : LetX} {u u' : Value} {wr w w' : World} (h0 : LRowA B xs u wr) (hb : Below wr.heap.size wr w) (hx : x.Own wr.heap.size w) (hB : B ≤ wr.heap.size) (ho : w'.ownsRow B 36 12 u' (xs.length + 1) (fl encL xs ++ encL x)) (hg : w.grownBy w' u.ownBlock) : LRowA B (xs ++ [x]) u' w' := by
  refine ⟨(h0.row.below hb).push (hx.low hB) ho hg, ?_⟩
  rw [List.pairwise_append]
  refine ⟨h0.apart, List.pairwise_singleton _ _, fun y hy z hz => ?_⟩
  rw [List.mem_singleton.1 hz]
  have hy1 := h0.row.own y hy
  refine ⟨fun g hg hq => ?_, fun g hg hq => ?_⟩
  · have e1 := (hy1.set.lt g hg).2
    have e2 := (hx.set.lt g hq).1
    omega
  · have e1 := (hy1.prs.lt g hg).2
    have e2 := (hx.prs.lt g hq).1
    omega
theorem list_nil (w : World) : Calls Try.prog 16 #[.pointer none] w fun e w' => e = .returned (.slice none 0 0) ∧ w = w' := by
  go_enter Try.func16, Try.ntmps16
  go_wp2
  go_ret
  exact ⟨rfl, rfl⟩
theorem plain_step {xs ys : List LetX} {k : Nat} {x y : LetX} (h : plain ys = (plain xs).take k) (hx : xs[k]? = some x) (hy : y.r = x.r) : plain (ys ++ [y]) = (plain xs).take (k + 1) := by
  obtain ⟨hk, e⟩ := List.getElem?_eq_some_iff.1 (plain_at hx)
  rw [plain_snoc, h, hy, List.take_succ_eq_append_getElem hk, e]
set_option maxHeartbeats 8000000 in
set_option maxRecDepth 100000 in
theorem list_net (B b : Nat) (u : Value) (xs : List LetX) (w : World) (h : Nt B b u xs w) :
    Calls Try.prog 16 #[.pointer (some ⟨b, 0, none⟩)] w fun e w' => ∃ v ys, e = .returned v ∧ plain ys = plain xs ∧ LRowA w.heap.size ys v w' ∧ Below w.heap.size w w' := by
  obtain ⟨i0, hi, hz0, hz1, hz2⟩ := info_parts Try.infoL
  obtain ⟨ao, cap, rfl⟩ := h.slice
  have H := hid h
  have c0 := h.c0
  have hfew := h.few
  have hbw := h.lt
  have hsl := h.row.lets.slice
  clear h hsl
  go_enter Try.func16, Try.ntmps16
  go_wp2_with (at_make; refine wpList_make_own _ rfl _ _ 28 rfl w.heap.size 36 i0 _ 12 Try.underlying28 hi hz0 hz1 .i64 .i64 _ xs.length rfl rfl (by omega) (by rw [hz2]; omega) (by unfold maxLen; omega) (Nat.le_refl _) ?_; intro w1 ho1 hg1; have HB1 := hid (below_none hg1); have c1 := (H.out.below HB1.out).c0)
  have H0 := hid (show LRowA w.heap.size [] (.slice (some ⟨w.heap.size, 0, none⟩) 0 xs.length) w1 from ⟨⟨ho1, fun x hx => by simp at hx⟩, List.Pairwise.nil⟩)
  clear ho1 hg1 c0 c1
  go_loopw [3, 19] (fun u i wr => ∃ (k : Nat) (ys : List LetX), i = .int .i64 k ∧ k ≤ xs.length ∧ ys.length = k ∧ plain ys = (plain xs).take k ∧ LRowA w.heap.size ys u wr ∧ Below w.heap.size w wr) (fun _ i _ => xs.length - (intOf i).toNat)
  case atStart => exact ⟨0, [], rfl, by omega, rfl, rfl, H0.out, HB1.out⟩
  case round =>
    obtain ⟨k, ys, rfl, hk, hyl, hpl, hrw, hbr⟩ := hrel
    have HP := hid hpl
    have HR := hid hrw
    have HYL := hid hyl
    have hlow := hbr.size
    clear hpl hrw H0 HB1
    by_cases hlt : k < xs.length
    · have d5 : decide ((k : Int) < (xs.length : Int)) = true := by simp; omega
      obtain ⟨p, po1, x, hx, rfl, hp, hix, q0, q1, q2, q3, q4, q5, q6, q7, q8, q9, qa, qb⟩ := (H.out.below hbr).row.lets.cell hlt
      have HX := hid hx
      have HI := hid hix
      have hk2 : (k : Int) < (xs.length : Int) := by omega
      have hy128 : ys.length ≤ 127 := by omega
      clear hx hix hyl
      go_wp2_with fail
      refine (copied_any x _ (HI.out.below (alloc_one _ _)) (H.out.sm x (List.mem_of_getElem? HX.out))).mono ?_
      rintro e w3 ⟨y, rfl, hy, hown, hb3⟩
      have HY := hid hy
      have HB3 := hid (below_then (alloc_one wr (.cells #[.int .i64 x.r.from_, .int .i64 x.r.to_, .int .i64 x.r.kind, .int .i64 x.r.split, .int .i64 x.r.attempt, .int .i64 x.r.part, .int .i64 x.r.seq, .int .i64 x.r.next, .int .i64 x.r.epoch, .int .i64 x.r.reason, .slice x.so x.r.set.length x.sc, .slice x.po x.r.prs.length x.pc] 36)) hb3 (alloc_one wr (.cells #[.int .i64 x.r.from_, .int .i64 x.r.to_, .int .i64 x.r.kind, .int .i64 x.r.split, .int .i64 x.r.attempt, .int .i64 x.r.part, .int .i64 x.r.seq, .int .i64 x.r.next, .int .i64 x.r.epoch, .int .i64 x.r.reason, .slice x.so x.r.set.length x.sc, .slice x.po x.r.prs.length x.pc] 36)).size)
      have HB4 := hid (below_then HB3.out (alloc_one w3 (.cells #[.int .i64 y.r.from_, .int .i64 y.r.to_, .int .i64 y.r.kind, .int .i64 y.r.split, .int .i64 y.r.attempt, .int .i64 y.r.part, .int .i64 y.r.seq, .int .i64 y.r.next, .int .i64 y.r.epoch, .int .i64 y.r.reason, .slice y.so y.r.set.length y.sc, .slice y.po y.r.prs.length y.pc] 36)) HB3.out.size)
      have HO4 := hid ((hown.below (alloc_one w3 (.cells #[.int .i64 y.r.from_, .int .i64 y.r.to_, .int .i64 y.r.kind, .int .i64 y.r.split, .int .i64 y.r.attempt, .int .i64 y.r.part, .int .i64 y.r.seq, .int .i64 y.r.next, .int .i64 y.r.epoch, .int .i64 y.r.reason, .slice y.so y.r.set.length y.sc, .slice y.po y.r.prs.length y.pc] 36))).low (C := wr.heap.size) (by simp))
      have ho4 : (w3.alloc (.cells #[.int .i64 y.r.from_, .int .i64 y.r.to_, .int .i64 y.r.kind, .int .i64 y.r.split, .int .i64 y.r.attempt, .int .i64 y.r.part, .int .i64 y.r.seq, .int .i64 y.r.next, .int .i64 y.r.epoch, .int .i64 y.r.reason, .slice y.so y.r.set.length y.sc, .slice y.po y.r.prs.length y.pc] 36)).ownsRow w.heap.size 36 12 u3 ys.length (fl encL ys) := (HR.out.below HB4.out).row.row
      have hb4 : w.heap.size ≤ (w3.alloc (.cells #[.int .i64 y.r.from_, .int .i64 y.r.to_, .int .i64 y.r.kind, .int .i64 y.r.split, .int .i64 y.r.attempt, .int .i64 y.r.part, .int .i64 y.r.seq, .int .i64 y.r.next, .int .i64 y.r.epoch, .int .i64 y.r.reason, .slice y.so y.r.set.length y.sc, .slice y.po y.r.prs.length y.pc] 36)).heap.size := Nat.le_trans hlow HB4.out.size
      have HBW := hid (below_then hbr HB4.out hlow)
      clear hy hown hb3 q0 q1 q2 q3 q4 q5 q6 q7 q8 q9 qa qb
      go_wp2_with (at_builtin; refine wpList_append_own _ rfl _ _ 28 rfl w.heap.size 36 i0 _ 12 128 Try.underlying28 hi hz0 hz1 hz2 rfl (by decide) _ ys.length (fl encL ys) rfl ho4 ⟨w3.heap.size, 0, none⟩ 1 1 (encL y) rfl rfl (new_cells w3 #[.int .i64 y.r.from_, .int .i64 y.r.to_, .int .i64 y.r.kind, .int .i64 y.r.split, .int .i64 y.r.attempt, .int .i64 y.r.part, .int .i64 y.r.seq, .int .i64 y.r.next, .int .i64 y.r.epoch, .int .i64 y.r.reason, .slice y.so y.r.set.length y.sc, .slice y.po y.r.prs.length y.pc] 36) (encL_one y) (by unfold maxLen; omega) (by omega) hb4 ?_; intro v5 w5 ho5 hg5 _)
      have HR5 := hid (HR.out.push HB4.out HO4.out hlow ho5 hg5)
      have HB5 := hid (HBW.out.grown hg5 HBW.out.size (fun q hq => (ho4.lt q hq).1))
      have HE := hid (plain_step HP.out HX.out HY.out)
      clear ho5 hg5 ho4
      go_wp2
      go_roundw
      case rel => exact ⟨k + 1, ys ++ [y], by go_num, by omega, by rw [List.length_append, HYL.out]; rfl, HE.out, HR5.out, HB5.out⟩
      case measure => simp [intOf]; omega
    · obtain rfl : k = xs.length := by omega
      have d5 : decide ((xs.length : Int) < (xs.length : Int)) = false := by simp
      clear hyl
      go_wp2
      go_ret
      exact ⟨_, ys, rfl, by rw [HP.out, ← plain_len xs, List.take_length], HR.out, hbr⟩
end Go.Proofs.Ytocedfagfmkgdaa
