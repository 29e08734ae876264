/- RecordLays: which records may be, and their bytes, are the document's. -/
import Derived.Test.YtpkobobandcclaaRcAwake
import Derived.Test.YtpkobobandcclaaRcRefLays
namespace Go.Proofs.Ytpkobobandcclaa
open Go.RowKit
set_option linter.unusedVariables false

theorem over_nil (w : World) : Calls Try.prog 14 #[.slice none 0 0] w fun e w' => e = .returned (.tuple #[]) ∧ Below w.heap.size w w' := by
  obtain ⟨i0, hi, hz0, hz1, hz2⟩ := info_parts Try.info5
  go_enter Try.func14, Try.ntmps14
  go_wp2
  go_loop [2] (fun i => i = .int .i64 0) (fun _ => 0)
  case atStart => rfl
  case round =>
    subst hrel
    go_wp2_with (at_builtin; refine wpList_append_own _ rfl _ _ 25 rfl w.heap.size 5 i0 (.int .u8 0) 1 1 Try.underlying25 hi hz0 hz1 hz2 rfl (by decide) _ 0 [] rfl ((World.ownsRow_nil _ _ _ _).alloc _) ⟨w.heap.size, 0, none⟩ 1 1 [.int .u8 238] rfl rfl (cell_one_new _ _ _) (by intro u hu; simp at hu; subst hu; rfl) (by unfold maxLen; omega) (by omega) (by simp) ?_; intro v1 w1 ho1 hg1 _)
    go_end0
    exact ⟨rfl, below_then (alloc_one w _) (below_none hg1) (alloc_one w _).size⟩
theorem over_ob (base : Nat) (v : Value) (l : List Int) (W w : World) (h : OB base v l w) (hb : Below base W w) (hW : base ≤ W.heap.size) (hw : base ≤ w.heap.size) (hl : l.length ≤ 1000000) :
    Calls Try.prog 14 #[v] w fun e w' => e = .returned (.tuple #[]) ∧ Below base W w' := by
  have h' := h
  rcases h'.2 with ⟨rfl, hl0⟩ | ⟨g, cap, cur, rfl, hbg, _⟩
  · refine (over_nil w).mono ?_
    rintro e w' ⟨rfl, h2⟩
    exact ⟨rfl, below_then hb h2 hw⟩
  · refine (over_any g l.length cap base _ w h hw (by omega)).mono ?_
    rintro e w' ⟨rfl, hg⟩
    exact ⟨rfl, hb.grown hg hw (fun k hk => by cases hk; exact hbg)⟩
set_option maxRecDepth 100000 in
set_option maxHeartbeats 16000000 in
theorem recordLays_plain (w : World) (u : Value) (rs : List RecV) (hu : Recs w u rs) :
    Calls Try.prog 3 #[u] w fun e w' => e = .returned (.bool true) ∧ Below w.heap.size w w' := by
  have HU := hid hu
  obtain ⟨ao, ca, rfl, a1, a2, -⟩ := hu.slice
  unfold maxLen at a2
  clear hu
  go_enter Try.func3, Try.ntmps3
  go_wp2_with fail
  refine (greatRecs_any _ rs 10 w HU.out).mono ?_
  rintro e w1 ⟨⟨g, rfl, hg⟩, rfl⟩
  have HG1 := hid hg
  clear hg
  cases g
  rotate_left
  · go_wp2_with fail
    refine (awake_any w1).mono ?_
    rintro e w2 ⟨rfl, hb2⟩
    go_wp2
    go_ret
    exact ⟨rfl, hb2⟩
  have h10 := HG1.out (by first | rfl | trivial)
  clear HG1
  go_wp2_with fail
  refine (recLay_any _ rs w1 HU.out h10).mono ?_
  rintro e w2 ⟨x, rfl, hx, hb2⟩
  have HB2 := hid hb2
  have HX2 := hid hx
  clear hx hb2
  go_wp2_with fail
  refine (refLays_any _ rs w2 (HU.out.below HB2.out) h10).mono ?_
  rintro e w3 ⟨y, rfl, hy, hb3⟩
  have HB3 := hid (below_then HB2.out hb3 HB2.out.size)
  have HX3 := hid (HX2.out.below hb3)
  have HY3 := hid hy
  clear hy hb3 HX2
  go_wp2_with fail
  refine (same_any _ _ (layL rs) (layL rs) w3 HX3.out.bs HY3.out.bs).mono ?_
  rw [decide_eq_true rfl]
  rintro e w4 ⟨rfl, nd, rfl⟩
  have HB4 := hid (below_then HB3.out (drewN_below w3 nd) HB3.out.size)
  have HX4 := hid (HX3.out.below (drewN_below w3 nd))
  clear HX3 HY3
  go_wp2
  go_loopw [4, 5] (fun o i wr => ∃ k : Nat, k ≤ rs.length ∧ o = .bool true ∧ i = .int .i64 k ∧ OB w1.heap.size x (layL rs) wr ∧ Below w1.heap.size w1 wr) (fun _ i _ => rs.length - (intOf i).toNat)
  case atStart => exact ⟨0, by omega, rfl, rfl, HX4.out, HB4.out⟩
  case round =>
    obtain ⟨k, hk, rfl, rfl, hx, hbr⟩ := hrel
    have HX := hid hx
    have hlow := hbr.size
    clear hx HX4 HB4
    by_cases hlt : k < rs.length
    · have hd5 : decide ((k : Int) < (rs.length : Int)) = true := by simp; omega
      obtain ⟨p, po1, r, so, sc, po, pc, hr, rfl, hp, hir, c0, c1, c2, c3, c4, c5, c6⟩ := (HU.out.below hbr).cell hlt
      have HI := hid hir
      have hkn : (k : Int) < (rs.length : Int) := by omega
      clear hr hir
      have HC := hid (show ∀ w', Below wr.heap.size wr w' → (w'.cell? ⟨p, po1 + k * 7, none⟩ = some (.int .i64 r.kind) ∧ w'.cell? ⟨p, po1 + k * 7 + 1, none⟩ = some (.int .i64 r.part) ∧ w'.cell? ⟨p, po1 + k * 7 + 2, none⟩ = some (.int .i64 r.split) ∧ w'.cell? ⟨p, po1 + k * 7 + 3, none⟩ = some (.int .i64 r.attempt) ∧ w'.cell? ⟨p, po1 + k * 7 + 4, none⟩ = some (.int .i64 r.reason) ∧ w'.cell? ⟨p, po1 + k * 7 + 5, none⟩ = some (.slice so r.set.length sc) ∧ w'.cell? ⟨p, po1 + k * 7 + 6, none⟩ = some (.slice po r.prs.length pc)) from fun w' hb => ⟨(hb.cell (p := ⟨p, po1 + k * 7, none⟩) hp).trans c0, (hb.cell (p := ⟨p, po1 + k * 7 + 1, none⟩) hp).trans c1, (hb.cell (p := ⟨p, po1 + k * 7 + 2, none⟩) hp).trans c2, (hb.cell (p := ⟨p, po1 + k * 7 + 3, none⟩) hp).trans c3, (hb.cell (p := ⟨p, po1 + k * 7 + 4, none⟩) hp).trans c4, (hb.cell (p := ⟨p, po1 + k * 7 + 5, none⟩) hp).trans c5, (hb.cell (p := ⟨p, po1 + k * 7 + 6, none⟩) hp).trans c6⟩)
      obtain ⟨g, hg⟩ : ∃ g, mayR r = g := ⟨_, rfl⟩
      have HG := hid hg
      go_wp2
      go_region_held3 (fun w' => (w'.cell? ⟨p, po1 + k * 7, none⟩ = some (.int .i64 r.kind) ∧ w'.cell? ⟨p, po1 + k * 7 + 1, none⟩ = some (.int .i64 r.part) ∧ w'.cell? ⟨p, po1 + k * 7 + 2, none⟩ = some (.int .i64 r.split) ∧ w'.cell? ⟨p, po1 + k * 7 + 3, none⟩ = some (.int .i64 r.attempt) ∧ w'.cell? ⟨p, po1 + k * 7 + 4, none⟩ = some (.int .i64 r.reason) ∧ w'.cell? ⟨p, po1 + k * 7 + 5, none⟩ = some (.slice so r.set.length sc) ∧ w'.cell? ⟨p, po1 + k * 7 + 6, none⟩ = some (.slice po r.prs.length pc))) (first | exact HC.out _ HB6.out | exact HC.out _ HB5.out | exact HC.out _ (below_drew1 _) | go_keep)
        (first | (go_at_call 12; refine (recMay_any r so sc po pc _ ?_).mono ?_; (exact HI.out.below (below_drew1 _)); rw [hg]; rintro e w5 ⟨rfl, hb5⟩; have HB5 := hid (below_then (below_drew1 wr) hb5 (below_drew1 wr).size); clear hb5) | (go_at_call 13; refine (refRMay_any r so sc po pc _ ?_).mono ?_; (exact HI.out.below HB5.out); rw [hg]; rintro e w6 ⟨rfl, hb6⟩; have HB6 := hid (below_then HB5.out hb6 HB5.out.size); clear hb6))
      have HX6 := hid (HX.out.below HB6.out)
      have HB7 := hid (below_then hbr HB6.out hlow)
      clear c0 c1 c2 c3 c4 c5 c6 HC HB5 HB6 HX hg
      go_wp2
      go_roundw
      case rel => exact ⟨k + 1, by omega, rfl, by go_num, HX6.out, HB7.out⟩
      case measure => simp [intOf]; omega
    · have hd5 : decide ((k : Int) < (rs.length : Int)) = false := by simp; omega
      have hbd : (layL rs).length ≤ 1000000 := by
        unfold layL
        split
        · rename_i hm
          have := flat_bd rs hm
          omega
        · simp
      go_wp2_with fail
      refine (over_ob w1.heap.size x (layL rs) w1 wr HX.out hbr (Nat.le_refl _) hlow hbd).mono ?_
      rintro e w5 ⟨rfl, hb5⟩
      have HB5 := hid hb5
      clear hb5 HX
      go_wp2_with fail
      refine (recLay_any _ rs w5 (HU.out.below HB5.out) h10).mono ?_
      rintro e w6 ⟨x6, rfl, hx6, hb6⟩
      have HB6 := hid (below_then HB5.out hb6 HB5.out.size)
      have HX6 := hid hx6
      clear hx6 hb6
      go_wp2_with fail
      refine (refLays_any _ rs w6 (HU.out.below HB6.out) h10).mono ?_
      rintro e w7 ⟨y7, rfl, hy7, hb7⟩
      have HB7 := hid (below_then HB6.out hb7 HB6.out.size)
      have HX7 := hid (HX6.out.below hb7)
      have HY7 := hid hy7
      clear hy7 hb7 HX6
      go_wp2_with fail
      refine (same_any _ _ (layL rs) (layL rs) w7 HX7.out.bs HY7.out.bs).mono ?_
      rw [decide_eq_true rfl]
      rintro e w8 ⟨rfl, n8, rfl⟩
      have HB8 := hid (below_then HB7.out (drewN_below w7 n8) HB7.out.size)
      clear HX7 HY7
      go_wp2_with fail
      refine (recSames_any _ _ rs rs (w7.drewN n8) (HU.out.below HB8.out) (HU.out.below HB8.out)).mono ?_
      rw [sameL_self]
      rintro e w9 ⟨rfl, hb9⟩
      have HB9 := hid (below_then HB8.out hb9 HB8.out.size)
      clear hb9
      go_wp2_with fail
      refine (awake_any w9).mono ?_
      rintro e w10 ⟨rfl, hb10⟩
      go_wp2
      go_ret
      exact ⟨rfl, below_then HB9.out hb10 HB9.out.size⟩
theorem recordLays_walk (w : World) (u : Value) (a : List RecT) (hu : rSlice 7 rRec w [u] a) :
    Calls Try.prog 3 #[u] w fun e w' => e = .returned (.bool true) ∧ Below w.heap.size w w' := by
  obtain ⟨rs, h1⟩ := Recs.arg hu
  exact recordLays_plain w u rs h1
end Go.Proofs.Ytpkobobandcclaa
