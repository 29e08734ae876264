/- The document's own Read. -/
import Derived.Test.YtpkobobandcclaaRcRefOne
namespace Go.Proofs.Ytpkobobandcclaa
open Go.RowKit
set_option linter.unusedVariables false

/-- Those behind the first k bytes, as the program writes their address. -/
theorem Bs.far {w : World} {ao ao2 : Option Addr} {cap : Nat} {l : List Int} (h : Bs w (.slice ao l.length cap) l) {k : Nat} (hk : k ≤ l.length) (hao : (if cap = k then ao else Option.map (fun x => x.add k) ao) = ao2) : Bs w (.slice ao2 (l.length - k) (cap - k)) (l.drop k) := by
  obtain ⟨ao', cap', hv, h1, h2, h3, h4⟩ := h
  simp only [Value.slice.injEq, true_and] at hv
  obtain ⟨rfl, rfl⟩ := hv
  refine ⟨ao2, cap - k, by rw [List.length_drop], by rw [List.length_drop]; omega, by omega, fun e => ?_, fun hl => ?_⟩
  · subst e
    by_cases hc : cap = k
    · rw [if_pos hc] at hao
      exact ⟨List.drop_eq_nil_of_le (by omega), by omega⟩
    · rw [if_neg hc] at hao
      cases ao with
      | none =>
        obtain ⟨rfl, rfl⟩ := h3 rfl
        exact ⟨by simp, by omega⟩
      | some ad => cases hao
  · have hlt : k < l.length := by
      rcases Nat.lt_or_ge k l.length with h | h
      · exact h
      · exact absurd (List.drop_eq_nil_of_le h) hl
    obtain ⟨b, off, e, hb, hc⟩ := h4 (by intro e; rw [e] at hlt; simp at hlt)
    subst e
    rw [if_neg (by omega), Option.map_some, addr_add] at hao
    refine ⟨b, off + k, hao.symm, hb, fun j hj => ?_⟩
    rw [List.length_drop] at hj
    have := hc (k + j) (by omega)
    rw [show off + k + j = off + (k + j) by omega, this]
    simp [List.getD]

theorem refOne0_any (v : Value) (l : List Int) (w : World) (hv : Bs w v l) (hB : Byt l) (hl : l.length ≤ 1000000) :
    Calls Try.prog 36 #[v] w fun e w' => Below w.heap.size w w' ∧ ((∃ x : RecX, e = .returned (.tuple #[.agg #[.int .i64 x.r.kind, .int .i64 x.r.part, .int .i64 x.r.split, .int .i64 x.r.attempt, .int .i64 x.r.reason, .slice x.so x.r.set.length x.sc, .slice x.po x.r.prs.length x.pc], .int .i64 ((layR x.r).length : Int), .bool true]) ∧ Has l x.r ∧ x.Own w.heap.size w') ∨
      (e = .returned (.tuple #[.agg #[.int .i64 0, .int .i64 0, .int .i64 0, .int .i64 0, .int .i64 0, .slice none 0 0, .slice none 0 0], .int .i64 0, .bool false]) ∧ HasNone l)) := by
  refine (refOne_any v l w hv hB hl).mono ?_
  rintro e w' ⟨h1, ⟨x, h2, h3, h4⟩ | ⟨h2, h3⟩⟩
  · rw [Nat.zero_add] at h2
    exact ⟨h1, .inl ⟨x, h2, h3, h4⟩⟩
  · exact ⟨h1, .inr ⟨h2, h3⟩⟩
set_option maxRecDepth 100000 in
set_option maxHeartbeats 16000000 in
theorem refRead_any (v : Value) (l : List Int) (w : World) (hv : Bs w v l) (hB : Byt l) (hl : l.length ≤ 1000000) :
    Calls Try.prog 18 #[v] w fun e w' => ∃ (u : Value) (xs : List RecX) (n : Nat), e = .returned (.tuple #[u, .int .i64 (n : Int)]) ∧ RRows w.heap.size xs u w' ∧ Begins l (xs.map (·.r)) n ∧ Below w.heap.size w w' := by
  have HV := hid hv
  have HY := hid hB
  have hv' := hv
  obtain ⟨vo, cap, rfl, v1, v2, v3, -⟩ := hv'
  unfold maxLen at v2
  obtain ⟨i0, hi, hz0, hz1, hz2⟩ := info_parts Try.infoR
  clear hv hB v3
  go_enter Try.func18, Try.ntmps18
  go_wp2
  go_loopw [4, 5] (fun u i wr => ∃ (xs : List RecX) (a : Nat), i = .int .i64 a ∧ Upto l (xs.map (·.r)) a ∧ RRows w.heap.size xs u wr ∧ Below w.heap.size w wr) (fun _ i _ => l.length - (intOf i).toNat)
  case atStart => exact ⟨[], 0, rfl, Upto.start l, RRows.nil _ _, Below.refl _ _⟩
  case round =>
    obtain ⟨xs, a, rfl, hu, hr, hb⟩ := hrel
    have HU := hid hu
    have HR := hid hr
    have hlow := hb.size
    have hle := hu.le
    have hfew := hu.few
    rw [List.length_map] at hfew
    clear hu hr
    by_cases hca : cap = a
    · have HF := hid (show Bs wr (.slice vo (l.length - a) 0) (l.drop a) by
        have h := (HV.out.below hb).far hle (if_pos hca)
        rw [show cap - a = 0 by omega] at h
        exact h)
      go_wp2_with fail
      clear hca
      refine (refOne0_any _ (l.drop a) wr HF.out (HY.out.drop a) (by rw [List.length_drop]; omega)).mono ?_
      rintro e w1 ⟨hb1, ⟨x, rfl, hhas, hown⟩ | ⟨rfl, hnone⟩⟩
      · have HH := hid hhas
        have HX := hid hown
        have HB1 := hid hb1
        clear hhas hown hb1
        have HB3 := hid (two_below w1 (.cells #[.int .i64 x.r.kind, .int .i64 x.r.part, .int .i64 x.r.split, .int .i64 x.r.attempt, .int .i64 x.r.reason, .slice x.so x.r.set.length x.sc, .slice x.po x.r.prs.length x.pc] 33) (.cells #[.int .i64 x.r.kind, .int .i64 x.r.part, .int .i64 x.r.split, .int .i64 x.r.attempt, .int .i64 x.r.reason, .slice x.so x.r.set.length x.sc, .slice x.po x.r.prs.length x.pc] 33))
        have hnews : ∀ j u, (encR x)[j]? = some u → ((w1.alloc (.cells #[.int .i64 x.r.kind, .int .i64 x.r.part, .int .i64 x.r.split, .int .i64 x.r.attempt, .int .i64 x.r.reason, .slice x.so x.r.set.length x.sc, .slice x.po x.r.prs.length x.pc] 33)).alloc (.cells #[.int .i64 x.r.kind, .int .i64 x.r.part, .int .i64 x.r.split, .int .i64 x.r.attempt, .int .i64 x.r.reason, .slice x.so x.r.set.length x.sc, .slice x.po x.r.prs.length x.pc] 33)).cell? ((⟨w1.heap.size + 1, 0, none⟩ : Addr).add j) = some u := by
          have h := new_cells (w1.alloc (.cells #[.int .i64 x.r.kind, .int .i64 x.r.part, .int .i64 x.r.split, .int .i64 x.r.attempt, .int .i64 x.r.reason, .slice x.so x.r.set.length x.sc, .slice x.po x.r.prs.length x.pc] 33)) #[.int .i64 x.r.kind, .int .i64 x.r.part, .int .i64 x.r.split, .int .i64 x.r.attempt, .int .i64 x.r.reason, .slice x.so x.r.set.length x.sc, .slice x.po x.r.prs.length x.pc] 33
          simp only [World.size_alloc] at h
          exact h
        have HB4 := hid (below_then HB1.out HB3.out HB1.out.size)
        have HX4 := hid (HX.out.below HB3.out)
        have ho4 : ((w1.alloc (.cells #[.int .i64 x.r.kind, .int .i64 x.r.part, .int .i64 x.r.split, .int .i64 x.r.attempt, .int .i64 x.r.reason, .slice x.so x.r.set.length x.sc, .slice x.po x.r.prs.length x.pc] 33)).alloc (.cells #[.int .i64 x.r.kind, .int .i64 x.r.part, .int .i64 x.r.split, .int .i64 x.r.attempt, .int .i64 x.r.reason, .slice x.so x.r.set.length x.sc, .slice x.po x.r.prs.length x.pc] 33)).ownsRow w.heap.size 33 7 u4 xs.length (fl encR xs) := (HR.out.below HB4.out).row
        have hb4 : w.heap.size ≤ ((w1.alloc (.cells #[.int .i64 x.r.kind, .int .i64 x.r.part, .int .i64 x.r.split, .int .i64 x.r.attempt, .int .i64 x.r.reason, .slice x.so x.r.set.length x.sc, .slice x.po x.r.prs.length x.pc] 33)).alloc (.cells #[.int .i64 x.r.kind, .int .i64 x.r.part, .int .i64 x.r.split, .int .i64 x.r.attempt, .int .i64 x.r.reason, .slice x.so x.r.set.length x.sc, .slice x.po x.r.prs.length x.pc] 33)).heap.size := by have := HB4.out.size; omega
        have hx1 : xs.length + 1 ≤ maxLen := by unfold maxLen; omega
        have hx2 : (xs.length + 1) * 88 ≤ 140737488355328 := by omega
        have HU2 := hid (HU.out.step HH.out)
        have hlr := layR_length x.r
        have hle2 := HU2.out.le
        go_wp2_with (at_builtin; refine wpList_append_own _ rfl _ _ 22 rfl w.heap.size 33 i0 _ 7 88 Try.underlying22 hi hz0 hz1 hz2 rfl (by decide) _ xs.length (fl encR xs) rfl ho4 ⟨w1.heap.size + 1, 0, none⟩ 1 1 (encR x) rfl rfl hnews (encR_one x) hx1 hx2 hb4 ?_; intro v5 w5 ho5 hg5 _)
        have HP := hid (HR.out.push HB4.out HX4.out hlow ho5 hg5)
        have HB5 := hid ((below_then hb HB4.out hlow).grown hg5 (below_then hb HB4.out hlow).size (fun k hk => (ho4.lt k hk).1))
        clear ho5 hg5 ho4 hnews
        go_roundw
        case rel => exact ⟨xs ++ [x], a + (layR x.r).length, by go_num, by rw [List.map_append]; exact HU2.out, HP.out, HB5.out⟩
        case measure => simp [intOf]; omega
      · have HB2 := hid (below_then (below_then hb hb1 hlow) (alloc_one w1 (.cells #[.int .i64 0, .int .i64 0, .int .i64 0, .int .i64 0, .int .i64 0, .slice none 0 0, .slice none 0 0] 33)) (below_then hb hb1 hlow).size)
        have HR2 := hid ((HR.out.below hb1).below (alloc_one w1 (.cells #[.int .i64 0, .int .i64 0, .int .i64 0, .int .i64 0, .int .i64 0, .slice none 0 0, .slice none 0 0] 33)))
        have HG := hid (HU.out.begins hnone)
        clear hnone hb1
        go_wp2
        go_ret2
        exact ⟨_, xs, a, rfl, HR2.out, HG.out, HB2.out⟩
    · have HF := hid (show Bs wr (.slice (Option.map (fun x => x.add a) vo) (l.length - a) (cap - a)) (l.drop a) from (HV.out.below hb).far hle (if_neg hca))
      go_wp2_with fail
      clear hca
      refine (refOne0_any _ (l.drop a) wr HF.out (HY.out.drop a) (by rw [List.length_drop]; omega)).mono ?_
      rintro e w1 ⟨hb1, ⟨x, rfl, hhas, hown⟩ | ⟨rfl, hnone⟩⟩
      · have HH := hid hhas
        have HX := hid hown
        have HB1 := hid hb1
        clear hhas hown hb1
        have HB3 := hid (two_below w1 (.cells #[.int .i64 x.r.kind, .int .i64 x.r.part, .int .i64 x.r.split, .int .i64 x.r.attempt, .int .i64 x.r.reason, .slice x.so x.r.set.length x.sc, .slice x.po x.r.prs.length x.pc] 33) (.cells #[.int .i64 x.r.kind, .int .i64 x.r.part, .int .i64 x.r.split, .int .i64 x.r.attempt, .int .i64 x.r.reason, .slice x.so x.r.set.length x.sc, .slice x.po x.r.prs.length x.pc] 33))
        have hnews : ∀ j u, (encR x)[j]? = some u → ((w1.alloc (.cells #[.int .i64 x.r.kind, .int .i64 x.r.part, .int .i64 x.r.split, .int .i64 x.r.attempt, .int .i64 x.r.reason, .slice x.so x.r.set.length x.sc, .slice x.po x.r.prs.length x.pc] 33)).alloc (.cells #[.int .i64 x.r.kind, .int .i64 x.r.part, .int .i64 x.r.split, .int .i64 x.r.attempt, .int .i64 x.r.reason, .slice x.so x.r.set.length x.sc, .slice x.po x.r.prs.length x.pc] 33)).cell? ((⟨w1.heap.size + 1, 0, none⟩ : Addr).add j) = some u := by
          have h := new_cells (w1.alloc (.cells #[.int .i64 x.r.kind, .int .i64 x.r.part, .int .i64 x.r.split, .int .i64 x.r.attempt, .int .i64 x.r.reason, .slice x.so x.r.set.length x.sc, .slice x.po x.r.prs.length x.pc] 33)) #[.int .i64 x.r.kind, .int .i64 x.r.part, .int .i64 x.r.split, .int .i64 x.r.attempt, .int .i64 x.r.reason, .slice x.so x.r.set.length x.sc, .slice x.po x.r.prs.length x.pc] 33
          simp only [World.size_alloc] at h
          exact h
        have HB4 := hid (below_then HB1.out HB3.out HB1.out.size)
        have HX4 := hid (HX.out.below HB3.out)
        have ho4 : ((w1.alloc (.cells #[.int .i64 x.r.kind, .int .i64 x.r.part, .int .i64 x.r.split, .int .i64 x.r.attempt, .int .i64 x.r.reason, .slice x.so x.r.set.length x.sc, .slice x.po x.r.prs.length x.pc] 33)).alloc (.cells #[.int .i64 x.r.kind, .int .i64 x.r.part, .int .i64 x.r.split, .int .i64 x.r.attempt, .int .i64 x.r.reason, .slice x.so x.r.set.length x.sc, .slice x.po x.r.prs.length x.pc] 33)).ownsRow w.heap.size 33 7 u4 xs.length (fl encR xs) := (HR.out.below HB4.out).row
        have hb4 : w.heap.size ≤ ((w1.alloc (.cells #[.int .i64 x.r.kind, .int .i64 x.r.part, .int .i64 x.r.split, .int .i64 x.r.attempt, .int .i64 x.r.reason, .slice x.so x.r.set.length x.sc, .slice x.po x.r.prs.length x.pc] 33)).alloc (.cells #[.int .i64 x.r.kind, .int .i64 x.r.part, .int .i64 x.r.split, .int .i64 x.r.attempt, .int .i64 x.r.reason, .slice x.so x.r.set.length x.sc, .slice x.po x.r.prs.length x.pc] 33)).heap.size := by have := HB4.out.size; omega
        have hx1 : xs.length + 1 ≤ maxLen := by unfold maxLen; omega
        have hx2 : (xs.length + 1) * 88 ≤ 140737488355328 := by omega
        have HU2 := hid (HU.out.step HH.out)
        have hlr := layR_length x.r
        have hle2 := HU2.out.le
        go_wp2_with (at_builtin; refine wpList_append_own _ rfl _ _ 22 rfl w.heap.size 33 i0 _ 7 88 Try.underlying22 hi hz0 hz1 hz2 rfl (by decide) _ xs.length (fl encR xs) rfl ho4 ⟨w1.heap.size + 1, 0, none⟩ 1 1 (encR x) rfl rfl hnews (encR_one x) hx1 hx2 hb4 ?_; intro v5 w5 ho5 hg5 _)
        have HP := hid (HR.out.push HB4.out HX4.out hlow ho5 hg5)
        have HB5 := hid ((below_then hb HB4.out hlow).grown hg5 (below_then hb HB4.out hlow).size (fun k hk => (ho4.lt k hk).1))
        clear ho5 hg5 ho4 hnews
        go_roundw
        case rel => exact ⟨xs ++ [x], a + (layR x.r).length, by go_num, by rw [List.map_append]; exact HU2.out, HP.out, HB5.out⟩
        case measure => simp [intOf]; omega
      · have HB2 := hid (below_then (below_then hb hb1 hlow) (alloc_one w1 (.cells #[.int .i64 0, .int .i64 0, .int .i64 0, .int .i64 0, .int .i64 0, .slice none 0 0, .slice none 0 0] 33)) (below_then hb hb1 hlow).size)
        have HR2 := hid ((HR.out.below hb1).below (alloc_one w1 (.cells #[.int .i64 0, .int .i64 0, .int .i64 0, .int .i64 0, .int .i64 0, .slice none 0 0, .slice none 0 0] 33)))
        have HG := hid (HU.out.begins hnone)
        clear hnone hb1
        go_wp2
        go_ret2
        exact ⟨_, xs, a, rfl, HR2.out, HG.out, HB2.out⟩
end Go.Proofs.Ytpkobobandcclaa
