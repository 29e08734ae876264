/- slices.Delete of one letter, in a row that is owned. -/
import Derived.Test.YtocedfagfmkgdaaLtRow
import Derived.Deep.RegionLaw
import Derived.Shelf.RegionOpenPlain
import Derived.Lib.SliceRun
namespace Go.Proofs.Ytocedfagfmkgdaa
open Go.RowKit
set_option linter.unusedVariables false

theorem zero_letter (w : World) : (zeroValue 36).run Try.prog w = .ok (.agg #[.int .i64 zeroX.r.from_, .int .i64 zeroX.r.to_, .int .i64 zeroX.r.kind, .int .i64 zeroX.r.split, .int .i64 zeroX.r.attempt, .int .i64 zeroX.r.part, .int .i64 zeroX.r.seq, .int .i64 zeroX.r.next, .int .i64 zeroX.r.epoch, .int .i64 zeroX.r.reason, .slice zeroX.so zeroX.r.set.length zeroX.sc, .slice zeroX.po zeroX.r.prs.length zeroX.pc]) w := Try.zeroValue36 w
/-- What was there and what comes after it. -/
theorem delete_row {B g n cap i : Nat} {xs : List LetX} {w : World} (h : LRow B xs (.slice (some ⟨g, 0, none⟩) n cap) w) (hn : xs.length = n) (hi : i < n) {w' : World}
    (hw : w' = (w.setCells g (i * 12) (fl encL (xs.drop (i + 1)))).setCells g ((n - 1) * 12) (#[.int .i64 zeroX.r.from_, .int .i64 zeroX.r.to_, .int .i64 zeroX.r.kind, .int .i64 zeroX.r.split, .int .i64 zeroX.r.attempt, .int .i64 zeroX.r.part, .int .i64 zeroX.r.seq, .int .i64 zeroX.r.next, .int .i64 zeroX.r.epoch, .int .i64 zeroX.r.reason, .slice zeroX.so zeroX.r.set.length zeroX.sc, .slice zeroX.po zeroX.r.prs.length zeroX.pc] : Array Value).toList) :
    LRow B (outL xs i) (.slice (some ⟨g, 0, none⟩) (n - 1) cap) w' ∧ w.grownBy w' (some g) := by
  subst hn
  have hl : (fl encL xs).length = xs.length * 12 := fl_length encL_len xs
  have hd : (fl encL (xs.drop (i + 1))).length = (xs.length - (i + 1)) * 12 := by rw [fl_length encL_len, List.length_drop]
  have h1 := owns_over (fl encL (xs.drop (i + 1))) (i * 12) _ w h.row (by rw [hl, hd]; omega)
  have hl1 : (over (fl encL xs) (fl encL (xs.drop (i + 1))) (i * 12)).length = xs.length * 12 := by
    unfold over
    rw [List.length_append, List.length_append, List.length_take, List.length_drop, hl, hd]
    omega
  have h2 := owns_over (#[.int .i64 zeroX.r.from_, .int .i64 zeroX.r.to_, .int .i64 zeroX.r.kind, .int .i64 zeroX.r.split, .int .i64 zeroX.r.attempt, .int .i64 zeroX.r.part, .int .i64 zeroX.r.seq, .int .i64 zeroX.r.next, .int .i64 zeroX.r.epoch, .int .i64 zeroX.r.reason, .slice zeroX.so zeroX.r.set.length zeroX.sc, .slice zeroX.po zeroX.r.prs.length zeroX.pc] : Array Value).toList ((xs.length - 1) * 12) _ _ h1.1 (by rw [hl1]; simp; omega)
  rw [← hw] at h2
  have hg := grownBy_trans h1.2 h2.2
  have h3 := owns_first h2.1 (k := xs.length - 1) (by omega)
  rw [out_cells hi _ (by simp)] at h3
  refine ⟨⟨by rw [outL_length hi]; exact h3, fun x hx => ?_⟩, hg⟩
  have hm : x ∈ xs := by
    unfold outL at hx
    rcases List.mem_append.1 hx with e | e
    · exact List.mem_of_mem_take e
    · exact List.mem_of_mem_drop e
  exact (h.own x hm).grown h.row hg
set_option maxHeartbeats 8000000 in
set_option maxRecDepth 1000000 in
theorem delete_any (B g n cap i j : Nat) (xs : List LetX) (w : World) (h : LRow B xs (.slice (some ⟨g, 0, none⟩) n cap) w) (hxn : xs.length = n) (hi : i < n) (hj : j = i + 1) :
    Calls Try.prog 26 #[.slice (some ⟨g, 0, none⟩) n cap, .int .i64 i, .int .i64 j] w fun e w' => e = .returned (.slice (some ⟨g, 0, none⟩) (n - 1) cap) ∧ LRow B (outL xs i) (.slice (some ⟨g, 0, none⟩) (n - 1) cap) w' ∧ w.grownBy w' (some g) := by
  obtain ⟨i0, hi0, hz0, hz1, hz2⟩ := info_parts Try.infoL
  have hcap : n ≤ cap ∧ cap ≤ 9223372036854775807 := by
    rcases h.row.2 with ⟨h', _⟩ | ⟨g', cap', cur, h', _, _, h4, h5, _⟩
    · cases h'
    · simp only [Value.slice.injEq, Option.some.injEq, Addr.mk.injEq, and_true] at h'
      unfold maxLen at h5
      obtain ⟨-, -, rfl⟩ := h'
      rw [hxn] at h4
      exact ⟨h4, h5⟩
  obtain ⟨hcap, hm⟩ := hcap
  have H := hid h
  have HN := hid hxn
  have hl : (fl encL xs).length = n * 12 := by rw [fl_length encL_len, hxn]
  have hrow : w.ownsRow B 36 12 (.slice (some ⟨g, 0, none⟩) n cap) n (fl encL xs) := by have := h.row; rw [hxn] at this; exact this
  obtain ⟨news, hnews⟩ : ∃ news, news = fl encL (xs.drop j) := ⟨_, rfl⟩
  have hlen : news.length = (n - j) * 12 := by rw [hnews, fl_length encL_len, List.length_drop, hxn]
  have hget : ∀ t u, news[t]? = some u → w.cell? ⟨g, j * 12 + t, none⟩ = some u := by
    intro t u hu
    have ht := (List.getElem?_eq_some_iff.1 hu).1
    rw [hlen] at ht
    rw [hnews, ← fl_drop, List.getElem?_drop] at hu
    rw [hrow.cellAt (j * 12 + t) (by omega)]
    exact hu
  obtain ⟨A, hA, hsrc⟩ : ∃ A : Addr, (if cap = j then some (⟨g, 0, none⟩ : Addr) else some ⟨g, j * 12, none⟩) = some A ∧ Hid (∀ t u, news[t]? = some u → w.drew.cell? (A.add t) = some u) := by
    by_cases hc : cap = j
    · refine ⟨⟨g, 0, none⟩, by simp [hc], fun t u hu => ?_⟩
      have ht := (List.getElem?_eq_some_iff.1 hu).1
      rw [hlen] at ht
      omega
    · refine ⟨⟨g, j * 12, none⟩, by simp [hc], fun t u hu => ?_⟩
      rw [addr_add]
      exact hget t u hu
  have s1 : Hid (news.length = (n - j) * 12) := hlen
  have s2 : Hid (∀ u ∈ news, u.oneCell' = true) := by rw [hnews]; exact fl_one encL_one _
  have s3 : Hid (∀ t, t < news.length → (w.drew.cell? ⟨g, 0 + i * 12 + t, none⟩).isSome = true ∧ w.drew.frozen? ⟨g, 0 + i * 12 + t, none⟩ = false) := by
    intro t ht
    rw [hlen] at ht
    obtain ⟨x, hx⟩ := owns_cell hrow (j := 0 + i * 12 + t) (by omega)
    exact ⟨by show (w.cell? _).isSome = true; rw [hx]; rfl, hrow.frozenAt _⟩
  obtain ⟨W1, hW1⟩ : ∃ W1, W1 = w.drew.setCells g (0 + i * 12) news := ⟨_, rfl⟩
  have hR : Hid (∀ w', w' = W1.setCells g ((n - 1) * 12) (#[.int .i64 zeroX.r.from_, .int .i64 zeroX.r.to_, .int .i64 zeroX.r.kind, .int .i64 zeroX.r.split, .int .i64 zeroX.r.attempt, .int .i64 zeroX.r.part, .int .i64 zeroX.r.seq, .int .i64 zeroX.r.next, .int .i64 zeroX.r.epoch, .int .i64 zeroX.r.reason, .slice zeroX.so zeroX.r.set.length zeroX.sc, .slice zeroX.po zeroX.r.prs.length zeroX.pc] : Array Value).toList → LRow B (outL xs i) (.slice (some ⟨g, 0, none⟩) (n - 1) cap) w' ∧ w.grownBy w' (some g)) := by
    intro w' hw'
    rw [hW1, Nat.zero_add, hnews, hj] at hw'
    obtain ⟨r1, r2⟩ := delete_row (h.below (below_drew1 w)) hxn hi hw'
    exact ⟨r1, grownBy_trans (grownBy_drew w _) r2⟩
  have hcells : ∀ t, t < n * 12 → (W1.cell? ⟨g, t, none⟩).isSome = true ∧ W1.frozen? ⟨g, t, none⟩ = false := by
    intro t ht
    have ho := (owns_over news (0 + i * 12) _ w.drew (owns_below hrow (below_drew1 w)) (by rw [hl, hlen]; omega)).1
    rw [← hW1] at ho
    obtain ⟨x, hx⟩ := owns_cell ho (j := t) ht
    exact ⟨by rw [hx]; rfl, ho.frozenAt _⟩
  have en : i + (n - j) = n - 1 := by omega
  have e1 : n - (n - 1) = 1 := by omega
  have hcl : ∀ ty, (Builtin.clear_ #[28] ty #[.slice (some ⟨g, (i + (n - j)) * 12, none⟩) (n - (i + (n - j))) (cap - (i + (n - j)))]).run Try.prog W1 = .ok (.tuple #[]) (W1.setCells g ((n - 1) * 12) (#[.int .i64 zeroX.r.from_, .int .i64 zeroX.r.to_, .int .i64 zeroX.r.kind, .int .i64 zeroX.r.split, .int .i64 zeroX.r.attempt, .int .i64 zeroX.r.part, .int .i64 zeroX.r.seq, .int .i64 zeroX.r.next, .int .i64 zeroX.r.epoch, .int .i64 zeroX.r.reason, .slice zeroX.so zeroX.r.set.length zeroX.sc, .slice zeroX.po zeroX.r.prs.length zeroX.pc] : Array Value).toList) := by
    intro ty
    rw [en, e1]
    exact run_clear_one W1 _ _ ty _ Try.underlying28 zero_letter (by intro v hv; exact encL_one zeroX v hv) g _ _ (fun t ht => hcells _ (by
      have : t < 12 := ht
      omega))
  have EN := hid en
  have hcne : ¬ cap = i + (n - j) := by omega
  clear en e1
  have hW : Hid (W1 = w.drew.setCells g (0 + i * 12) news) := hW1
  have hic : i ≤ cap := by omega
  have hjc : j ≤ cap := by omega
  have hij : ((i : Int) == (j : Int)) = false := by simp; omega
  have hjn : j ≤ n := by omega
  have HJ := hid hj
  have hi1 : i ≤ j := by omega
  have mixed : Try.prog.follows .mixedOrders = true := by kernel_rfl
  clear hW1 hcells hget hnews hlen h hl hxn hrow hj
  go_enter Try.func26, Try.ntmps26
  go_wp2_with fail
  go_region_law (refine step_append_room rfl (.tmp 22) (.tmp 25) 28 rfl 36 i0 12 Try.underlying28 hi0 hz1 g 0 i cap (by simp [Act.eval, Act.put]) A (n - j) (cap - j) news (by simp [Act.eval, Act.put]) s1.out hsrc.out s2.out (by omega) s3.out ?_; rw [← hW.out])
  go_wp2
  go_ret
  exact ⟨by rw [← EN.out]; rfl, (hR.out _ rfl).1, (hR.out _ rfl).2⟩
end Go.Proofs.Ytocedfagfmkgdaa
