/- sorted of chapter 11's statements: each run in order, if there are not too many. -/
import Derived.Test.YtafbofcenbfkeaaSPair
import Derived.Test.YtafbofcenbfkeaaLis
namespace Go.Proofs.Ytafbofcenbfkeaa
open Go.RowKit
set_option linter.unusedVariables false

/-- Each run in order, with its own memory; or false. -/
def SortedRuns (w : World) (ls : List (List KV)) (e : Ending) (w' : World) : Prop :=
  Below w.heap.size w w' ∧ ((e = .returned (.tuple #[.slice none 0 0, .bool false])) ∨ ∃ u, e = .returned (.tuple #[u, .bool true]) ∧ Rows w.heap.size (ls.map srt) u w' ∧ ls.length ≤ 8 ∧ ∀ l ∈ ls, l.length ≤ 20)
theorem map_take_more {α β : Type} (f : α → β) {ls : List α} {k : Nat} {l : α} (h : ls[k]? = some l) : (ls.take (k + 1)).map f = (ls.take k).map f ++ [f l] := by
  rw [List.take_add_one, h]
  simp
theorem all_take_more {α : Type} {p : α → Prop} {ls : List α} {k : Nat} {l : α} (h : ∀ x ∈ ls.take k, p x) (hl : ls[k]? = some l) (hp : p l) : ∀ x ∈ ls.take (k + 1), p x := by
  rw [List.take_add_one, hl]
  intro x hx
  rcases List.mem_append.1 hx with hx | hx
  · exact h x hx
  · simp at hx
    subst hx
    exact hp

set_option maxHeartbeats 4000000 in
theorem sortedRuns_any (v : Value) (ls : List (List KV)) (w : World) (hv : Lis w v ls) :
    Calls Try.prog 7 #[v] w (SortedRuns w ls) := by
  have HV := hid hv
  obtain ⟨ao, ca, rfl, a1, a2, -⟩ := hv.slice
  unfold maxLen at a2
  clear hv
  obtain ⟨i0, hi, hz0, hz1, hz2⟩ := info_parts Try.infoS
  by_cases hbig : 8 < ls.length
  · have d0 : decide ((8 : Int) < (ls.length : Int)) = true := by simp; omega
    have d1 : decide ((0 : Int) < (ls.length : Int)) = true := by simp; omega
    go_enter Try.func7, Try.ntmps7
    go_wp2
    go_loop [2, 3, 4, 5] (fun r s u i => r = .slice none 0 0 ∧ s = .bool false ∧ u = .slice none 0 0 ∧ i = .int .i64 0) (fun _ _ _ _ => 0)
    case atStart => exact ⟨rfl, rfl, rfl, rfl⟩
    case round =>
      obtain ⟨rfl, rfl, rfl, rfl⟩ := hrel
      go_wp2
      go_ret2
      exact ⟨Below.refl _ _, .inl rfl⟩
  · have d0 : decide ((8 : Int) < (ls.length : Int)) = false := by simp; omega
    go_enter Try.func7, Try.ntmps7
    go_wp2
    go_loopw [2, 3, 4, 5] (fun r s u i wr => r = .slice none 0 0 ∧ s = .bool false ∧ ∃ k : Nat, k ≤ ls.length ∧ i = .int .i64 k ∧ Hid (∀ l ∈ ls.take k, l.length ≤ 20) ∧ Rows w.heap.size ((ls.take k).map srt) u wr ∧ Below w.heap.size w wr) (fun _ _ _ i _ => ls.length - (intOf i).toNat)
    case atStart => exact ⟨rfl, rfl, 0, by omega, rfl, hid (fun l hl => by simp at hl), Rows.nil _ _, Below.refl _ _⟩
    case round =>
      obtain ⟨rfl, rfl, k, hk, rfl, HS, hrw, hbel⟩ := hrel
      have hsz := hbel.size
      by_cases hlt : k < ls.length
      · obtain ⟨b, off, l, xo, xc, hl, rfl, hb, c1, hp⟩ := (HV.out.below hbel).cell hlt
        have HL := hid hl
        have HP := hid hp
        have HR := hid hrw
        clear hl hp hrw
        have d4 : decide ((k : Int) < (ls.length : Int)) = true := by simp; omega
        have d5 : decide (8 < ls.length) = false := by simp; omega
        go_wp2_with fail
        refine (greatPairs_any _ l 20 _ HP.out).mono ?_
        rintro e w0 ⟨⟨g, rfl, hg⟩, rfl⟩
        cases g with
        | true =>
          clear hg
          go_wp2
          go_ret2
          exact ⟨hbel, .inl rfl⟩
        | false =>
          obtain ⟨hl20, -⟩ := hg rfl
          have HS2 := hid (all_take_more HS.out HL.out hl20)
          clear hg HS
          rename World => wr
          go_wp2_with fail
          refine (sort_any _ l wr HP.out (by omega)).mono ?_
          rintro e w1 ⟨x, rfl, ho1, hb1⟩
          obtain ⟨yo, yc, rfl⟩ := own_slice ho1
          have HO1 := hid (show Own 0 _ (srt l) w1 from owns_mono ho1 (Nat.zero_le _))
          have HB1 := hid (below_then hbel hb1 hbel.size)
          have hsz1 := HB1.out.size
          obtain ⟨vs, hvs, hall⟩ := HR.out.below hb1
          have HVs := hid hvs
          have HAll := hid hall
          clear ho1 hb1 hbel HR hvs hall c1 hsz
          have hkl : ((ls.take k).map srt).length = k := by rw [List.length_map, List.length_take]; omega
          rw [hkl] at HVs
          have HKL := hid hkl
          clear hkl
          go_wp2_with (at_builtin; refine wpList_append_own _ rfl _ _ 22 rfl w.heap.size 26 i0 (.slice none 0 0) 1 24 Try.underlying22 hi hz0 hz1 hz2 rfl (by decide) _ k _ rfl (HVs.out.alloc _) ⟨w1.heap.size, 0, none⟩ 1 1 [.slice yo (srt l).length yc] rfl rfl (one_new _ _ _) (by intro u hu; simp at hu; subst hu; rfl) (by unfold maxLen; omega) (by omega) (by simp; omega) ?_; intro v3 w3 ho3 hg3 _)
          have HB3 := hid ((HB1.out.alloc HB1.out.size _).grown hg3 (by simp; omega) (by intro q hq; exact owns_base HVs.out hq))
          have HC3 := hid (show Rows w.heap.size ((ls.take (k + 1)).map srt) v3 w3 by
            rw [map_take_more srt HL.out]
            exact Rows.more (by rw [HKL.out]; exact HVs.out.alloc _) (rows_at HAll.out (alloc_one _ _)) (own_one (HO1.out.below (alloc_one _ _))) (by rw [HKL.out]; exact ho3) hg3)
          clear ho3 hg3 HVs HAll HO1 HB1
          go_wp2
          go_roundw
          case rel => exact ⟨rfl, rfl, k + 1, by omega, by go_num, HS2, HC3.out, HB3.out⟩
          case measure => simp [intOf]; omega
      · obtain rfl : k = ls.length := by omega
        have d4 : decide ((ls.length : Int) < (ls.length : Int)) = false := by simp
        rw [List.take_length] at hrw HS
        have HR := hid hrw
        clear hrw
        go_wp2
        go_ret2
        exact ⟨hbel, .inr ⟨_, rfl, HR.out, by omega, HS.out⟩⟩
end Go.Proofs.Ytafbofcenbfkeaa
