/- Targets of the program: the places of the jumps, sorted and each once. -/
import Derived.Test.YtkkgclocamekcaaPOwn
import Derived.Test.YtkkgclocamekcaaShelf
import Derived.Sort.OwnSortedInts
import Derived.Lib.OwnBridge
namespace Go.Proofs.Ytkkgclocamekcaa
open Go.RowKit Go.Lib Go.Sort
set_option linter.unusedVariables false

theorem sort_calls (g cap : Nat) (zs : List Int) (w : World) (hH : Holds (Value.int .i64) w g 0 zs.toArray) (hg : g < w.heap.size) (hz : zs.length < 4611686018427387904) :
    Calls Try.prog 19 #[.slice (some ⟨g, 0, none⟩) zs.length cap] w fun e w' => e = .returned (.tuple #[]) ∧ ∃ n os, w' = grow (putRow (Value.int .i64) (Sort.ahead w n) g 0 (zs.mergeSort fun x y => decide (x ≤ y)).toArray) os :=
  Any.slices_Sort_int lays189 g 0 cap zs w hH hg hz
theorem sort_none (w : World) : Calls Try.prog 19 #[.slice none 0 0] w fun e w' => e = .returned (.tuple #[]) ∧ w' = w :=
  Any.slices_Sort_int_none lays189 none 0 w
theorem compact_calls (g cap : Nat) (zs : List Int) (w : World) (hH : Holds (Value.int .i64) w g 0 zs.toArray) (hz : zs.length ≤ 9223372036854775807) (hc : zs.length ≤ cap) :
    Calls Try.prog 20 #[.slice (some ⟨g, 0, none⟩) zs.length cap] w fun e w' => e = .returned (.slice (some ⟨g, 0, none⟩) (compact zs).length cap) ∧ ∃ q, w' = putRow (Value.int .i64) (Sort.ahead w q) g 0 (compact zs ++ List.replicate (zs.length - (compact zs).length) 0).toArray :=
  Any.slices_Compact_int laysNm220 g 0 cap zs w hH hz hc
theorem compact_none (w : World) : Calls Try.prog 20 #[.slice none 0 0] w fun e w' => e = .returned (.slice none 0 0) ∧ w' = w :=
  Any.slices_Compact_int_empty laysNm220 none 0 w

/-- slices.Sort over a row that the call owns. -/
theorem sort_own (base n : Nat) (v : Value) (zs : List Int) (w : World) (ho : w.ownsRow base 3 1 v n (ict zs)) (hb : base ≤ w.heap.size) (hn : n ≤ 100) :
    Calls Try.prog 19 #[v] w fun e w' => e = .returned (.tuple #[]) ∧ w'.ownsRow base 3 1 v n (ict (zs.mergeSort fun x y => decide (x ≤ y))) ∧ Below base w w' := by
  have hl : zs.length = n := by have := ho.1; rw [ict_length] at this; omega
  rcases ho.2 with ⟨rfl, rfl⟩ | ⟨g, cap, cur, rfl, hbase, hg, h1, h2, h3, h4⟩
  · obtain rfl := List.eq_nil_of_length_eq_zero hl
    refine (sort_none w).mono ?_
    rintro e w' ⟨rfl, rfl⟩
    exact ⟨rfl, by simpa using ho, Below.refl _ _⟩
  · subst hl
    have hH : Holds (Value.int .i64) w g 0 zs.toArray := holds_of_blockI hg (by rw [Nat.mul_one] at h4; exact h4)
    refine (sort_calls g cap zs w hH (Array.getElem?_eq_some_iff.1 hg).1 (by omega)).mono ?_
    rintro e w' ⟨rfl, n, os, rfl⟩
    exact ⟨rfl, ownsRow_sortedI (by rw [List.length_mergeSort]) hbase hg h1 h2 h3, (Below.refl _ w).grown (grownBy_sortedI _) hb (by intro q hq; cases hq; exact hbase)⟩

theorem compact_own (base n : Nat) (v : Value) (zs : List Int) (w : World) (ho : w.ownsRow base 3 1 v n (ict zs)) (hb : base ≤ w.heap.size) (hn : n ≤ 100) :
    Calls Try.prog 20 #[v] w fun e w' => ∃ u, e = .returned u ∧ w'.ownsRow base 3 1 u (compact zs).length (ict (compact zs)) ∧ Below base w w' := by
  have hl : zs.length = n := by have := ho.1; rw [ict_length] at this; omega
  rcases ho.2 with ⟨rfl, rfl⟩ | ⟨g, cap, cur, rfl, hbase, hg, h1, h2, h3, h4⟩
  · obtain rfl := List.eq_nil_of_length_eq_zero hl
    refine (compact_none w).mono ?_
    rintro e w' ⟨rfl, rfl⟩
    exact ⟨_, rfl, ho, Below.refl _ _⟩
  · subst hl
    have hH : Holds (Value.int .i64) w g 0 zs.toArray := holds_of_blockI hg (by rw [Nat.mul_one] at h4; exact h4)
    refine (compact_calls g cap zs w hH (by omega) h1).mono ?_
    rintro e w' ⟨rfl, q, rfl⟩
    have hle := compact_length_le zs
    have ho' : w.ownsRow base 3 1 (.slice (some ⟨g, 0, none⟩) zs.length cap) zs.length (zs.map (Value.int .i64)) := ho
    have hc := ownsRow_putRow (q := q) (k := (compact zs).length) (ys := compact zs ++ List.replicate (zs.length - (compact zs).length) 0) ho' (by simp; omega) hle
    rw [List.take_left] at hc
    exact ⟨_, rfl, hc, below_putRow (Below.refl _ w) hbase⟩

theorem places_take {l : List Inst} {k : Nat} (hk : k < l.length) : places (l.take (k + 1)) = places (l.take k) ++ (if jumps (l.getD k zInst) = true then [(l.getD k zInst).2.1] else []) := by
  rw [List.take_succ_eq_append_getElem hk]
  have e : l.getD k zInst = l[k] := by simp [List.getD, List.getElem?_eq_getElem hk]
  rw [e]
  unfold places
  rw [List.filter_append, List.map_append]
  congr 1
  cases h : jumps l[k] <;> simp [h]
theorem places_len (l : List Inst) (k : Nat) : (places (l.take k)).length ≤ k := by
  unfold places
  rw [List.length_map]
  exact Nat.le_trans (List.length_filter_le _ _) (by rw [List.length_take]; omega)

theorem own_base {w : World} {base e s n : Nat} {v : Value} {xs : List Value} (h : w.ownsRow base e s v n xs) {q : Nat} (hq : v.ownBlock = some q) : base ≤ q := by
  rcases h.2 with ⟨rfl, _⟩ | ⟨g, cap, cur, rfl, hb, _⟩
  · cases hq
  · cases hq
    exact hb

/-- What Targets answers: a row of its own. -/
def Tar (w : World) (l : List Inst) (e : Ending) (w' : World) : Prop := ∃ v, e = .returned v ∧ w'.ownsRow w.heap.size 3 1 v (targets l).length (ict (targets l)) ∧ Below w.heap.size w w'

set_option maxHeartbeats 1000000 in
theorem targets_any (v : Value) (l : List Inst) (w : World) (hv : Co w v l) : Calls Try.prog 9 #[v] w (Tar w l) := by
  have HV := hid hv
  obtain ⟨ao, ca, rfl, a1, a2, a3, a4⟩ := hv
  unfold maxLen at a2
  clear a3 a4
  by_cases hm : bad l < 0
  · have hd : decide (bad l < 0) = true := by simpa using hm
    have h40 := ((may_iff l).1 hm).1
    have HT := hid (show targets l = compact ((places l).mergeSort fun x y => decide (x ≤ y)) by unfold targets; rw [if_pos hm])
    clear hm
    obtain ⟨i0, hi, hz0, hz1, hz2⟩ := info_parts Try.info3
    go_enter Try.func9, Try.ntmps9
    go_wp2_with fail
    refine (may_any _ l w HV.out).mono ?_
    rintro e w1 ⟨rfl, hb1⟩
    rw [hd]
    have HB1 := hid hb1
    clear hd
    go_wp2
    go_loopw [3, 13] (fun u i wr => ∃ k : Nat, k ≤ l.length ∧ i = .int .i64 k ∧ wr.ownsRow w.heap.size 3 1 u (places (l.take k)).length (ict (places (l.take k))) ∧ Below w.heap.size w wr) (fun _ i _ => l.length - (intOf i).toNat)
    case atStart => exact ⟨0, by omega, rfl, by simpa [places, ict] using World.ownsRow_nil _ _ _ _, HB1.out⟩
    case round =>
      obtain ⟨k, hk, rfl, ho, hbel⟩ := hrel
      have HO := hid ho
      have hsz := hbel.size
      clear ho
      by_cases hlt : k < l.length
      · obtain ⟨ao', ca', hvv, _, _, _, h4⟩ := HV.out
        obtain ⟨b, off, rfl, hb, hc⟩ := h4 (by intro e; rw [e] at hlt; simp at hlt)
        cases hvv
        clear h4
        obtain ⟨c0, c1, c2⟩ := (hc k hlt).below hbel hb
        obtain ⟨x, hx⟩ : ∃ x, l.getD k zInst = x := ⟨_, rfl⟩
        have HX := hid hx
        rw [hx] at c0 c1 c2
        clear hx hc
        have hd4 : decide ((k : Int) < (l.length : Int)) = true := by simp; omega
        go_wp2_with fail
        refine (judge_calls x _ _).mono ?_
        rintro e w2 ⟨rfl, hb2⟩
        have HB2 := hid (below_next (hbel.alloc (by omega) _) hb2 (by simp; omega))
        have HO2 := hid (own_below (HO.out.alloc _) hb2)
        have hc5 : w2.cell? ⟨wr.heap.size, 1, none⟩ = some (.int .i64 x.2.1) := by
          rw [hb2.cell (p := ⟨wr.heap.size, 1, none⟩) (by simp)]
          simp [go_sem]
        have hz2' := hb2.size
        simp at hz2'
        clear hb2 c0 c1 c2 HO
        generalize good x l.length = g
        obtain ⟨j, hj⟩ : ∃ j, jumps x = j := ⟨_, rfl⟩
        rw [hj]
        have HP := hid (places_take hlt)
        have HL := hid (places_len l k)
        rw [HX.out, hj] at HP
        clear hj
        obtain ⟨a, ha⟩ : ∃ a, x.2.1 = a := ⟨_, rfl⟩
        rw [ha] at hc5 HP
        generalize places (l.take k) = ps at HO2 HP HL
        cases j
        · simp only [Bool.false_eq_true, if_false, List.append_nil] at HP
          go_wp2
          go_roundw
          case rel => exact ⟨k + 1, by omega, by go_num, by rw [HP.out]; exact HO2.out, HB2.out⟩
          case measure => simp [intOf]; omega
        · simp only [if_true] at HP
          have hps := HL.out
          go_wp2_with (at_builtin; refine wpList_append_own _ rfl _ _ 26 rfl w.heap.size 3 i0 (.int .i64 0) 1 8 Try.underlying26 hi hz0 hz1 hz2 rfl (by decide) _ ps.length _ rfl (HO2.out.alloc _) ⟨w2.heap.size, 0, none⟩ 1 1 [.int .i64 a] rfl rfl (cell_one_new _ _ _) (by intro u hu; simp at hu; subst hu; rfl) (by unfold maxLen; omega) (by omega) (by simp; omega) ?_; intro v3 w3 ho3 hg3 _)
          have HB3 := hid (((HB2.out.alloc (by omega) _).grown hg3 (by simp; omega) (by intro q hq; exact own_base HO2.out hq)))
          have HO3 := hid (show w3.ownsRow w.heap.size 3 1 v3 (places (l.take (k + 1))).length (ict (places (l.take (k + 1)))) by rw [HP.out, ict_append]; rw [List.length_append]; exact ho3)
          clear ho3 hg3 HP HO2 HB2
          go_roundw
          case rel => exact ⟨k + 1, by omega, by go_num, HO3.out, HB3.out⟩
          case measure => simp [intOf]; omega
      · obtain rfl : k = l.length := by omega
        have hd4 : decide ((l.length : Int) < (l.length : Int)) = false := by simp
        have hps := places_len l l.length
        rw [List.take_length] at HO hps
        go_wp2_with fail
        refine (sort_own _ _ _ _ wr HO.out hbel.size (by omega)).mono ?_
        rintro e w2 ⟨rfl, ho2, hb2⟩
        have HB2 := hid (hbel.trans hb2)
        have HO2 := hid ho2
        have hz2' := HB2.out.size
        clear ho2 hb2 HO
        go_wp2_with fail
        refine (compact_own _ _ _ _ w2 HO2.out hz2' (by omega)).mono ?_
        rintro e w3 ⟨u, rfl, ho3, hb3⟩
        have HB3 := hid (HB2.out.trans hb3)
        have HO3 := hid ho3
        clear ho3 hb3
        go_wp2
        go_ret
        exact ⟨_, rfl, by rw [HT.out]; exact HO3.out, HB3.out⟩
  · have hd : decide (bad l < 0) = false := by simpa using hm
    have HT := hid (show targets l = [] by unfold targets; rw [if_neg hm])
    clear hm
    go_enter Try.func9, Try.ntmps9
    go_wp2_with fail
    refine (may_any _ l w HV.out).mono ?_
    rintro e w1 ⟨rfl, hb1⟩
    rw [hd]
    have HB1 := hid hb1
    clear hd
    go_wp2
    go_ret
    exact ⟨_, rfl, by rw [HT.out]; exact World.ownsRow_nil _ _ _ _, HB1.out⟩
end Go.Proofs.Ytkkgclocamekcaa
