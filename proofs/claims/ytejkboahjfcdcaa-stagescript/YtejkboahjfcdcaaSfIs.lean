/- The document's own stage: rows; at, Next. -/
import Derived.Test.YtejkboahjfcdcaaSgIs
namespace Go.Proofs.Ytejkboahjfcdcaa
open Go.RowKit
set_option linter.unusedVariables false

theorem Try.infoR : (Try.prog.info? 61).map (fun i => (i.zero, i.size, i.bytes)) = some (some (.agg #[.int .i64 0, .int .i64 0, .slice none 0 0]), 3, 40) := by kernel_rfl
/-- A row: its split, its attempt, its slice of chunks. -/
def encW (r : (Int × Int) × Pay) : List Value := [.int .i64 r.1.1, .int .i64 r.1.2, r.2.u]
theorem encW_len : ∀ x, (encW x).length = 3 := fun _ => rfl
/-- The document's stage in block q. -/
structure Sf (B q : Nat) (v : Value) (Y : List ((Int × Int) × Pay)) (w : World) : Prop where
  obj : w.heap[q]? = some (.cells #[v] 30 (0, 0))
  row : w.ownsRow B 61 3 v Y.length (fl encW Y)
  pays : Pays B Y w
  few : Y.length ≤ 20
  far : B ≤ q
  low : B ≤ w.heap.size
/-- What belongs to it. -/
def InF (q : Nat) (v : Value) (Y : List ((Int × Int) × Pay)) (g : Nat) : Prop := g = q ∨ v.ownBlock = some g ∨ InX Y g
def NextF (w : World) (q : Nat) (v : Value) (Y : List ((Int × Int) × Pay)) (v' : Value) (Y' : List ((Int × Int) × Pay)) : Prop := ∀ g, InF q v' Y' g → InF q v Y g ∨ w.heap.size ≤ g
section
variable {B q : Nat} {v : Value} {Y : List ((Int × Int) × Pay)} {w w' : World}
theorem Sf.c0 (h : Sf B q v Y w) : w.cell? ⟨q, 0, none⟩ = some v := cell_of_cells h.obj
theorem Sf.free (h : Sf B q v Y w) : w.frozen? ⟨q, 0, none⟩ = false := free_of_cells h.obj
theorem Sf.lt (h : Sf B q v Y w) {g : Nat} (hg : InF q v Y g) : B ≤ g ∧ g < w.heap.size := by
  rcases hg with rfl | hg | hg
  · exact ⟨h.far, lt_of_block h.obj⟩
  · exact h.row.lt g hg
  · exact h.pays.lt hg
theorem Sf.sav {S : Nat → Prop} (h : Sf B q v Y w) (hs : Sav S w w') (hn : ∀ g, InF q v Y g → ¬ S g) : Sf B q v Y w' :=
  ⟨hs.at h.obj (hn q (.inl rfl)), owns_sav h.row hs (fun g hg => hn g (.inr (.inl hg))), h.pays.sav hs (fun g hg => hn g (.inr (.inr hg))), h.few, h.far, Nat.le_trans h.low hs.size⟩
theorem Sf.below (h : Sf B q v Y w) (hb : Below w.heap.size w w') : Sf B q v Y w' := h.sav (Sav.of_below (S := Non) hb) (fun _ _ h => h)
theorem Sf.bel (h : Sf B q v Y w) (hs : Sav (InF q v Y) w w') : Below B w w' := hs.below (fun g hg => (h.lt hg).1) h.low
theorem NextF.refl (w : World) (q : Nat) (v : Value) (Y : List ((Int × Int) × Pay)) : NextF w q v Y v Y := fun _ h => .inl h
theorem Sf.reads (h : Sf B q v Y w) : Reads 3 encW w v Y := Reads.own encW_len (by decide) h.row
theorem Sf.slice (h : Sf B q v Y w) : ∃ ao c, v = .slice ao Y.length c := owns_slice h.row
/-- A row's cells. -/
theorem Sf.cell (h : Sf B q v Y w) {j : Nat} (hj : j < Y.length) : ∃ p c ao n, v = .slice (some ⟨p, 0, none⟩) Y.length c ∧ Y.length ≤ c ∧ c ≤ maxLen ∧ Y[j].2.u = .slice ao Y[j].2.cs.length n ∧ w.cell? ⟨p, j * 3, none⟩ = some (.int .i64 Y[j].1.1) ∧ w.cell? ⟨p, j * 3 + 1, none⟩ = some (.int .i64 Y[j].1.2) ∧ w.cell? ⟨p, j * 3 + 2, none⟩ = some (.slice ao Y[j].2.cs.length n) := by
  obtain ⟨ao, n, hu, -⟩ := (h.pays.is _ (List.getElem_mem hj)).lis.slice
  have hr := h.row
  rcases hr.2 with ⟨rfl, e⟩ | ⟨p, cap, cur, rfl, _, _, h1, h2, _⟩
  · omega
  · refine ⟨p, cap, ao, n, rfl, h1, h2, hu, ?_, ?_, ?_⟩
    · rw [hr.cellAt _ (by omega)]
      exact fl_at encW_len Y j 0 _ _ (List.getElem?_eq_getElem hj) rfl
    · rw [hr.cellAt _ (by omega)]
      exact fl_at encW_len Y j 1 _ _ (List.getElem?_eq_getElem hj) rfl
    · rw [hr.cellAt _ (by omega)]
      exact fl_at encW_len Y j 2 _ _ (List.getElem?_eq_getElem hj) (by rw [← hu]; rfl)
theorem Sf.new (w : World) (B : Nat) (hB : B ≤ w.heap.size) : Sf B w.heap.size (.slice none 0 0) [] (w.alloc (.cells #[.slice none 0 0] 30)) :=
  ⟨new_block _ _, World.ownsRow_nil _ _ _ _, Pays.nil _ _, by decide, hB, by simp; omega⟩
end
/-- The place of an attempt; -1. -/
def AtIs (Y : List ((Int × Int) × Pay)) (k : Int × Int) (i : Int) : Prop := (i = -1 ∧ ∀ r ∈ Y, r.1 ≠ k) ∨ ∃ j : Nat, i = j ∧ ∃ h : j < Y.length, Y[j].1 = k
set_option maxHeartbeats 1000000 in
theorem at_any (B q : Nat) (v : Value) (Y : List ((Int × Int) × Pay)) (k : Int × Int) (w : World) (h : Sf B q v Y w) :
    Calls Try.prog 27 #[.pointer (some ⟨q, 0, none⟩), .int .i64 k.1, .int .i64 k.2] w fun e w' => (∃ i, e = .returned (.int .i64 i) ∧ AtIs Y k i) ∧ w = w' := by
  have H := hid h
  have c0 := h.c0
  obtain ⟨vo, vc, rfl⟩ := h.slice
  have hfew := h.few
  clear h
  go_enter Try.func27, Try.ntmps27
  go_wp2
  go_loop [7] (fun i => ∃ j : Nat, j ≤ Y.length ∧ i = .int .i64 j ∧ Hid (∀ r ∈ Y.take j, r.1 ≠ k)) (fun i => Y.length - (intOf i).toNat)
  case atStart => exact ⟨0, by omega, rfl, hid (by simp)⟩
  case round =>
    obtain ⟨j, hj, rfl, HA⟩ := hrel
    by_cases hlt : j < Y.length
    · obtain ⟨p, c, ao, n, e, h1, h2, hu, q0, q1, q2⟩ := H.out.cell hlt
      cases e
      unfold maxLen at h2
      have hd : decide ((j : Int) < (Y.length : Int)) = true := by simp; omega
      have HK := hid (show Y[j].1 = (Y[j].1.1, Y[j].1.2) from rfl)
      generalize hx : Y[j].1.1 = x at q0 HK
      generalize hy : Y[j].1.2 = y at q1 HK
      clear q2 hu hx hy
      by_cases h3 : x = k.1
      · by_cases h4 : y = k.2
        · have HE := hid (show Y[j].1 = k by rw [HK.out, h3, h4])
          clear HK
          go_wp2
          go_ret
          exact ⟨⟨_, rfl, .inr ⟨j, rfl, hlt, HE.out⟩⟩, rfl⟩
        · have HE := hid (show ∀ r ∈ Y.take (j + 1), r.1 ≠ k by
            rw [List.take_succ_eq_append_getElem hlt]
            intro r hr
            rcases List.mem_append.1 hr with hr | hr
            · exact HA.out r hr
            · rw [List.mem_singleton.1 hr, HK.out]
              exact fun e => h4 (congrArg Prod.snd e))
          clear HK HA
          go_wp2
          go_round
          case rel => exact ⟨j + 1, by omega, by go_num, HE⟩
          case measure => simp [intOf]; omega
      · have HE := hid (show ∀ r ∈ Y.take (j + 1), r.1 ≠ k by
          rw [List.take_succ_eq_append_getElem hlt]
          intro r hr
          rcases List.mem_append.1 hr with hr | hr
          · exact HA.out r hr
          · rw [List.mem_singleton.1 hr, HK.out]
            exact fun e => h3 (congrArg Prod.fst e))
        clear HK HA
        go_wp2
        go_round
        case rel => exact ⟨j + 1, by omega, by go_num, HE⟩
        case measure => simp [intOf]; omega
    · have hd : decide ((j : Int) < (Y.length : Int)) = false := by simp; omega
      have HE := hid (show ∀ r ∈ Y, r.1 ≠ k from fun r hr => HA.out r (by rw [List.take_of_length_le (by omega)]; exact hr))
      clear HA
      go_wp2
      go_ret
      exact ⟨⟨_, rfl, .inl ⟨rfl, HE.out⟩⟩, rfl⟩

theorem AtIs.none {Y : List ((Int × Int) × Pay)} {k : Int × Int} {i : Int} (h : AtIs Y k i) (hn : getS (chS Y) k = []) (ho : OkS (chS Y)) : i = -1 := by
  rcases h with ⟨h, _⟩ | ⟨j, _, hj, e⟩
  · exact h
  · have := (getS_nil_iff ho k).1 hn (Y[j].1, Y[j].2.cs) (List.mem_map.2 ⟨Y[j], List.getElem_mem hj, rfl⟩)
    exact absurd e this
theorem AtIs.some {Y : List ((Int × Int) × Pay)} {k : Int × Int} {i : Int} (h : AtIs Y k i) (hn : getS (chS Y) k ≠ []) : ∃ j : Nat, i = j ∧ ∃ h : j < Y.length, Y[j].1 = k := by
  rcases h with ⟨_, h⟩ | h
  · exact absurd (getS_none (fun r hr e => by
      obtain ⟨x, hx, rfl⟩ := List.mem_map.1 hr
      exact h x hx e)) hn
  · exact h
theorem get_at {Y : List ((Int × Int) × Pay)} {k : Int × Int} {B : Nat} {w : World} (hp : Pays B Y w) {j : Nat} (hj : j < Y.length) (e : Y[j].1 = k) : getS (chS Y) k = Y[j].2.cs ∧ payS Y k = Y[j].2 := by
  have h1 : lookS Y k = some Y[j].2 := by
    rw [← e]
    exact lookS_at hp.keys (List.getElem_mem hj)
  refine ⟨?_, ?_⟩
  · rw [← payS_cs]
    unfold payS
    rw [h1]
    rfl
  · unfold payS
    rw [h1]
    rfl

set_option maxHeartbeats 1000000 in
theorem rnext_any (B q : Nat) (v : Value) (Y : List ((Int × Int) × Pay)) (k : Int × Int) (w : World) (h : Sf B q v Y w) (ho : OkS (chS Y)) :
    Calls Try.prog 23 #[.pointer (some ⟨q, 0, none⟩), .int .i64 k.1, .int .i64 k.2] w fun e w' => e = .returned (.int .i64 ((getS (chS Y) k).length : Nat)) ∧ w = w' := by
  have H := hid h
  have c0 := h.c0
  have hfew := h.few
  have HO := hid ho
  clear h ho
  by_cases hn : getS (chS Y) k = []
  · rw [hn]
    have HN := hid hn
    clear hn
    go_enter Try.func23, Try.ntmps23
    go_wp2_with fail
    refine (at_any B q v Y k w H.out).mono ?_
    rintro e w1 ⟨⟨i, rfl, hi⟩, rfl⟩
    obtain rfl := hi.none HN.out HO.out
    clear hi
    go_wp2
    go_ret
    exact ⟨rfl, rfl⟩
  · have HN := hid hn
    clear hn
    go_enter Try.func23, Try.ntmps23
    go_wp2_with fail
    refine (at_any B q v Y k w H.out).mono ?_
    rintro e w1 ⟨⟨i, rfl, hi⟩, rfl⟩
    obtain ⟨j, rfl, hj, e⟩ := hi.some HN.out
    obtain ⟨p, c, ao, n, rfl, h1, h2, hu, q0, q1, q2⟩ := H.out.cell hj
    have HE := hid (get_at H.out.pays hj e).1
    generalize hm : Y[j].2.cs.length = m at q2
    have HM := hid hm
    clear hi e hu q0 q1 HN hm
    unfold maxLen at h2
    go_wp2
    go_ret
    exact ⟨by rw [HE.out, HM.out]; rfl, rfl⟩
end Go.Proofs.Ytejkboahjfcdcaa
