/- CutWhole: all chunks, one behind the other, are the pairs. -/
import Derived.Test.YthjoomcannfnjaaCAwake
import Derived.Test.YthjoomcannfnjaaSArg
namespace Go.Proofs.Ythjoomcannfnjaa
open Go.RowKit
set_option linter.unusedVariables false

theorem Try.infoS : (Try.prog.info? 22).map (fun i => (i.zero, i.size, i.bytes)) = some (some (.slice none 0 0), 1, 24) := by kernel_rfl
/-- The first k chunks, each with its own memory. -/
def Cs (B : Nat) (l : List KV) (s k : Nat) (u : Value) (wr : World) : Prop :=
  ∃ vs, wr.ownsRow B 22 1 u k vs ∧ ∀ j : Nat, j < k → ∃ x, vs[j]? = some x ∧ wr.ownsRow B 36 2 x (chunkL l s j).length (fl encP (chunkL l s j))
theorem Cs.below {B : Nat} {l : List KV} {s k : Nat} {u : Value} {w w' : World} (h : Cs B l s k u w) (hb : Below w.heap.size w w') : Cs B l s k u w' := by
  obtain ⟨vs, h1, h2⟩ := h
  refine ⟨vs, owns_below h1 hb, fun j hj => ?_⟩
  obtain ⟨x, hx, ho⟩ := h2 j hj
  exact ⟨x, hx, owns_below ho hb⟩
theorem Cs.lis {B : Nat} {l : List KV} {s k : Nat} {u : Value} {w : World} (h : Cs B l s k u w) : Lis w u ((List.range k).map fun j => chunkL l s (j : Nat)) := by
  obtain ⟨vs, h1, h2⟩ := h
  have hl : vs.length = k := by have := h1.1; omega
  refine ⟨vs, Reads.own encV_len (by decide) (by rw [fl_encV]; exact h1), by simp [hl], fun j c hj => ?_⟩
  have hjk : j < k := by have := (List.getElem?_eq_some_iff.1 hj).1; simpa using this
  rw [List.getElem?_map, List.getElem?_range hjk] at hj
  cases hj
  obtain ⟨x, hx, ho⟩ := h2 j hjk
  exact ⟨x, hx, Reads.own encP_len (by decide) ho⟩
/-- One more chunk. -/
theorem Cs.more {B : Nat} {l : List KV} {s k : Nat} {u u' x : Value} {w w' : World} {vs : List Value} (h : w.ownsRow B 22 1 u k vs) (h2 : ∀ j : Nat, j < k → ∃ x, vs[j]? = some x ∧ w.ownsRow B 36 2 x (chunkL l s j).length (fl encP (chunkL l s j)))
    (hx : w.ownsRow B 36 2 x (chunkL l s k).length (fl encP (chunkL l s k))) (h' : w'.ownsRow B 22 1 u' (k + 1) (vs ++ [x])) (hg : w.grownBy w' u.ownBlock) : Cs B l s (k + 1) u' w' := by
  have hl : vs.length = k := by have := h.1; omega
  refine ⟨_, h', fun j hj => ?_⟩
  by_cases e : j = k
  · subst e
    exact ⟨x, by rw [List.getElem?_append_right (by omega), hl]; simp, owns_grown hx h (by decide) hg⟩
  · obtain ⟨y, hy, ho⟩ := h2 j (by omega)
    exact ⟨y, by rw [List.getElem?_append_left (by omega)]; exact hy, owns_grown ho h (by decide) hg⟩
theorem whole_take (l : List KV) {s : Nat} : ∀ k : Nat, (k : Int) ≤ chunksI l.length s → ((List.range k).map fun j => chunkL l s (j : Nat)).flatten = l.take (k * s)
  | 0, _ => by simp
  | k + 1, h => by
    rw [List.range_succ, List.map_append, List.flatten_append, whole_take l k (by omega)]
    have hc := chunkL_some (l := l) (s := s) (q := k) (by omega)
    rw [show (List.map (fun j => chunkL l s (j : Nat)) [k]).flatten = chunkL l s (k : Nat) by simp, hc, Nat.add_mul, Nat.one_mul, List.take_add]
theorem whole_all (l : List KV) {s n : Nat} (hs : 1 ≤ s) (hn : chunksI l.length s = n) : ((List.range n).map fun j => chunkL l s (j : Nat)).flatten = l := by
  rw [whole_take l n (by omega), List.take_of_length_le]
  have := chunksI_mul (n := l.length) (s := s) (by omega)
  rw [hn, ← Int.natCast_mul] at this
  omega
/-- How many pairs a chunk has. -/
theorem chunk_len (l : List KV) {s n k : Nat} (hs : 1 ≤ s) (hn : chunksI l.length s = n) (hk : k < n) : 1 ≤ (chunkL l s k).length ∧ (chunkL l s k).length ≤ s ∧ (k + 1 < n → (chunkL l s k).length = s) := by
  have hc := chunkL_some (l := l) (s := s) (q := k) (by omega)
  obtain ⟨_, _, h1⟩ := seq_lt (n := l.length) (s := s) (q := k) (by omega) (by omega)
  rw [← Int.natCast_mul] at h1
  rw [hc, List.length_take, List.length_drop]
  refine ⟨by omega, by omega, fun h => ?_⟩
  obtain ⟨_, _, h2⟩ := seq_lt (n := l.length) (s := s) (q := (k + 1 : Nat)) (by omega) (by omega)
  rw [← Int.natCast_mul, Nat.add_mul] at h2
  omega
theorem chunk_behind (l : List KV) {s n : Nat} (hn : chunksI l.length s = n) : chunkL l s n = [] := chunkL_none (by omega)
theorem chunk_ahead (l : List KV) (s : Int) : chunkL l s (-1) = [] := chunkL_none (by omega)
theorem chunk_zero (l : List KV) : chunkL l 0 0 = [] := chunkL_none (by rw [chunksI_none (.inr (by decide))]; omega)
set_option maxRecDepth 100000 in
set_option maxHeartbeats 4000000 in
theorem cutWhole_plain (w : World) (v : Value) (l : List KV) (hv : Prs w v l) (size : Int) :
    Calls Try.prog 4 #[v, .int .i64 size] w fun e w' => e = .returned (.bool true) ∧ Below w.heap.size w w' := by
  have HV := hid hv
  obtain ⟨ao, ca, rfl, a1, a2, -, -⟩ := hv
  unfold maxLen at a2
  obtain ⟨i0, hi, hz0, hz1, hz2⟩ := info_parts Try.infoS
  go_enter Try.func4, Try.ntmps4
  go_wp2_with fail
  refine (greatPairs_any _ l 80 w HV.out).mono ?_
  rintro e w0 ⟨⟨g, rfl, hg⟩, rfl⟩
  cases g with
  | true =>
    clear hg
    go_wp2_with fail
    refine (awake_calls _).mono ?_
    rintro e w9 ⟨rfl, hb9⟩
    go_wp2
    go_ret
    exact ⟨rfl, hb9⟩
  | false =>
    obtain ⟨hl, -⟩ := hg rfl
    clear hg
    go_wp2_with fail
    refine (low_calls size 20 (by decide) (by decide) _).mono ?_
    rintro e w1 ⟨rfl, rfl⟩
    obtain ⟨b1, b2⟩ := low_bd size 20 (by decide)
    generalize low size 20 = b at b1 b2 ⊢
    obtain ⟨s, hs⟩ : ∃ s : Nat, 1 + b = s := ⟨(1 + b).toNat, by omega⟩
    have hs1 : 1 ≤ s := by omega
    have hs2 : s ≤ 20 := by omega
    rename World => w
    go_wp2_with fail
    refine (cut_Chunks_any (l.length : Int) (s : Int) (by omega) (by omega) (by omega) (by omega) _).mono ?_
    rintro e w1 ⟨rfl, rfl⟩
    have hbd := chunksI_bd (l.length : Int) (s : Int) (by omega)
    obtain ⟨n, hn⟩ : ∃ n : Nat, chunksI l.length s = n := ⟨(chunksI l.length s).toNat, by omega⟩
    rw [hn] at hbd
    have hn80 : n ≤ 80 := by omega
    have HN := hid hn
    rw [hn]
    clear hn hbd
    rename World => w
    go_wp2
    go_loopw [6, 7] (fun u i wr => ∃ k : Nat, k ≤ n ∧ i = .int .i64 k ∧ Cs w.heap.size l s k u wr ∧ Below w.heap.size w wr) (fun _ i _ => n - (intOf i).toNat)
    case atStart => exact ⟨0, by omega, rfl, ⟨[], World.ownsRow_nil _ _ _ _, fun j h => by omega⟩, Below.refl _ _⟩
    case round =>
      obtain ⟨k, hk, rfl, hcs, hbel⟩ := hrel
      have HCs := hid hcs
      have hsz := hbel.size
      clear hcs
      have d80 : decide ((n : Int) ≤ 80) = true := by simp; omega
      by_cases hlt : k < n
      · have d4 : decide ((k : Int) < (n : Int)) = true := by simp; omega
        obtain ⟨z1, z2, z3⟩ := chunk_len l hs1 HN.out hlt
        go_wp2_with fail
        refine (chunk_any _ l s k (by omega) (by omega) wr (HV.out.below hbel) (by omega)).mono ?_
        rintro e w1 ⟨x, rfl, ho1, hb1⟩
        obtain ⟨xo, xc, rfl⟩ := own_slice ho1
        have HO1 := hid (owns_mono ho1 hsz)
        have HB1 := hid (below_then hbel hb1 hbel.size)
        have HCs1 := hid (HCs.out.below hb1)
        have hsz1 := HB1.out.size
        clear ho1 hb1 hbel HCs
        generalize hL : (chunkL l s k).length = L at z1 z2 z3 ⊢
        have HL := hid hL
        clear hL
        have e1 : ((L : Int) == 0) = false := beq_eq_false_iff_ne.2 (by omega)
        have d5 : decide ((s : Int) < (L : Int)) = false := by simp; omega
        obtain ⟨vs, hvs, hall⟩ := HCs1.out
        have HVs := hid hvs
        have HAll := hid hall
        clear hvs hall HCs1
        by_cases hk1 : k + 1 < n
        · have d6 : decide ((k : Int) < (n : Int) - 1) = true := by simp; omega
          have z4 := z3 hk1
          clear z3
          have e2 : ((L : Int) != (s : Int)) = false := by simp; omega
          clear z4
          go_wp2_with (at_builtin; refine wpList_append_own _ rfl _ _ 31 rfl w.heap.size 22 i0 (.slice none 0 0) 1 24 Try.underlying31 hi hz0 hz1 hz2 rfl (by decide) _ k _ rfl (HVs.out.alloc _) ⟨w1.heap.size, 0, none⟩ 1 1 [.slice xo L xc] rfl rfl (one_new _ _ _) (by intro u hu; simp at hu; subst hu; rfl) (by unfold maxLen; omega) (by omega) (by simp; omega) ?_; intro v3 w3 ho3 hg3 _)
          have HB3 := hid ((HB1.out.alloc HB1.out.size _).grown hg3 (by simp; omega) (by intro q hq; exact owns_base HVs.out hq))
          have HC3 := hid (Cs.more (l := l) (s := s) (HVs.out.alloc _) (fun j hj => by obtain ⟨x, hx, ho⟩ := HAll.out j hj; exact ⟨x, hx, ho.alloc _⟩) (by have h := HO1.out.alloc (.cells #[Value.slice xo L xc] 22); rw [HL.out] at h ⊢; exact h) ho3 hg3)
          clear ho3 hg3 HVs HAll HO1 HB1
          go_wp2
          go_roundw
          case rel => exact ⟨k + 1, by omega, by go_num, HC3.out, HB3.out⟩
          case measure => simp [intOf]; omega
        · have d6 : decide ((k : Int) < (n : Int) - 1) = false := by simp; omega
          clear z3
          go_wp2_with (at_builtin; refine wpList_append_own _ rfl _ _ 31 rfl w.heap.size 22 i0 (.slice none 0 0) 1 24 Try.underlying31 hi hz0 hz1 hz2 rfl (by decide) _ k _ rfl (HVs.out.alloc _) ⟨w1.heap.size, 0, none⟩ 1 1 [.slice xo L xc] rfl rfl (one_new _ _ _) (by intro u hu; simp at hu; subst hu; rfl) (by unfold maxLen; omega) (by omega) (by simp; omega) ?_; intro v3 w3 ho3 hg3 _)
          have HB3 := hid ((HB1.out.alloc HB1.out.size _).grown hg3 (by simp; omega) (by intro q hq; exact owns_base HVs.out hq))
          have HC3 := hid (Cs.more (l := l) (s := s) (HVs.out.alloc _) (fun j hj => by obtain ⟨x, hx, ho⟩ := HAll.out j hj; exact ⟨x, hx, ho.alloc _⟩) (by have h := HO1.out.alloc (.cells #[Value.slice xo L xc] 22); rw [HL.out] at h ⊢; exact h) ho3 hg3)
          clear ho3 hg3 HVs HAll HO1 HB1
          go_wp2
          go_roundw
          case rel => exact ⟨k + 1, by omega, by go_num, HC3.out, HB3.out⟩
          case measure => simp [intOf]; omega
      · obtain rfl : k = n := by omega
        have d4 : decide ((k : Int) < (k : Int)) = false := by simp
        have HW := hid (whole_all l hs1 HN.out)
        have HBe := hid (chunk_behind l HN.out)
        go_wp2_with fail
        refine (join_any _ _ wr HCs.out.lis (by rw [HW.out]; omega)).mono ?_
        rintro e w1 ⟨u1, rfl, ho1, hb1⟩
        rw [HW.out] at ho1
        have HO1 := hid ho1
        have HB1 := hid (below_then hbel hb1 hbel.size)
        clear ho1 hb1 hbel HCs HW
        go_wp2_with fail
        refine (samePairs_any _ _ l w1 (Reads.own encP_len (by decide) HO1.out) (HV.out.below HB1.out)).mono ?_
        rintro e w2 ⟨rfl, n2, rfl⟩
        have HB2 := hid (below_then HB1.out (below_drew w1 n2) HB1.out.size)
        generalize w1.drewN n2 = w2 at HB2 ⊢
        clear HO1 HB1
        go_wp2_with fail
        refine (chunk_any _ l s k (by omega) (by omega) w2 (HV.out.below HB2.out) (by omega)).mono ?_
        rintro e w3 ⟨u3, rfl, ho3, hb3⟩
        rw [HBe.out] at ho3
        obtain ⟨xo, xc, rfl⟩ := own_slice ho3
        have HB3 := hid (below_then HB2.out hb3 HB2.out.size)
        clear ho3 hb3 HB2 HBe
        simp only [List.length_nil]
        go_wp2_with fail
        refine (chunk_any _ l s (-1) (by omega) (by omega) w3 (HV.out.below HB3.out) (by omega)).mono ?_
        rintro e w4 ⟨u4, rfl, ho4, hb4⟩
        rw [chunk_ahead] at ho4
        obtain ⟨yo, yc, rfl⟩ := own_slice ho4
        have HB4 := hid (below_then HB3.out hb4 HB3.out.size)
        clear ho4 hb4 HB3
        simp only [List.length_nil]
        go_wp2_with fail
        refine (chunk_any _ l 0 0 (by omega) (by omega) w4 (HV.out.below HB4.out) (by omega)).mono ?_
        rintro e w5 ⟨u5, rfl, ho5, hb5⟩
        rw [chunk_zero] at ho5
        obtain ⟨zo, zc, rfl⟩ := own_slice ho5
        have HB5 := hid (below_then HB4.out hb5 HB4.out.size)
        clear ho5 hb5 HB4
        simp only [List.length_nil]
        go_wp2_with fail
        refine (awake_calls _).mono ?_
        rintro e w9 ⟨rfl, hb9⟩
        have HEnd := hid (below_then HB5.out hb9 HB5.out.size)
        go_wp2
        go_ret
        exact ⟨rfl, HEnd.out⟩
theorem cutWhole_walk (w : World) (v : Value) (l : List KV) (hv : rSlice 2 rPr w [v] l) (size : Int) (ws : (Lit.int .i64 size).wf = true) :
    Calls Try.prog 4 #[v, .int .i64 size] w fun e w' => e = .returned (.bool true) ∧ Below w.heap.size w w' := cutWhole_plain w v l (Prs.arg hv) size
end Go.Proofs.Ythjoomcannfnjaa
