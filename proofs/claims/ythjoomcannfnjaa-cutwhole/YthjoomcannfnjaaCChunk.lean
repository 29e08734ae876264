/- Chunk, of the program and of the reference. -/
import Derived.Test.YthjoomcannfnjaaCNum
import Derived.Test.YthjoomcannfnjaaAppAny
namespace Go.Proofs.Ythjoomcannfnjaa
open Go.RowKit
set_option linter.unusedVariables false

theorem owns_none (w : World) (t : TypeId) : (w.alloc (.cells #[] t)).ownsRow w.heap.size t 2 (.slice (some ⟨w.heap.size, 0, none⟩) 0 0) 0 [] :=
  ⟨rfl, .inr ⟨w.heap.size, 0, #[], rfl, Nat.le_refl _, new_block _ _, Nat.le_refl _, by unfold maxLen; omega, rfl, rfl⟩⟩
theorem seq_nil (w : World) : (binOp .eql 22 (.slice none 0 0) (.slice none 0 0)).run Try.prog w = .ok (.bool true) w := by kernel_rfl
theorem seq_some (w : World) (ad : Addr) (n c : Nat) : (binOp .eql 22 (.slice (some ad) n c) (.slice none 0 0)).run Try.prog w = .ok (.bool false) w := by kernel_rfl
set_option maxHeartbeats 1000000 in
theorem clone_any (v : Value) (l : List KV) (w : World) (hv : Prs w v l) (hl : l.length ≤ 1000) : Calls Try.prog 21 #[v] w (PairsNew w l) := by
  have HV := hid hv
  obtain ⟨ao, ca, rfl, a1, a2, a3, -⟩ := hv
  obtain ⟨i0, hi, hz0, hz1, hz2⟩ := info_parts Try.infoP
  cases ao with
  | none =>
    obtain ⟨rfl, rfl⟩ := a3 rfl
    clear a3
    have hq := seq_nil
    go_enter Try.func21, Try.ntmps21
    go_wp2
    go_ret
    exact ⟨_, rfl, World.ownsRow_nil _ _ _ _, Below.refl _ _⟩
  | some ad =>
    clear a3
    unfold maxLen at a2
    have hq := seq_some
    have hb1 : Below w.heap.size w (w.alloc (.cells #[] 36)) := (Below.refl _ w).alloc (Nat.le_refl _) _
    go_enter Try.func21, Try.ntmps21
    go_wp2_with (at_builtin; refine wpList_append_own_any _ rfl _ _ 22 rfl w.heap.size 36 i0 _ 2 32 Try.underlying22 hi hz0 hz1 hz2 rfl (by decide) _ 0 [] rfl (owns_none w 36) (some ad) l.length ca (fl encP l) rfl (fl_length encP_len l) (fun e => by cases e) (HV.out.news encP_len (by decide) hb1) (fl_one encP_one l) (by unfold maxLen; omega) (by omega) (by simp) ?_; intro v1 w1 ho1 hg1)
    have HO := hid ho1
    have HB := hid (hb1.grown hg1 (by simp) (by intro q hq; cases hq; exact Nat.le_refl _))
    clear ho1 hg1
    go_wp2
    go_ret
    exact ⟨_, rfl, by have := HO.out; simpa using this, HB.out⟩

/-- A cut out of the midst. -/
theorem Reads.sub {α : Type} {n : Nat} {enc : α → List Value} {w : World} {b off m cap : Nat} {l : List α} (h : Reads n enc w (.slice (some ⟨b, off, none⟩) m cap) l) {k j : Nat} (hk : k + j ≤ l.length) : Reads n enc w (.slice (some ⟨b, off + k * n, none⟩) j (cap - k)) ((l.drop k).take j) := by
  obtain ⟨ao, cap', hv, h1, h2, h3, h4⟩ := h
  cases hv
  have hlen : ((l.drop k).take j).length = j := by rw [List.length_take, List.length_drop]; omega
  refine ⟨_, _, by rw [hlen], by omega, by omega, (fun e => by cases e), fun hl => ?_⟩
  have hj0 : 0 < j := by
    rcases Nat.eq_zero_or_pos j with e | e
    · subst e; simp at hl
    · exact e
  obtain ⟨b', off', e, hlt, hc⟩ := h4 (by intro e; rw [e] at hk; simp at hk; omega)
  cases e
  refine ⟨b, _, rfl, hlt, fun i x hi q u hu => ?_⟩
  have hij : i < j := by
    have := (List.getElem?_eq_some_iff.1 hi).1
    omega
  have := hc (k + i) x (by rw [List.getElem?_take_of_lt hij, List.getElem?_drop] at hi; exact hi) q u hu
  rw [Nat.add_mul] at this
  rw [show off + k * n + i * n + q = off + (k * n + i * n) + q by omega]
  exact this

set_option maxHeartbeats 2000000 in
theorem chunk_any (v : Value) (l : List KV) (s q : Int) (h1 : -9223372036854775808 ≤ s) (h2 : s ≤ 9223372036854775807) (w : World) (hv : Prs w v l) (hn : l.length ≤ 1000) :
    Calls Try.prog 11 #[v, .int .i64 s, .int .i64 q] w (PairsNew w (chunkL l s q)) := by
  have HV := hid hv
  obtain ⟨ao, ca, rfl, a1, a2, a3, -⟩ := hv
  unfold maxLen at a2
  clear a3
  by_cases hq : q < 0
  · have d1 : decide (q < 0) = true := by simpa using hq
    have HC := hid (chunkL_none (l := l) (s := s) (q := q) (by omega))
    go_enter Try.func11, Try.ntmps11
    go_wp2
    go_ret
    exact ⟨_, rfl, by rw [HC.out]; exact World.ownsRow_nil _ _ _ _, Below.refl _ _⟩
  · have d1 : decide (q < 0) = false := by simpa using hq
    go_enter Try.func11, Try.ntmps11
    go_wp2_with fail
    refine (cut_Chunks_any (l.length : Int) s (by omega) (by omega) h1 h2 w).mono ?_
    rintro e w1 ⟨rfl, rfl⟩
    by_cases hc : chunksI l.length s ≤ q
    · have d2 : decide (chunksI l.length s ≤ q) = true := by simpa using hc
      have HC := hid (chunkL_none (l := l) (s := s) (q := q) (by omega))
      generalize chunksI l.length s = c at d2 hc ⊢
      go_wp2
      go_ret
      exact ⟨_, rfl, by rw [HC.out]; exact World.ownsRow_nil _ _ _ _, Below.refl _ _⟩
    · have d2 : decide (chunksI l.length s ≤ q) = false := by simpa using hc
      obtain ⟨hb1, hb2, hb3⟩ := seq_lt (n := l.length) (s := s) (q := q) (by omega) (by omega)
      obtain ⟨s, rfl⟩ : ∃ k : Nat, s = k := ⟨s.toNat, by omega⟩
      obtain ⟨q, rfl⟩ : ∃ k : Nat, q = k := ⟨q.toNat, by omega⟩
      have HC := hid (chunkL_some (l := l) (s := s) (q := q) (by omega))
      generalize chunksI l.length s = c at d2 hc ⊢
      rw [← Int.natCast_mul] at hb3
      obtain ⟨b, off, rfl, hb, c1, c2⟩ := HV.out.cell (j := q * s) (by omega)
      clear c1 c2
      obtain ⟨p, hp⟩ : ∃ p, q * s = p := ⟨_, rfl⟩
      have hpi : (q : Int) * (s : Int) = p := by rw [← Int.natCast_mul, hp]
      have hpl : p < l.length := by omega
      have hcap : ¬ ca = p := by omega
      rw [hp] at HC
      go_wp2_with fail
      case inl h =>
        have HC2 := hid (show chunkL l s q = (l.drop p).take (l.length - p) by rw [HC.out, List.take_of_length_le (by rw [List.length_drop]; omega), List.take_of_length_le (by rw [List.length_drop]; omega)])
        refine (clone_any _ ((l.drop p).take (l.length - p)) w (HV.out.sub (by omega)) (by rw [List.length_take]; omega)).mono ?_
        rintro e w1 ⟨u, rfl, ho, hb⟩
        have HO := hid ho
        have HB := hid hb
        clear ho hb
        go_wp2
        go_ret
        exact ⟨_, rfl, by rw [HC2.out]; exact HO.out, HB.out⟩
      case inr h =>
        refine (clone_any _ ((l.drop p).take s) w (HV.out.sub (by omega)) (by rw [List.length_take, List.length_drop]; omega)).mono ?_
        rintro e w1 ⟨u, rfl, ho, hb⟩
        have HO := hid ho
        have HB := hid hb
        clear ho hb
        go_wp2
        go_ret
        exact ⟨_, rfl, by rw [HC.out]; exact HO.out, HB.out⟩

set_option maxHeartbeats 2000000 in
theorem refChunk_any (v : Value) (l : List KV) (s q : Int) (h1 : -9223372036854775808 ≤ s) (h2 : s ≤ 9223372036854775807) (w : World) (hv : Prs w v l) (hn : l.length ≤ 1000) :
    Calls Try.prog 13 #[v, .int .i64 s, .int .i64 q] w (PairsNew w (chunkL l s q)) := by
  have HV := hid hv
  obtain ⟨ao, ca, rfl, a1, a2, a3, -⟩ := hv
  unfold maxLen at a2
  clear a3
  obtain ⟨i0, hi, hz0, hz1, hz2⟩ := info_parts Try.infoP
  by_cases hq : q < 0
  · have d1 : decide (q < 0) = true := by simpa using hq
    have HC := hid (chunkL_none (l := l) (s := s) (q := q) (by omega))
    go_enter Try.func13, Try.ntmps13
    go_wp2
    go_ret
    exact ⟨_, rfl, by rw [HC.out]; exact World.ownsRow_nil _ _ _ _, Below.refl _ _⟩
  · have d1 : decide (q < 0) = false := by simpa using hq
    go_enter Try.func13, Try.ntmps13
    go_wp2_with fail
    refine (staitheref10_Chunks_any (l.length : Int) s (by omega) (by omega) h1 h2 w).mono ?_
    rintro e w1 ⟨rfl, rfl⟩
    by_cases hc : chunksI l.length s ≤ q
    · have d2 : decide (chunksI l.length s ≤ q) = true := by simpa using hc
      have HC := hid (chunkL_none (l := l) (s := s) (q := q) (by omega))
      generalize chunksI l.length s = c at d2 hc ⊢
      go_wp2
      go_ret
      exact ⟨_, rfl, by rw [HC.out]; exact World.ownsRow_nil _ _ _ _, Below.refl _ _⟩
    · have d2 : decide (chunksI l.length s ≤ q) = false := by simpa using hc
      obtain ⟨hb1, hb2, hb3⟩ := seq_lt (n := l.length) (s := s) (q := q) (by omega) (by omega)
      obtain ⟨s, rfl⟩ : ∃ k : Nat, s = k := ⟨s.toNat, by omega⟩
      obtain ⟨q, rfl⟩ : ∃ k : Nat, q = k := ⟨q.toNat, by omega⟩
      have HC := hid (chunkL_some (l := l) (s := s) (q := q) (by omega))
      generalize chunksI l.length s = c at d2 hc ⊢
      rw [← Int.natCast_mul] at hb3
      obtain ⟨p, hp⟩ : ∃ p, q * s = p := ⟨_, rfl⟩
      have hpi : (q : Int) * (s : Int) = p := by rw [← Int.natCast_mul, hp]
      have hpl : p < l.length := by omega
      rw [hp] at HC
      clear hb3
      go_wp2
      rename World => w
      go_loopw [7, 8] (fun u i wr => ∃ k : Nat, k ≤ l.length ∧ p ≤ k ∧ k - p ≤ s ∧ i = .int .i64 k ∧ wr.ownsRow w.heap.size 36 2 u (k - p) (fl encP ((l.drop p).take (k - p))) ∧ Below w.heap.size w wr) (fun _ i _ => l.length - (intOf i).toNat)
      case atStart => exact ⟨p, by omega, by omega, by omega, rfl, by simpa [fl] using World.ownsRow_nil _ _ _ _, Below.refl _ _⟩
      case round =>
        obtain ⟨k, hk, hpk, hks, rfl, ho, hbel⟩ := hrel
        have HO := hid ho
        have hsz := hbel.size
        obtain ⟨uo, uc, rfl⟩ := own_slice ho
        clear ho
        by_cases hlt : k < l.length
        · have d4 : decide ((k : Int) < (l.length : Int)) = true := by simp; omega
          by_cases hks2 : k - p < s
          · have d5 : decide (((k - p : Nat) : Int) < (s : Int)) = true := by simp; omega
            obtain ⟨b, off, x, hx, rfl, hb, c1, c2⟩ := Prs.cell? (HV.out.below hbel) hlt
            have HX := hid (show (l.drop p).take (k + 1 - p) = (l.drop p).take (k - p) ++ [x] by
              rw [show k + 1 - p = k - p + 1 by omega, List.take_add_one, List.getElem?_drop, show p + (k - p) = k by omega, hx]
              rfl)
            clear hx
            obtain ⟨s1, t1⟩ := x
            simp only at c1 c2 HX
            go_wp2_with (at_builtin; refine wpList_append_own _ rfl _ _ 22 rfl w.heap.size 36 i0 (.agg #[.string ⟨#[]⟩, .string ⟨#[]⟩]) 2 32 Try.underlying22 hi hz0 hz1 hz2 rfl (by decide) _ (k - p) _ rfl (HO.out.alloc _) ⟨wr.heap.size, 0, none⟩ 1 1 [.string s1, .string t1] rfl rfl (two_new _ _ _ _) (by intro u hu; simp at hu; rcases hu with rfl | rfl <;> rfl) (by unfold maxLen; omega) (by omega) (by simp; omega) ?_; intro v3 w3 ho3 hg3 _)
            have HB3 := hid (((hbel.alloc (by omega) _).grown hg3 (by simp; omega) (by intro q hq; exact owns_base HO.out hq)))
            have HO3 := hid (show w3.ownsRow w.heap.size 36 2 v3 (k + 1 - p) (fl encP ((l.drop p).take (k + 1 - p))) by rw [HX.out, fl_append, show k + 1 - p = k - p + 1 by omega]; exact ho3)
            clear ho3 hg3 HX HO hbel c1 c2
            go_wp2
            go_roundw
            case rel => exact ⟨k + 1, by omega, by omega, by omega, by go_num, HO3.out, HB3.out⟩
            case measure => simp [intOf]; omega
          · have d5 : decide (((k - p : Nat) : Int) < (s : Int)) = false := by simp; omega
            have HO2 := hid (show wr.ownsRow w.heap.size 36 2 (.slice uo (k - p) uc) (chunkL l s q).length (fl encP (chunkL l s q)) by
              rw [HC.out, show s = k - p by omega, List.length_take, List.length_drop, show min (k - p) (l.length - p) = k - p by omega]
              exact HO.out)
            go_wp2
            go_ret
            exact ⟨_, rfl, HO2.out, hbel⟩
        · have d4 : decide ((k : Int) < (l.length : Int)) = false := by simp; omega
          have HO2 := hid (show wr.ownsRow w.heap.size 36 2 (.slice uo (k - p) uc) (chunkL l s q).length (fl encP (chunkL l s q)) by
              rw [HC.out, List.length_take, List.length_drop, show min s (l.length - p) = k - p by omega, show (l.drop p).take s = (l.drop p).take (k - p) by rw [List.take_of_length_le (by rw [List.length_drop]; omega), List.take_of_length_le (by rw [List.length_drop]; omega)]]
              exact HO.out)
          go_wp2
          go_ret
          exact ⟨_, rfl, HO2.out, hbel⟩
end Go.Proofs.Ythjoomcannfnjaa
