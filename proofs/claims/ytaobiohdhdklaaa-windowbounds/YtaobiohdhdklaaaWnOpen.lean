/- Open of a window, of the program and of the document's own; SameInts and OverInts of what may be nil. -/
import Derived.Test.YtaobiohdhdklaaaWnOps
import Derived.Test.YtaobiohdhdklaaaIntsSameP
namespace Go.Proofs.Ytaobiohdhdklaaa
open Go.RowKit
set_option linter.unusedVariables false

/-- What the call owns, nil or not, reads as it must. -/
theorem Is.owned {w : World} {base n : Nat} {v : Value} {l : List Int} (h : w.ownsRow base 3 1 v n (ict l)) : Is w v l := by
  rcases h.2 with ⟨rfl, rfl⟩ | ⟨g, cap, cur, rfl, _⟩
  · have hl := h.1
    rw [ict_length] at hl
    obtain rfl : l = [] := List.eq_nil_of_length_eq_zero (by omega)
    exact ⟨none, 0, rfl, Nat.le_refl _, by unfold maxLen; omega, fun _ => ⟨rfl, rfl⟩, fun e => absurd rfl e⟩
  · exact Is.own h
theorem overInts_nil (w : World) : Calls Try.prog 20 #[.slice none 0 0] w fun e w' => e = .returned (.tuple #[]) ∧ w.grownBy w' none := by
  obtain ⟨i0, hi, hz0, hz1, hz2⟩ := info_parts Try.info3
  go_enter Try.func20, Try.ntmps20
  go_wp2
  go_loop [2] (fun i => i = .int .i64 0) (fun _ => 0)
  case atStart => rfl
  case round =>
    subst hrel
    go_wp2_with (at_builtin; refine wpList_append_own _ rfl _ _ 35 rfl w.heap.size 3 i0 (.int .i64 0) 1 8 Try.underlying35 hi hz0 hz1 hz2 rfl (by decide) _ 0 [] rfl ((World.ownsRow_nil _ _ _ _).alloc _) ⟨w.heap.size, 0, none⟩ 1 1 [.int .i64 (-999)] rfl rfl (cell_one_new _ _ _) (by intro u hu; simp at hu; subst hu; rfl) (by unfold maxLen; omega) (by omega) (by simp) ?_; intro v1 w1 ho1 hg1 _)
    go_end0
    exact ⟨rfl, grown_trans (grown_alloc _ _ _) hg1⟩
theorem overInts_own (n base : Nat) (v : Value) (xs : List Value) (w : World) (ho : w.ownsRow base 3 1 v n xs) (hb : base ≤ w.heap.size) (hn : n ≤ 1000000) :
    Calls Try.prog 20 #[v] w fun e w' => e = .returned (.tuple #[]) ∧ w.grownBy w' v.ownBlock := by
  rcases ho.2 with ⟨rfl, rfl⟩ | ⟨g, cap, cur, rfl, _⟩
  · exact overInts_nil w
  · exact overInts_any g n cap base xs w ho hb (by omega)

/-- What Open answers: a list of its own. -/
def OpenIs (x : WinV) (w : World) (e : Ending) (w' : World) : Prop :=
  ∃ ao c, e = .returned (.slice ao (openN x) c) ∧ w'.ownsRow w.heap.size 3 1 (.slice ao (openN x) c) (openN x) (ict (openW x)) ∧ Below w.heap.size w w'
theorem openIs_of {x : WinV} {w w' : World} {v : Value} (ho : w'.ownsRow w.heap.size 3 1 v (openN x) (ict (openW x))) (hb : Below w.heap.size w w') : OpenIs x w (.returned v) w' := by
  rcases ho.2 with ⟨rfl, e⟩ | ⟨g, cap, cur, rfl, _⟩
  · have ho' := ho
    rw [e] at ho'
    exact ⟨none, 0, by rw [e], by rw [e]; exact ho', hb⟩
  · exact ⟨_, _, rfl, ho, hb⟩
set_option maxHeartbeats 4000000 in
theorem open_any (b : Nat) (x : WinV) (w : World) (h : Wn 47 b x w) (hx : WinOk x) :
    Calls Try.prog 13 #[.pointer (some ⟨b, 0, none⟩)] w fun e w' => OpenIs x w e w' := by
  obtain ⟨i0, hi, hz0, hz1, hz2⟩ := info_parts Try.info3
  have H := hid h
  have HX := hid hx
  have c0 := h.c0
  have c1 := h.c1
  have c3 := h.c3
  have hlt := h.lt
  have hN := openN_eq hx
  have hN4 := openN_le hx
  have hc0 := hx.c0
  have hc1 := hx.c1
  have hn0 := hx.n0
  have hn1 := hx.n1
  clear h hx
  obtain ⟨c, hc⟩ : ∃ c, x.count = c := ⟨_, rfl⟩
  obtain ⟨s, hs⟩ : ∃ s, x.size = s := ⟨_, rfl⟩
  obtain ⟨n, hn⟩ : ∃ n, x.next = n := ⟨_, rfl⟩
  obtain ⟨N, hNN⟩ : ∃ N, openN x = N := ⟨_, rfl⟩
  rw [hc] at c0 hN hc0 hc1 hn1
  rw [hs] at c1 hN
  rw [hn] at c3 hN hn0 hn1
  rw [hNN] at hN hN4
  have HN := hid hNN
  have HNX := hid hn
  have hsub : IntKind.i64.wrap (c - n) = c - n := by rw [IntKind.wrap_i64]; omega
  have hmin : (if c - n < s then c - n else s) = (N : Int) := by split <;> omega
  clear hc hs hn hNN hN
  go_enter Try.func13, Try.ntmps13
  go_wp2_with fail
  go_quiet (fail)
  go_wp2
  go_loopw [3, 4, 21] (fun u i j wr => ∃ k : Nat, j = .int .i64 k ∧ k ≤ N ∧ wr.ownsRow w.heap.size 3 1 u k (ict ((openW x).take k)) ∧ Below w.heap.size w wr) (fun _ _ j _ => N - (intOf j).toNat)
  case atStart => exact ⟨0, rfl, by omega, World.ownsRow_nil _ _ _ _, below_drewNW _ _⟩
  case round =>
    obtain ⟨k, rfl, hk, ho, hb⟩ := hrel
    have hw3 := hid (H.out.below hb)
    have c3' := hw3.out.c3
    rw [HNX.out] at c3'
    have hsz := hb.size
    have HB := hid hb
    clear hb c0 c1 c3
    by_cases hlt2 : k < N
    · have d1 : decide ((k : Int) < (N : Int)) = true := by simp; omega
      have hadd : IntKind.i64.wrap (n + (k : Int)) = n + (k : Int) := by rw [IntKind.wrap_i64]; omega
      have ho4 := ho.alloc (.cells #[.int .i64 (n + (k : Int))] 3)
      have hb4 : w.heap.size ≤ (wr.alloc (.cells #[.int .i64 (n + (k : Int))] 3)).heap.size := by simp; omega
      have HB4 := hid (HB.out.trans (((Below.refl _ wr).alloc (Nat.le_refl _) (.cells #[.int .i64 (n + (k : Int))] 3)).mono hsz))
      have HO := hid ho
      obtain ⟨ao, cc, rfl⟩ := owns_slice ho
      clear ho
      go_wp2_with (at_builtin; refine wpList_append_own _ rfl _ _ 35 rfl w.heap.size 3 i0 (.int .i64 0) 1 8 Try.underlying35 hi hz0 hz1 hz2 rfl (by decide) _ k (ict ((openW x).take k)) rfl ho4 ⟨wr.heap.size, 0, none⟩ 1 1 [.int .i64 (n + (k : Int))] rfl rfl (cell_one_new _ _ _) (by intro u hu; simp at hu; subst hu; rfl) (by unfold maxLen; omega) (by omega) hb4 ?_; intro v5 w5 ho5 hg5 _)
      have HO5 := hid (show w5.ownsRow w.heap.size 3 1 v5 (k + 1) (ict ((openW x).take (k + 1))) from by rw [openW_take (by rw [HN.out]; exact hlt2), ict_append, HNX.out]; exact ho5)
      have HB5 := hid (HB4.out.grown hg5 HB4.out.size (fun q hq => (ho4.lt q hq).1))
      clear ho5 hg5 ho4
      go_wp2
      go_roundw
      case rel => exact ⟨k + 1, by go_num, by omega, HO5.out, HB5.out⟩
      case measure => simp [intOf]; omega
    · obtain rfl : k = N := by omega
      have d1 : decide ((k : Int) < (k : Int)) = false := by simp
      have HO := hid (show wr.ownsRow w.heap.size 3 1 u3 (openN x) (ict (openW x)) from by rw [HN.out]; have h5 := ho; rw [List.take_of_length_le (by rw [openW_len, HN.out]; omega)] at h5; exact h5)
      clear ho
      go_wp2
      go_ret
      exact openIs_of HO.out HB.out
set_option maxHeartbeats 4000000 in
theorem refOpen_any (b : Nat) (x : WinV) (w : World) (h : Wn 40 b x w) (hx : WinOk x) :
    Calls Try.prog 15 #[.pointer (some ⟨b, 0, none⟩)] w fun e w' => OpenIs x w e w' := by
  obtain ⟨i0, hi, hz0, hz1, hz2⟩ := info_parts Try.info3
  have H := hid h
  have c0 := h.c0
  have c1 := h.c1
  have c3 := h.c3
  have hlt := h.lt
  have hN := openN_eq hx
  have hN4 := openN_le hx
  have hc0 := hx.c0
  have hc1 := hx.c1
  have hn0 := hx.n0
  have hn1 := hx.n1
  clear h hx
  obtain ⟨c, hc⟩ : ∃ c, x.count = c := ⟨_, rfl⟩
  obtain ⟨s, hs⟩ : ∃ s, x.size = s := ⟨_, rfl⟩
  obtain ⟨n, hn⟩ : ∃ n, x.next = n := ⟨_, rfl⟩
  obtain ⟨N, hNN⟩ : ∃ N, openN x = N := ⟨_, rfl⟩
  rw [hc] at c0 hN hc0 hc1 hn1
  rw [hs] at c1 hN
  rw [hn] at c3 hN hn0 hn1
  rw [hNN] at hN hN4
  have HN := hid hNN
  have HNX := hid hn
  have HCX := hid hc
  have HSX := hid hs
  have HNE := hid hN
  clear hc hs hn hNN
  go_enter Try.func15, Try.ntmps15
  go_wp2
  go_loopw [3, 4] (fun u i wr => ∃ k : Nat, i = .int .i64 (n + (k : Int)) ∧ k ≤ N ∧ wr.ownsRow w.heap.size 3 1 u k (ict ((openW x).take k)) ∧ Below w.heap.size w wr) (fun _ i _ => N - (intOf i - n).toNat)
  case atStart => exact ⟨0, by simp, by omega, World.ownsRow_nil _ _ _ _, Below.refl _ _⟩
  case round =>
    obtain ⟨k, rfl, hk, ho, hb⟩ := hrel
    have hw3 := hid (H.out.below hb)
    have c0' := hw3.out.c0
    have c1' := hw3.out.c1
    rw [HCX.out] at c0'
    rw [HSX.out] at c1'
    have hsz := hb.size
    have HB := hid hb
    clear hb c0 c1 c3
    obtain ⟨ao, cc, rfl⟩ := owns_slice ho
    by_cases hlt2 : k < N
    · have d1 : decide (n + (k : Int) < c) = true := by simp; omega
      have d2 : decide ((k : Int) < s) = true := by simp; omega
      have hadd : IntKind.i64.wrap (n + (k : Int) + 1) = n + (k : Int) + 1 := by rw [IntKind.wrap_i64]; omega
      have ho4 := ho.alloc (.cells #[.int .i64 (n + (k : Int))] 3)
      have hb4 : w.heap.size ≤ (wr.alloc (.cells #[.int .i64 (n + (k : Int))] 3)).heap.size := by simp; omega
      have HB4 := hid (HB.out.trans (((Below.refl _ wr).alloc (Nat.le_refl _) (.cells #[.int .i64 (n + (k : Int))] 3)).mono hsz))
      have HO := hid ho
      clear ho hN
      go_wp2_with (at_builtin; refine wpList_append_own _ rfl _ _ 35 rfl w.heap.size 3 i0 (.int .i64 0) 1 8 Try.underlying35 hi hz0 hz1 hz2 rfl (by decide) _ k (ict ((openW x).take k)) rfl ho4 ⟨wr.heap.size, 0, none⟩ 1 1 [.int .i64 (n + (k : Int))] rfl rfl (cell_one_new _ _ _) (by intro u hu; simp at hu; subst hu; rfl) (by unfold maxLen; omega) (by omega) hb4 ?_; intro v5 w5 ho5 hg5 _)
      have HO5 := hid (show w5.ownsRow w.heap.size 3 1 v5 (k + 1) (ict ((openW x).take (k + 1))) from by rw [openW_take (by rw [HN.out]; exact hlt2), ict_append, HNX.out]; exact ho5)
      have HB5 := hid (HB4.out.grown hg5 HB4.out.size (fun q hq => (ho4.lt q hq).1))
      clear ho5 hg5 ho4
      go_wp2
      go_roundw
      case rel => exact ⟨k + 1, by congr 1; omega, by omega, HO5.out, HB5.out⟩
      case measure => simp [intOf]; omega
    · obtain rfl : k = N := by omega
      have HO := hid (show wr.ownsRow w.heap.size 3 1 (.slice ao k cc) (openN x) (ict (openW x)) from by rw [HN.out]; have h5 := ho; rw [List.take_of_length_le (by rw [openW_len, HN.out]; omega)] at h5; exact h5)
      clear ho
      by_cases h8 : n + (k : Int) < c
      · have d1 : decide (n + (k : Int) < c) = true := by simpa using h8
        have d2 : decide ((k : Int) < s) = false := by simp; omega
        clear hN h8
        go_wp2
        go_ret
        exact openIs_of HO.out HB.out
      · have d1 : decide (n + (k : Int) < c) = false := by simpa using h8
        clear hN h8
        go_wp2
        go_ret
        exact openIs_of HO.out HB.out
end Go.Proofs.Ytaobiohdhdklaaa
