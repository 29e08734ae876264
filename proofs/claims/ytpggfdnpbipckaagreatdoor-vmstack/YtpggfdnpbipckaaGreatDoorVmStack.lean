/- VmStack: as many values as there is room for may stand on the stack. -/
import Derived.Test.YtpggfdnpbipckaaGreatDoorVmAll
import Derived.Test.YtpggfdnpbipckaaGreatDoorLow
namespace Go.Proofs.YtpggfdnpbipckaaGreatDoor
open Go.RowKit Go.Lib
set_option linter.unusedVariables false
set_option maxRecDepth 100000

theorem lowS_calls (x n : Int) (h1 : 1 ≤ n) (h2 : n ≤ 4611686018427387904) (w : World) :
    Calls Tryz.prog 22 #[.int .i64 x, .int .i64 n] w fun e w' => e = .returned (.int .i64 (low x n)) ∧ w = w' := by
  go_enter Tryz.func22, Tryz.ntmps22
  go_wp2
  go_ret
  exact ⟨by rw [low_eq x n h1 h2]; rfl, rfl⟩
theorem Tryz.infoI : (Tryz.prog.info? 43).map (fun i => (i.zero, i.size, i.bytes)) = some (some (.agg #[.int .i64 0, .int .i64 0, .string ⟨#[]⟩]), 3, 32) := by kernel_rfl
theorem three_new (w : World) (x y z : Value) (t : TypeId) : ∀ j u, [x, y, z][j]? = some u → (w.alloc (.cells #[x, y, z] t)).cell? ((⟨w.heap.size, 0, none⟩ : Addr).add j) = some u := by
  intro j u h
  have : j = 0 ∨ j = 1 ∨ j = 2 := by
    have := (List.getElem?_eq_some_iff.1 h).1
    simp at this
    omega
  rcases this with rfl | rfl | rfl <;> (simp at h; subst h; simp [go_sem, Addr.add])
theorem tabS (k : Nat) (hk : k < 17) : ∃ o : Int, (#[.int .i64 3, .int .i64 4, .int .i64 5, .int .i64 8, .int .i64 9, .int .i64 10, .int .i64 11, .int .i64 12, .int .i64 13, .int .i64 14, .int .i64 15, .int .i64 16, .int .i64 17, .int .i64 18, .int .i64 20, .int .i64 22, .int .i64 23] : Array Value)[k]? = some (.int .i64 o) ∧ under o := by
  have hc : k = 0 ∨ k = 1 ∨ k = 2 ∨ k = 3 ∨ k = 4 ∨ k = 5 ∨ k = 6 ∨ k = 7 ∨ k = 8 ∨ k = 9 ∨ k = 10 ∨ k = 11 ∨ k = 12 ∨ k = 13 ∨ k = 14 ∨ k = 15 ∨ k = 16 := by omega
  rcases hc with rfl | rfl | rfl | rfl | rfl | rfl | rfl | rfl | rfl | rfl | rfl | rfl | rfl | rfl | rfl | rfl | rfl
  · exact ⟨3, rfl, by unfold under; omega⟩
  · exact ⟨4, rfl, by unfold under; omega⟩
  · exact ⟨5, rfl, by unfold under; omega⟩
  · exact ⟨8, rfl, by unfold under; omega⟩
  · exact ⟨9, rfl, by unfold under; omega⟩
  · exact ⟨10, rfl, by unfold under; omega⟩
  · exact ⟨11, rfl, by unfold under; omega⟩
  · exact ⟨12, rfl, by unfold under; omega⟩
  · exact ⟨13, rfl, by unfold under; omega⟩
  · exact ⟨14, rfl, by unfold under; omega⟩
  · exact ⟨15, rfl, by unfold under; omega⟩
  · exact ⟨16, rfl, by unfold under; omega⟩
  · exact ⟨17, rfl, by unfold under; omega⟩
  · exact ⟨18, rfl, by unfold under; omega⟩
  · exact ⟨20, rfl, by unfold under; omega⟩
  · exact ⟨22, rfl, by unfold under; omega⟩
  · exact ⟨23, rfl, by unfold under; omega⟩
theorem stack_nums (n : Nat) (hn : n ≤ 100) : ∀ x ∈ stackP n, I64 x.2.1 := by
  intro x hx
  obtain ⟨i, hi, rfl⟩ := List.mem_map.1 hx
  have := List.mem_range.1 hi
  exact i64_small (by simp only; omega) (by simp only; omega)
theorem icl_snoc (l : List Inst) (a b : Int) (s : ByteArray) : icl (l ++ [(a, b, s)]) = icl l ++ [.int .i64 a, .int .i64 b, .string s] := by rw [icl_append]; rfl
set_option maxHeartbeats 4000000 in
theorem vmStack_walk (w : World) (T : Tabs w) (n : Int) (wn : (Lit.int .i64 n).wf = true) (op : Int) (wo : (Lit.int .i64 op).wf = true) :
    Calls Tryz.prog 8 #[.int .i64 n, .int .i64 op] w fun e w' => e = .returned (.bool true) ∧ Below w.heap.size w w' := by
  have HT := hid T
  clear T wn wo
  obtain ⟨i0, hi, hz0, hz1, hz2⟩ := info_parts Tryz.infoI
  have b1 := low_bd n 25 (by omega)
  have b2 := low_bd op 17 (by omega)
  obtain ⟨N, eN⟩ : ∃ k : Nat, low n 25 = (k : Int) := ⟨(low n 25).toNat, by omega⟩
  obtain ⟨j, ej⟩ : ∃ j : Nat, low op 17 = (j : Int) := ⟨(low op 17).toNat, by omega⟩
  rw [eN] at b1
  rw [ej] at b2
  obtain ⟨o, t1, ho⟩ := tabS j (by omega)
  have EN := hid eN
  have EJ := hid ej
  have T1 := hid t1
  have R2 := hid (under_run (key := kB) (vals := []) ho)
  clear eN ej ho t1
  go_enter Tryz.func8, Tryz.ntmps8
  go_wp2_with fail
  refine (lowS_calls n 25 (by omega) (by omega) _).mono ?_
  rintro e wl ⟨rfl, rfl⟩
  rw [EN.out]
  go_wp2
  go_loopw [6, 5] (fun i a wr => ∃ k : Nat, k ≤ N ∧ i = .int .i64 k ∧ wr.ownsRow w.heap.size 43 3 a k (icl (stackP k)) ∧ Below w.heap.size w wr) (fun i _ _ => N - (Go.RowKit.intOf i).toNat)
  case atStart => exact ⟨0, by omega, rfl, World.ownsRow_nil _ _ _ _, Below.refl _ _⟩
  case round =>
    obtain ⟨k, hk, rfl, hown, hbel⟩ := hrel
    have HO := hid hown
    have K1 := hid hbel
    clear hown hbel
    by_cases hlt : k < N
    · have hd4 : decide ((k : Int) < (N : Int)) = true := by simp; omega
      go_wp2_with (at_builtin; refine wpList_append_own _ rfl _ _ 22 rfl w.heap.size 43 i0 _ 3 32 Tryz.underlying22 hi hz0 hz1 hz2 rfl (by decide) _ k _ rfl (HO.out.alloc _) ⟨wr.heap.size, 0, none⟩ 1 1 [.int .i64 1, .int .i64 (k : Int), .string ⟨#[]⟩] rfl rfl (three_new _ _ _ _ _) (by intro u hu; simp at hu; rcases hu with rfl | rfl | rfl <;> rfl) (by unfold maxLen; omega) (by omega) (by have := K1.out.size; simp; omega) ?_; intro v1 w1 ho1 hg1 _; (have HO1 := hid ho1); (have K2 := hid ((below_then K1.out (alloc1 wr _) K1.out.size).grown hg1 (by have := K1.out.size; simp; omega) (fun q hq => owns_base HO.out hq))); clear ho1 hg1)
      go_roundw
      case rel => exact ⟨k + 1, by omega, by go_num, by rw [stackP_succ, icl_snoc]; exact HO1.out, K2.out⟩
      case measure => simp [Go.RowKit.intOf]; omega
    · have hd4 : decide ((k : Int) < (N : Int)) = false := by simp; omega
      obtain rfl : k = N := by omega
      have HCo := hid (Co.own HO.out)
      have HF := hid (show Fits (stackP k) kB [] from ⟨stack_nums k (by omega), by rw [stackP_length]; omega, small_len (by decide), by simp, by simp⟩)
      have HF2 := hid (show Fits [(o, 0, e0)] kB [] from ⟨by intro x hx; rw [List.mem_singleton.1 hx]; exact i64_small (by simp) (by simp), by simp, small_len (by decide), by simp, by simp⟩)
      have hR := stack_run (key := kB) (vals := []) (n := k) (by omega)
      clear HO
      by_cases h16 : k ≤ 16
      · rw [if_pos h16] at hR
        have R := hid hR
        clear hR
        have hd5 : decide ((16 : Int) < (k : Int)) = false := by simp; omega
        have hmin : min (k : Int) 17 = (k : Int) := by omega
        go_wp2_with fail
        refine (vmOk.runs (vmOk.stays _ _ K1.out HT.out) HCo.out (Reads.nil _) HF.out (i64_small (by omega) (by omega)) R.out).mono ?_
        rintro e w2 ⟨x2, rfl, ho2, hb2⟩
        have K2 := hid (below_then K1.out hb2 K1.out.size)
        have HC2 := hid (HCo.out.below hb2)
        obtain ⟨ao, ac, rfl⟩ := own_slice ho2
        clear hb2 ho2
        have c1 : (w2.alloc (Obj.cells #[.int .i64 3, .int .i64 4, .int .i64 5, .int .i64 8, .int .i64 9, .int .i64 10, .int .i64 11, .int .i64 12, .int .i64 13, .int .i64 14, .int .i64 15, .int .i64 16, .int .i64 17, .int .i64 18, .int .i64 20, .int .i64 22, .int .i64 23] 3)).cell? ⟨w2.heap.size, j, none⟩ = some (.int .i64 o) := (cell_of_cells (new_block w2 _)).trans T1.out
        have hb3 := alloc1 w2 (Obj.cells #[.int .i64 3, .int .i64 4, .int .i64 5, .int .i64 8, .int .i64 9, .int .i64 10, .int .i64 11, .int .i64 12, .int .i64 13, .int .i64 14, .int .i64 15, .int .i64 16, .int .i64 17, .int .i64 18, .int .i64 20, .int .i64 22, .int .i64 23] 3)
        have K3 := hid (below_then K2.out hb3 K2.out.size)
        have HC3 := hid (HC2.out.below hb3)
        clear hb3
        go_wp2_with fail
        generalize w2.alloc (Obj.cells #[.int .i64 3, .int .i64 4, .int .i64 5, .int .i64 8, .int .i64 9, .int .i64 10, .int .i64 11, .int .i64 12, .int .i64 13, .int .i64 14, .int .i64 15, .int .i64 16, .int .i64 17, .int .i64 18, .int .i64 20, .int .i64 22, .int .i64 23] 3) = w3 at K3 HC3 c1 ⊢
        refine (lowS_calls op 17 (by omega) (by omega) _).mono ?_
        rintro e wl ⟨rfl, rfl⟩
        rw [EJ.out]
        have hb4 := alloc1 w3 (Obj.cells (icl [(o, 0, e0)]).toArray 43)
        have K4 := hid (below_then K3.out hb4 K3.out.size)
        have HC4 := hid (HC3.out.below hb4)
        clear hb4
        go_wp2_with fail
        refine (vmOk.runs (vmOk.stays _ _ K4.out HT.out) (Co.made [(o, 0, e0)] w3 (by simp)) (Reads.nil _) HF2.out (i64_small (by omega) (by omega)) R2.out).mono ?_
        rintro e w5 ⟨x5, rfl, ho5, hb5⟩
        have K5 := hid (below_then K4.out hb5 K4.out.size)
        have HC5 := hid (HC4.out.below hb5)
        clear hb5 ho5
        go_wp2_with fail
        refine (vmOk.does (vmOk.stays _ _ K5.out HT.out) HC5.out (Reads.nil _) HF.out (i64_small (by omega) (by omega)) R.out).mono ?_
        rintro e w6 ⟨rfl, hb6⟩
        have K6 := hid (below_then K5.out hb6 K5.out.size)
        clear hb6
        go_wp2_with fail
        refine (awakeVm vmOk _ (vmOk.stays _ _ K6.out HT.out)).mono ?_
        rintro e wA ⟨rfl, hbA⟩
        have KA := hid (below_then K6.out hbA K6.out.size)
        clear hbA
        go_wp2
        go_ret
        exact ⟨rfl, KA.out⟩
      · rw [if_neg h16] at hR
        have R := hid hR
        clear hR
        have hd5 : decide ((16 : Int) < (k : Int)) = true := by simp; omega
        have hmin : min (k : Int) 17 = 17 := by omega
        go_wp2_with fail
        refine (vmOk.runs (vmOk.stays _ _ K1.out HT.out) HCo.out (Reads.nil _) HF.out (i64_small (by omega) (by omega)) R.out).mono ?_
        rintro e w2 ⟨x2, rfl, ho2, hb2⟩
        have K2 := hid (below_then K1.out hb2 K1.out.size)
        have HC2 := hid (HCo.out.below hb2)
        obtain ⟨ao, ac, rfl⟩ := own_slice ho2
        clear hb2 ho2
        have c1 : (w2.alloc (Obj.cells #[.int .i64 3, .int .i64 4, .int .i64 5, .int .i64 8, .int .i64 9, .int .i64 10, .int .i64 11, .int .i64 12, .int .i64 13, .int .i64 14, .int .i64 15, .int .i64 16, .int .i64 17, .int .i64 18, .int .i64 20, .int .i64 22, .int .i64 23] 3)).cell? ⟨w2.heap.size, j, none⟩ = some (.int .i64 o) := (cell_of_cells (new_block w2 _)).trans T1.out
        have hb3 := alloc1 w2 (Obj.cells #[.int .i64 3, .int .i64 4, .int .i64 5, .int .i64 8, .int .i64 9, .int .i64 10, .int .i64 11, .int .i64 12, .int .i64 13, .int .i64 14, .int .i64 15, .int .i64 16, .int .i64 17, .int .i64 18, .int .i64 20, .int .i64 22, .int .i64 23] 3)
        have K3 := hid (below_then K2.out hb3 K2.out.size)
        have HC3 := hid (HC2.out.below hb3)
        clear hb3
        go_wp2_with fail
        generalize w2.alloc (Obj.cells #[.int .i64 3, .int .i64 4, .int .i64 5, .int .i64 8, .int .i64 9, .int .i64 10, .int .i64 11, .int .i64 12, .int .i64 13, .int .i64 14, .int .i64 15, .int .i64 16, .int .i64 17, .int .i64 18, .int .i64 20, .int .i64 22, .int .i64 23] 3) = w3 at K3 HC3 c1 ⊢
        refine (lowS_calls op 17 (by omega) (by omega) _).mono ?_
        rintro e wl ⟨rfl, rfl⟩
        rw [EJ.out]
        have hb4 := alloc1 w3 (Obj.cells (icl [(o, 0, e0)]).toArray 43)
        have K4 := hid (below_then K3.out hb4 K3.out.size)
        have HC4 := hid (HC3.out.below hb4)
        clear hb4
        go_wp2_with fail
        refine (vmOk.runs (vmOk.stays _ _ K4.out HT.out) (Co.made [(o, 0, e0)] w3 (by simp)) (Reads.nil _) HF2.out (i64_small (by omega) (by omega)) R2.out).mono ?_
        rintro e w5 ⟨x5, rfl, ho5, hb5⟩
        have K5 := hid (below_then K4.out hb5 K4.out.size)
        have HC5 := hid (HC4.out.below hb5)
        clear hb5 ho5
        go_wp2_with fail
        refine (vmOk.does (vmOk.stays _ _ K5.out HT.out) HC5.out (Reads.nil _) HF.out (i64_small (by omega) (by omega)) R.out).mono ?_
        rintro e w6 ⟨rfl, hb6⟩
        have K6 := hid (below_then K5.out hb6 K5.out.size)
        clear hb6
        go_wp2_with fail
        refine (awakeVm vmOk _ (vmOk.stays _ _ K6.out HT.out)).mono ?_
        rintro e wA ⟨rfl, hbA⟩
        have KA := hid (below_then K6.out hbA K6.out.size)
        clear hbA
        go_wp2
        go_ret
        exact ⟨rfl, KA.out⟩
end Go.Proofs.YtpggfdnpbipckaaGreatDoor
