/- VmKinds: an operation that asks for the other kind ends for that reason. -/
import Derived.Test.YtpggfdnpbipckabGreatDoorVmAll
import Derived.Test.YtpggfdnpbipckabGreatDoorLow
namespace Go.Proofs.YtpggfdnpbipckabGreatDoor
open Go.RowKit Go.Lib
set_option linter.unusedVariables false
set_option maxRecDepth 100000

theorem lowK_calls (x n : Int) (h1 : 1 ≤ n) (h2 : n ≤ 4611686018427387904) (w : World) :
    Calls Tryz.prog 6 #[.int .i64 x, .int .i64 n] w fun e w' => e = .returned (.int .i64 (low x n)) ∧ w = w' := by
  go_enter Tryz.func6, Tryz.ntmps6
  go_wp2
  go_ret
  exact ⟨by rw [low_eq x n h1 h2]; rfl, rfl⟩
theorem fits_of {l : List Inst} {key : ByteArray} (hl : l.length ≤ 100) (hn : ∀ x ∈ l, I64 x.2.1) (hk : key.size ≤ 100) : Fits l key [] := ⟨hn, hl, small_len hk, by simp, by simp⟩
theorem nums_i64 (o : Int) : ∀ x ∈ numsP o, I64 x.2.1 := by
  intro x hx
  simp only [numsP, List.mem_cons, List.mem_nil_iff, or_false] at hx
  rcases hx with rfl | rfl | rfl | rfl <;> exact i64_small (by simp) (by simp)
theorem keys_i64 (o : Int) : ∀ x ∈ keysP o, I64 x.2.1 := by
  intro x hx
  simp only [keysP, List.mem_cons, List.mem_nil_iff, or_false] at hx
  rcases hx with rfl | rfl | rfl | rfl <;> exact i64_small (by simp) (by simp)
theorem tabN (k : Nat) (hk : k < 6) : ∃ o : Int, (#[Value.int .i64 13, .int .i64 14, .int .i64 15, .int .i64 16, .int .i64 18, .int .i64 23] : Array Value)[k]? = some (.int .i64 o) ∧ (o = 13 ∨ o = 14 ∨ o = 15 ∨ o = 16 ∨ o = 18 ∨ o = 23) := by
  have hc : k = 0 ∨ k = 1 ∨ k = 2 ∨ k = 3 ∨ k = 4 ∨ k = 5 := by omega
  rcases hc with rfl | rfl | rfl | rfl | rfl | rfl
  · exact ⟨13, rfl, by omega⟩
  · exact ⟨14, rfl, by omega⟩
  · exact ⟨15, rfl, by omega⟩
  · exact ⟨16, rfl, by omega⟩
  · exact ⟨18, rfl, by omega⟩
  · exact ⟨23, rfl, by omega⟩
theorem tabT (k : Nat) (hk : k < 8) : ∃ o : Int, (#[Value.int .i64 8, .int .i64 9, .int .i64 10, .int .i64 11, .int .i64 15, .int .i64 16, .int .i64 17, .int .i64 20] : Array Value)[k]? = some (.int .i64 o) ∧ (o = 8 ∨ o = 9 ∨ o = 10 ∨ o = 11 ∨ o = 15 ∨ o = 16 ∨ o = 17 ∨ o = 20) := by
  have hc : k = 0 ∨ k = 1 ∨ k = 2 ∨ k = 3 ∨ k = 4 ∨ k = 5 ∨ k = 6 ∨ k = 7 := by omega
  rcases hc with rfl | rfl | rfl | rfl | rfl | rfl | rfl | rfl
  · exact ⟨8, rfl, by omega⟩
  · exact ⟨9, rfl, by omega⟩
  · exact ⟨10, rfl, by omega⟩
  · exact ⟨11, rfl, by omega⟩
  · exact ⟨15, rfl, by omega⟩
  · exact ⟨16, rfl, by omega⟩
  · exact ⟨17, rfl, by omega⟩
  · exact ⟨20, rfl, by omega⟩
set_option maxHeartbeats 4000000 in
theorem vmKinds_walk (w : World) (T : Tabs w) (op : Int) (wo : (Lit.int .i64 op).wf = true) (key : ByteArray) (hk : key.size ≤ maxLen) :
    Calls Tryz.prog 3 #[.int .i64 op, .string key] w fun e w' => e = .returned (.bool true) ∧ Below w.heap.size w w' := by
  have HT := hid T
  clear T wo hk
  by_cases hbig : 16 < key.size
  · have hd : decide ((16 : Int) < (key.size : Int)) = true := by simp; omega
    have K0 := hid (Below.refl w.heap.size w)
    go_enter Tryz.func3, Tryz.ntmps3
    go_wp2_with fail
    refine (awakeVm vmOk _ (vmOk.stays _ _ K0.out HT.out)).mono ?_
    rintro e wA ⟨rfl, hbA⟩
    have KA := hid (below_then K0.out hbA K0.out.size)
    clear hbA
    go_wp2
    go_ret
    exact ⟨rfl, KA.out⟩
  have hd : decide ((16 : Int) < (key.size : Int)) = false := by simp; omega
  have b1 := low_bd op 6 (by omega)
  have b2 := low_bd op 8 (by omega)
  obtain ⟨k, ek⟩ : ∃ k : Nat, low op 6 = (k : Int) := ⟨(low op 6).toNat, by omega⟩
  obtain ⟨j, ej⟩ : ∃ j : Nat, low op 8 = (j : Int) := ⟨(low op 8).toNat, by omega⟩
  rw [ek] at b1
  rw [ej] at b2
  obtain ⟨o1, t1, ho1⟩ := tabN k (by omega)
  obtain ⟨o2, t2, ho2⟩ := tabT j (by omega)
  have EK := hid ek
  have EJ := hid ej
  have R1 := hid (numsP_run (key := key) (vals := []) ho1)
  have R2 := hid (keysP_run (key := key) (vals := []) (by omega) ho2)
  clear ek ej ho1 ho2
  have K1 := hid (below_then (alloc1 w (Obj.cells #[.int .i64 13, .int .i64 14, .int .i64 15, .int .i64 16, .int .i64 18, .int .i64 23] 3)) (alloc1 _ (Obj.cells #[.int .i64 8, .int .i64 9, .int .i64 10, .int .i64 11, .int .i64 15, .int .i64 16, .int .i64 17, .int .i64 20] 3)) (by simp))
  have c1 : ((w.alloc (Obj.cells #[.int .i64 13, .int .i64 14, .int .i64 15, .int .i64 16, .int .i64 18, .int .i64 23] 3)).alloc (Obj.cells #[.int .i64 8, .int .i64 9, .int .i64 10, .int .i64 11, .int .i64 15, .int .i64 16, .int .i64 17, .int .i64 20] 3)).cell? ⟨w.heap.size, k, none⟩ = some (.int .i64 o1) := (cell_of_cells (((alloc1 _ _).block _ (by simp)).trans (new_block w _))).trans t1
  have c2 : ((w.alloc (Obj.cells #[.int .i64 13, .int .i64 14, .int .i64 15, .int .i64 16, .int .i64 18, .int .i64 23] 3)).alloc (Obj.cells #[.int .i64 8, .int .i64 9, .int .i64 10, .int .i64 11, .int .i64 15, .int .i64 16, .int .i64 17, .int .i64 20] 3)).cell? ⟨w.heap.size + 1, j, none⟩ = some (.int .i64 o2) := (cell_of_cells (new_at (by simp) _)).trans t2
  clear t1 t2
  go_enter Tryz.func3, Tryz.ntmps3
  go_wp2_with fail
  generalize ((w.alloc (Obj.cells #[.int .i64 13, .int .i64 14, .int .i64 15, .int .i64 16, .int .i64 18, .int .i64 23] 3)).alloc (Obj.cells #[.int .i64 8, .int .i64 9, .int .i64 10, .int .i64 11, .int .i64 15, .int .i64 16, .int .i64 17, .int .i64 20] 3)) = w1 at K1 c1 c2 ⊢
  refine (lowK_calls op 6 (by omega) (by omega) _).mono ?_
  rintro e wl ⟨rfl, rfl⟩
  rw [EK.out]
  have HA1 := hid (show Co (w1.alloc (Obj.cells #[.int .i64 1, .int .i64 0, .string ⟨#[]⟩, .int .i64 1, .int .i64 0, .string ⟨#[]⟩, .int .i64 1, .int .i64 0, .string ⟨#[]⟩, .int .i64 o1, .int .i64 0, .string ⟨#[]⟩] 25)) (.slice (some ⟨w1.heap.size, 0, none⟩) 4 4) (numsP o1) from Co.made (numsP o1) w1 (by simp [numsP]))
  have K2 := hid (below_then K1.out (alloc1 w1 (Obj.cells #[.int .i64 1, .int .i64 0, .string ⟨#[]⟩, .int .i64 1, .int .i64 0, .string ⟨#[]⟩, .int .i64 1, .int .i64 0, .string ⟨#[]⟩, .int .i64 o1, .int .i64 0, .string ⟨#[]⟩] 25)) K1.out.size)
  have hq : w.heap.size + 1 < w1.heap.size := by
    rcases Nat.lt_or_ge (w.heap.size + 1) w1.heap.size with h | h
    · exact h
    · simp [World.cell?, Array.getElem?_eq_none h] at c2
  have c3 : (w1.alloc (Obj.cells #[.int .i64 1, .int .i64 0, .string ⟨#[]⟩, .int .i64 1, .int .i64 0, .string ⟨#[]⟩, .int .i64 1, .int .i64 0, .string ⟨#[]⟩, .int .i64 o1, .int .i64 0, .string ⟨#[]⟩] 25)).cell? ⟨w.heap.size + 1, j, none⟩ = some (.int .i64 o2) := ((alloc1 w1 _).cell (p := ⟨w.heap.size + 1, j, none⟩) hq).trans c2
  clear c2
  go_wp2_with fail
  generalize w1.alloc (Obj.cells #[.int .i64 1, .int .i64 0, .string ⟨#[]⟩, .int .i64 1, .int .i64 0, .string ⟨#[]⟩, .int .i64 1, .int .i64 0, .string ⟨#[]⟩, .int .i64 o1, .int .i64 0, .string ⟨#[]⟩] 25) = w2 at K2 HA1 c3 ⊢
  clear c1
  refine (lowK_calls op 8 (by omega) (by omega) _).mono ?_
  rintro e wl ⟨rfl, rfl⟩
  rw [EJ.out]
  have HB := hid (show Co (w2.alloc (Obj.cells #[.int .i64 6, .int .i64 0, .string ⟨#[]⟩, .int .i64 6, .int .i64 0, .string ⟨#[]⟩, .int .i64 6, .int .i64 0, .string ⟨#[]⟩, .int .i64 o2, .int .i64 0, .string ⟨#[]⟩] 25)) (.slice (some ⟨w2.heap.size, 0, none⟩) 4 4) (keysP o2) from Co.made (keysP o2) w2 (by simp [keysP]))
  have HA := hid (HA1.out.below (alloc1 w2 (Obj.cells #[.int .i64 6, .int .i64 0, .string ⟨#[]⟩, .int .i64 6, .int .i64 0, .string ⟨#[]⟩, .int .i64 6, .int .i64 0, .string ⟨#[]⟩, .int .i64 o2, .int .i64 0, .string ⟨#[]⟩] 25)))
  have K3 := hid (below_then K2.out (alloc1 w2 (Obj.cells #[.int .i64 6, .int .i64 0, .string ⟨#[]⟩, .int .i64 6, .int .i64 0, .string ⟨#[]⟩, .int .i64 6, .int .i64 0, .string ⟨#[]⟩, .int .i64 o2, .int .i64 0, .string ⟨#[]⟩] 25)) K2.out.size)
  go_wp2_with fail
  generalize w2.alloc (Obj.cells #[.int .i64 6, .int .i64 0, .string ⟨#[]⟩, .int .i64 6, .int .i64 0, .string ⟨#[]⟩, .int .i64 6, .int .i64 0, .string ⟨#[]⟩, .int .i64 o2, .int .i64 0, .string ⟨#[]⟩] 25) = w3 at K3 HA HB ⊢
  clear c3 hq HA1
  refine (vmOk.runs (vmOk.stays _ _ K3.out HT.out) HA.out (Reads.nil _) (fits_of (by simp [numsP]) (nums_i64 o1) (by omega)) (i64_small (by omega) (by omega)) R1.out).mono ?_
  rintro e w4 ⟨x4, rfl, ho4, hb4⟩
  clear ho4
  have K4 := hid (below_then K3.out hb4 K3.out.size)
  have HA := hid (HA.out.below hb4)
  have HB := hid (HB.out.below hb4)
  clear hb4
  go_wp2_with fail
  refine (vmOk.runs (vmOk.stays _ _ K4.out HT.out) HB.out (Reads.nil _) (fits_of (by simp [keysP]) (keys_i64 o2) (by omega)) (i64_small (by omega) (by omega)) R2.out).mono ?_
  rintro e w5 ⟨x5, rfl, ho5, hb5⟩
  clear ho5
  have K5 := hid (below_then K4.out hb5 K4.out.size)
  have HA := hid (HA.out.below hb5)
  have HB := hid (HB.out.below hb5)
  clear hb5
  go_wp2_with fail
  refine (vmOk.does (vmOk.stays _ _ K5.out HT.out) HA.out (Reads.nil _) (fits_of (by simp [numsP]) (nums_i64 o1) (by omega)) (i64_small (by omega) (by omega)) R1.out).mono ?_
  rintro e w6 ⟨rfl, hb6⟩
  have K6 := hid (below_then K5.out hb6 K5.out.size)
  have HA := hid (HA.out.below hb6)
  have HB := hid (HB.out.below hb6)
  clear hb6
  go_wp2_with fail
  refine (vmOk.does (vmOk.stays _ _ K6.out HT.out) HB.out (Reads.nil _) (fits_of (by simp [keysP]) (keys_i64 o2) (by omega)) (i64_small (by omega) (by omega)) R2.out).mono ?_
  rintro e w7 ⟨rfl, hb7⟩
  have K7 := hid (below_then K6.out hb7 K6.out.size)
  have HA := hid (HA.out.below hb7)
  have HB := hid (HB.out.below hb7)
  clear hb7
  go_wp2_with fail
  refine (awakeVm vmOk _ (vmOk.stays _ _ K7.out HT.out)).mono ?_
  rintro e wA ⟨rfl, hbA⟩
  have KA := hid (below_then K7.out hbA K7.out.size)
  clear hbA
  go_wp2
  go_ret
  exact ⟨rfl, KA.out⟩
end Go.Proofs.YtpggfdnpbipckabGreatDoor
