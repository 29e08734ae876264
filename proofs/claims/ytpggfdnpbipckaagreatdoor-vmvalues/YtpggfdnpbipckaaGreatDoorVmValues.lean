/- VmValues: a loop that takes all values tells each, in their order. -/
import Derived.Test.YtpggfdnpbipckaaGreatDoorVArg
namespace Go.Proofs.YtpggfdnpbipckaaGreatDoor
open Go.RowKit Go.Lib
set_option linter.unusedVariables false
set_option maxRecDepth 100000

theorem tell_nums : ∀ x ∈ tellP, I64 x.2.1 := by
  intro x hx
  simp only [tellP, List.mem_cons, List.mem_nil_iff, or_false] at hx
  rcases hx with rfl | rfl | rfl | rfl | rfl | rfl | rfl | rfl <;> exact i64_small (by simp) (by simp)
set_option maxHeartbeats 4000000 in
theorem vmValues_plain (w : World) (T : Tabs w) (key : ByteArray) (hkey : key.size ≤ maxLen) (u : Value) (vals : List ByteArray) (hu : Txs w u vals) :
    Calls Tryz.prog 7 #[.string key, u] w fun e w' => e = .returned (.bool true) ∧ Below w.heap.size w w' := by
  have HT := hid T
  have HU := hid hu
  obtain ⟨uo, uc, rfl, u1, u2, u3, u4⟩ := hu
  have HU4 := hid u4
  clear T u3 u4
  unfold maxLen at u2
  have K0 := hid (Below.refl w.heap.size w)
  by_cases hk : 16 < key.size
  · have hd : decide ((16 : Int) < (key.size : Int)) = true := by simp; omega
    go_enter Tryz.func7, Tryz.ntmps7
    go_wp2_with fail
    refine (awakeVm vmOk _ (vmOk.stays _ _ K0.out HT.out)).mono ?_
    rintro e wA ⟨rfl, hbA⟩
    have KA := hid (below_then K0.out hbA K0.out.size)
    clear hbA
    go_wp2
    go_ret
    exact ⟨rfl, KA.out⟩
  have hd1 : decide ((16 : Int) < (key.size : Int)) = false := by simp; omega
  by_cases hl : 50 < vals.length
  · have hd : decide ((50 : Int) < (vals.length : Int)) = true := by simp; omega
    go_enter Tryz.func7, Tryz.ntmps7
    go_wp2_with fail
    refine (awakeVm vmOk _ (vmOk.stays _ _ K0.out HT.out)).mono ?_
    rintro e wA ⟨rfl, hbA⟩
    have KA := hid (below_then K0.out hbA K0.out.size)
    clear hbA
    go_wp2
    go_ret
    exact ⟨rfl, KA.out⟩
  have hd2 : decide ((50 : Int) < (vals.length : Int)) = false := by simp; omega
  go_enter Tryz.func7, Tryz.ntmps7
  go_wp2
  go_loop [5] (fun i => ∃ k : Nat, k ≤ vals.length ∧ i = .int .i64 k ∧ ∀ x ∈ vals.take k, x.size ≤ 64) (fun i => vals.length - (Go.RowKit.intOf i).toNat)
  case atStart => exact ⟨0, by omega, rfl, by simp⟩
  case round =>
    obtain ⟨k, hkk, rfl, hall⟩ := hrel
    have HA := hid hall
    clear hall
    by_cases hlt : k < vals.length
    · have hd4 : decide ((k : Int) < (vals.length : Int)) = true := by simp; omega
      obtain ⟨b, off, rfl, hb, hc⟩ := HU4.out (by intro e; rw [e] at hlt; simp at hlt)
      have x0 : w.cell? ⟨b, off + k, none⟩ = some (.string vals[k]) := by
        have := hc k vals[k] (List.getElem?_eq_getElem hlt) 0 _ rfl
        simpa using this
      have HS := hid (show vals.take (k + 1) = vals.take k ++ [vals[k]] from List.take_succ_eq_append_getElem hlt)
      generalize vals[k] = x at x0 HS
      clear hc
      by_cases hbig : 64 < x.size
      · have hd5 : decide ((64 : Int) < (x.size : Int)) = true := by simp; omega
        go_wp2_with fail
        refine (awakeVm vmOk _ (vmOk.stays _ _ K0.out HT.out)).mono ?_
        rintro e wA ⟨rfl, hbA⟩
        have KA := hid (below_then K0.out hbA K0.out.size)
        clear hbA
        go_wp2
        go_ret
        exact ⟨rfl, KA.out⟩
      · have hd5 : decide ((64 : Int) < (x.size : Int)) = false := by simp; omega
        go_wp2
        go_round
        case rel => exact ⟨k + 1, by omega, by go_num, fun y hy => by
          rw [HS.out, List.mem_append] at hy
          rcases hy with hy | hy
          · exact HA.out y hy
          · rw [List.mem_singleton.1 hy]; omega⟩
        case measure => simp [Go.RowKit.intOf]; omega
    · have hd4 : decide ((k : Int) < (vals.length : Int)) = false := by simp; omega
      obtain rfl : k = vals.length := by omega
      rw [List.take_of_length_le (Nat.le_refl _)] at HA
      have hR := tell_run (key := key) HA.out (by omega) (by omega)
      have HF := hid (show Fits tellP key vals from ⟨tell_nums, by simp [tellP], small_len (by omega), by omega, fun y hy => small_len (by have := HA.out y hy; omega)⟩)
      have K1 := hid (alloc1 w (Obj.cells (icl tellP).toArray 43))
      have HP := hid (Co.made tellP w (by simp [tellP]))
      have HU1 := hid (HU.out.below (alloc1 w (Obj.cells (icl tellP).toArray 43)))
      by_cases hmany : 40 < vals.length
      · have hd6 : decide ((40 : Int) < (vals.length : Int)) = true := by simp; omega
        rw [if_neg (by omega)] at hR
        have R := hid hR
        clear hR
        go_wp2_with fail
        refine (vmOk.runs (vmOk.stays _ _ K1.out HT.out) HP.out HU1.out HF.out (i64_small (by omega) (by omega)) R.out).mono ?_
        rintro e w2 ⟨x2, rfl, ho2, hb2⟩
        have K2 := hid (below_then K1.out hb2 K1.out.size)
        obtain ⟨ao, ac, rfl⟩ := own_slice ho2
        clear hb2 ho2
        go_wp2_with fail
        refine (awakeVm vmOk _ (vmOk.stays _ _ K2.out HT.out)).mono ?_
        rintro e wA ⟨rfl, hbA⟩
        have KA := hid (below_then K2.out hbA K2.out.size)
        clear hbA
        go_wp2
        go_ret
        exact ⟨rfl, KA.out⟩
      · have hd6 : decide ((40 : Int) < (vals.length : Int)) = false := by simp; omega
        rw [if_pos (by omega)] at hR
        have R := hid hR
        clear hR
        go_wp2_with fail
        refine (vmOk.runs (vmOk.stays _ _ K1.out HT.out) HP.out HU1.out HF.out (i64_small (by omega) (by omega)) R.out).mono ?_
        rintro e w2 ⟨x2, rfl, ho2, hb2⟩
        have K2 := hid (below_then K1.out hb2 K1.out.size)
        have HP2 := hid (HP.out.below hb2)
        have HU2 := hid (HU1.out.below hb2)
        obtain ⟨ao, ac, rfl⟩ := own_slice ho2
        have HO2 := hid ho2
        clear hb2 ho2 HP HU1
        go_wp2_with fail
        refine (vmOk.does (vmOk.stays _ _ K2.out HT.out) HP2.out HU2.out HF.out (i64_small (by omega) (by omega)) R.out).mono ?_
        rintro e w3 ⟨rfl, hb3⟩
        have K3 := hid (below_then K2.out hb3 K2.out.size)
        have HO3 := hid (owns_below HO2.out hb3)
        clear hb3 HO2 HP2 HU2 R
        go_wp2
        go_loopw [9] (fun i wr => ∃ k : Nat, k ≤ vals.length ∧ i = .int .i64 k ∧ Below w.heap.size w wr ∧ Prs wr (.slice ao vals.length ac) (vals.map fun v => (key, v))) (fun i _ => vals.length - (Go.RowKit.intOf i).toNat)
        case atStart => exact ⟨0, by omega, rfl, K3.out, by have := own_prs HO3.out; rw [List.length_map] at this; exact this⟩
        case round =>
          clear HO3 K3
          obtain ⟨k, hkk, rfl, hbel, hprs⟩ := hrel
          have K4 := hid hbel
          have HQ := hid hprs
          clear hbel hprs
          by_cases hlt : k < vals.length
          · have hd7 : decide ((k : Int) < (vals.length : Int)) = true := by simp; omega
            obtain ⟨b, off, rfl, hb, hc⟩ := HU4.out (by intro e; rw [e] at hlt; simp at hlt)
            have x0 : wr.cell? ⟨b, off + k, none⟩ = some (.string vals[k]) := by
              have := (K4.out.cell (p := ⟨b, off + k * 1 + 0, none⟩) hb).trans (hc k vals[k] (List.getElem?_eq_getElem hlt) 0 _ rfl)
              simpa using this
            obtain ⟨g, of, rfl, hg, c0, c1⟩ := Prs.cell HQ.out (j := k) (by simpa using hlt)
            rw [List.getElem_map] at c0 c1
            generalize vals[k] = x at x0 c0 c1
            clear hc
            have hq := pair_neq (key, x)
            have hg2 := guard_pair
            go_wp2_with fail
            go_quiet (fail)
            have K5 := hid (below_then K4.out (below_drew wr nq) K4.out.size)
            have HQ5 := hid (HQ.out.below (below_drew wr nq))
            go_wp2
            go_roundw
            case rel => exact ⟨k + 1, by omega, by go_num, K5.out, HQ5.out⟩
            case measure => simp [Go.RowKit.intOf]; omega
          · have hd7 : decide ((k : Int) < (vals.length : Int)) = false := by simp; omega
            go_wp2_with fail
            refine (awakeVm vmOk _ (vmOk.stays _ _ K4.out HT.out)).mono ?_
            rintro e wA ⟨rfl, hbA⟩
            have KA := hid (below_then K4.out hbA K4.out.size)
            clear hbA
            go_wp2
            go_ret
            exact ⟨rfl, KA.out⟩
theorem vmValues_walk (w : World) (T : Tabs w) (key : ByteArray) (hk : key.size ≤ maxLen) (u : Value) (vals : List ByteArray) (hu : rSlice 1 rStr w [u] vals) :
    Calls Tryz.prog 7 #[.string key, u] w fun e w' => e = .returned (.bool true) ∧ Below w.heap.size w w' :=
  vmValues_plain w T key hk u vals (Txs.arg hu).1
end Go.Proofs.YtpggfdnpbipckaaGreatDoor
