/- VmSums: a loop that adds up its values tells their sum. -/
import Derived.Test.YtpggfdnpbipckabGreatDoorVmAll
import Derived.Test.YtpggfdnpbipckabGreatDoorRds
namespace Go.Proofs.YtpggfdnpbipckabGreatDoor
open Go.RowKit Go.Lib
set_option linter.unusedVariables false
set_option maxRecDepth 100000

instance : Inhabited ByteArray := ⟨ByteArray.empty⟩
theorem opens_texts : Opens Tryz.prog 33 1 (rSlice 1 rStr) := opens_slice Tryz.underlying33 (by kernel_rfl) (by decide) (opens_str Tryz.underlying9)
theorem opens_nums : Opens Tryz.prog 23 1 (rSlice 1 (rInt .i64)) := opens_slice Tryz.underlying23 (by kernel_rfl) (by decide) (opens_int Tryz.underlying3)
theorem txs_arg {w : World} {v : Value} {l : List ByteArray} (h : rSlice 1 rStr w [v] l) : Txs w v l := by
  obtain ⟨ao, cap, hv, h1, h2, h3, h4⟩ := h
  refine ⟨ao, cap, by simpa using hv, h1, h2, h3, fun hl => ?_⟩
  obtain ⟨b, off, rfl, hlt, hc⟩ := h4 hl
  refine ⟨b, off, rfl, hlt, fun j x hj k u hk => ?_⟩
  obtain ⟨ds, hd, hr, hu⟩ := hc j x hj
  have e : ds = encT x := hr.1
  subst e
  exact hu k u hk
theorem wf_i64 {n : Int} (wf : (Lit.int .i64 n).wf = true) : I64 n := by
  have e1 : IntKind.i64.min = -9223372036854775808 := rfl
  have e2 : IntKind.i64.max = 9223372036854775807 := rfl
  simp [Lit.wf, e1, e2] at wf
  exact ⟨by omega, by omega⟩
theorem ints_arg {w : World} {v : Value} {l : List Int} (h : rSlice 1 (rInt .i64) w [v] l) : Reads 1 encK w v l ∧ ∀ x ∈ l, I64 x := by
  obtain ⟨ao, cap, hv, h1, h2, h3, h4⟩ := h
  refine ⟨⟨ao, cap, by simpa using hv, h1, h2, h3, fun hl => ?_⟩, fun x hx => ?_⟩
  · obtain ⟨b, off, rfl, hlt, hc⟩ := h4 hl
    refine ⟨b, off, rfl, hlt, fun j x hj k u hk => ?_⟩
    obtain ⟨ds, hd, hr, hu⟩ := hc j x hj
    have e : ds = encK x := hr.1
    subst e
    exact hu k u hk
  · obtain ⟨j, hj, rfl⟩ := List.getElem_of_mem hx
    obtain ⟨b, off, rfl, hlt, hc⟩ := h4 (List.ne_nil_of_mem hx)
    obtain ⟨ds, hd, hr, hu⟩ := hc j l[j] (List.getElem?_eq_getElem hj)
    exact wf_i64 hr.2
theorem sumOf_snoc (c : Int) (l : List ByteArray) (v : ByteArray) : sumOf c (l ++ [v]) = wrap64 (vNum v.data.toList + sumOf c l) := by
  induction l generalizing c with
  | nil => rfl
  | cons a l ih => exact ih _
theorem one_new (w : World) (x : Value) (t : TypeId) : ∀ j u, [x][j]? = some u → (w.alloc (.cells #[x] t)).cell? ((⟨w.heap.size, 0, none⟩ : Addr).add j) = some u := by
  intro j u h
  have : j = 0 := by
    have := (List.getElem?_eq_some_iff.1 h).1
    simp at this
    omega
  subst this
  simp at h
  subst h
  simp [go_sem, Addr.add]
def nat (n : Int) : ByteArray := txt (itoa n)
theorem nat_num {n : Int} (h : I64 n) : vNum (nat n).data.toList = n := by
  unfold nat txt
  exact vNum_itoa h
theorem nat_size {n : Int} (h : I64 n) : (nat n).size ≤ 64 := by
  have := itoa_small h
  exact this
abbrev sumCells : Array Value := (icl sumP).toArray
theorem sum_nums : ∀ x ∈ sumP, I64 x.2.1 := by
  intro x hx
  simp only [sumP, List.mem_cons, List.mem_nil_iff, or_false] at hx
  rcases hx with rfl | rfl | rfl | rfl | rfl | rfl | rfl | rfl | rfl | rfl | rfl | rfl <;> exact i64_small (by simp) (by simp)
theorem snoc_row {w : World} {base e s : Nat} {v : Value} {l : List ByteArray} {k : Nat} {x : ByteArray} (h : w.ownsRow base e s v (k + 1) (fl encT l ++ [.string x])) : w.ownsRow base e s v (k + 1) (fl encT (l ++ [x])) := by
  rw [fl_append]
  exact h
theorem take_snoc {α : Type} {l : List α} {k : Nat} (h : k < l.length) : l.take (k + 1) = l.take k ++ [l[k]] := List.take_succ_eq_append_getElem h

set_option maxHeartbeats 4000000 in
theorem vmSums_plain (w : World) (T : Tabs w) (key : ByteArray) (hkey : key.size ≤ maxLen) (u : Value) (vals : List ByteArray) (hu : Txs w u vals) (n : Value) (ns : List Int) (hn : Reads 1 encK w n ns) (hni : ∀ x ∈ ns, I64 x) :
    Calls Tryz.prog 4 #[.string key, u, n] w fun e w' => e = .returned (.bool true) ∧ Below w.heap.size w w' := by
  have HT := hid T
  have HU := hid hu
  have HN := hid hn
  have HI := hid hni
  obtain ⟨i0, hi, hz0, hz1, hz2⟩ := info_parts Tryz.infoT
  obtain ⟨uo, uc, rfl, u1, u2, u3, u4⟩ := hu
  obtain ⟨no, nc, rfl, n1, n2, n3, n4⟩ := hn
  have HU4 := hid u4
  have HN4 := hid n4
  clear T u3 u4 n3 n4 hni
  unfold maxLen at u2 n2
  have K0 := hid (Below.refl w.heap.size w)
  by_cases hk : 16 < key.size
  · have hd : decide ((16 : Int) < (key.size : Int)) = true := by simp; omega
    go_enter Tryz.func4, Tryz.ntmps4
    go_wp2_with fail
    refine (awakeVm vmOk _ (vmOk.stays _ _ K0.out HT.out)).mono ?_
    rintro e wA ⟨rfl, hbA⟩
    have KA := hid (below_then K0.out hbA K0.out.size)
    clear hbA
    go_wp2
    go_ret
    exact ⟨rfl, KA.out⟩
  have hd1 : decide ((16 : Int) < (key.size : Int)) = false := by simp; omega
  by_cases hl : 30 < vals.length
  · have hd : decide ((30 : Int) < (vals.length : Int)) = true := by simp; omega
    go_enter Tryz.func4, Tryz.ntmps4
    go_wp2_with fail
    refine (awakeVm vmOk _ (vmOk.stays _ _ K0.out HT.out)).mono ?_
    rintro e wA ⟨rfl, hbA⟩
    have KA := hid (below_then K0.out hbA K0.out.size)
    clear hbA
    go_wp2
    go_ret
    exact ⟨rfl, KA.out⟩
  have hd2 : decide ((30 : Int) < (vals.length : Int)) = false := by simp; omega
  by_cases hm : 30 < ns.length
  · have hd : decide ((30 : Int) < (ns.length : Int)) = true := by simp; omega
    go_enter Tryz.func4, Tryz.ntmps4
    go_wp2_with fail
    refine (awakeVm vmOk _ (vmOk.stays _ _ K0.out HT.out)).mono ?_
    rintro e wA ⟨rfl, hbA⟩
    have KA := hid (below_then K0.out hbA K0.out.size)
    clear hbA
    go_wp2
    go_ret
    exact ⟨rfl, KA.out⟩
  have hd3 : decide ((30 : Int) < (ns.length : Int)) = false := by simp; omega
  go_enter Tryz.func4, Tryz.ntmps4
  go_wp2
  go_loopw [9, 7, 8] (fun i a s wr => ∃ k : Nat, k ≤ vals.length ∧ i = .int .i64 k ∧ wr.ownsRow w.heap.size 9 1 a k (fl encT (vals.take k)) ∧ s = .int .i64 (sumOf 0 (vals.take k)) ∧ Below w.heap.size w wr ∧ ∀ x ∈ vals.take k, x.size ≤ 64) (fun i _ _ _ => vals.length - (Go.RowKit.intOf i).toNat)
  case atStart => exact ⟨0, by omega, rfl, World.ownsRow_nil _ _ _ _, rfl, Below.refl _ _, by simp⟩
  case round =>
    obtain ⟨k, hkk, rfl, hown, rfl, hbel, hall⟩ := hrel
    have HO := hid hown
    have K1 := hid hbel
    have HA := hid hall
    clear hown hbel hall
    by_cases hlt : k < vals.length
    · have hd4 : decide ((k : Int) < (vals.length : Int)) = true := by simp; omega
      obtain ⟨b, off, rfl, hb, hc⟩ := HU4.out (by intro e; rw [e] at hlt; simp at hlt)
      have HX0 := hid (show w.cell? ⟨b, off + k, none⟩ = some (.string vals[k]) from by
        have := hc k vals[k] (List.getElem?_eq_getElem hlt) 0 _ rfl
        simpa using this)
      have x0 : wr.cell? ⟨b, off + k, none⟩ = some (.string vals[k]) := (K1.out.cell (p := ⟨b, off + k, none⟩) hb).trans HX0.out
      have HS := hid (take_snoc hlt)
      generalize vals[k] = x at HX0 x0 HS
      clear hc
      by_cases hbig : 64 < x.size
      · have hd5 : decide ((64 : Int) < (x.size : Int)) = true := by simp; omega
        go_wp2_with fail
        refine (awakeVm vmOk _ (vmOk.stays _ _ K1.out HT.out)).mono ?_
        rintro e wA ⟨rfl, hbA⟩
        have KA := hid (below_then K1.out hbA K1.out.size)
        clear hbA
        go_wp2
        go_ret
        exact ⟨rfl, KA.out⟩
      · have hd5 : decide ((64 : Int) < (x.size : Int)) = false := by simp; omega
        go_wp2_with (first | (at_builtin; refine wpList_append_own _ rfl _ _ 33 rfl w.heap.size 9 i0 _ 1 16 Tryz.underlying33 hi hz0 hz1 hz2 rfl (by decide) _ k _ rfl (HO.out.alloc _) ⟨wr.heap.size, 0, none⟩ 1 1 [.string x] rfl rfl (one_new _ _ _) (by intro u hu; simp at hu; subst hu; rfl) (by unfold maxLen; omega) (by omega) (by have := K1.out.size; simp; omega) ?_; intro v1 w1 ho1 hg1 _; (have HO1 := hid ho1); (have K2 := hid ((below_then K1.out (alloc1 wr _) K1.out.size).grown hg1 (by have := K1.out.size; simp; omega) (fun q hq => owns_base HO.out hq))); (have x1 : w1.cell? ⟨b, off + k, none⟩ = some (.string x) := (K2.out.cell (p := ⟨b, off + k, none⟩) hb).trans HX0.out); clear ho1 hg1) | (go_at_call 9; refine (number_calls x (by omega) _ (HT.out.on K2.out)).mono ?_; rintro e w2 ⟨rfl, hb2⟩; (have K3 := hid (below_then K2.out hb2 K2.out.size)); (have HO2 := hid (owns_below HO1.out hb2)); clear hb2))
        go_roundw
        case rel => exact ⟨k + 1, by omega, by go_num, by rw [HS.out]; exact snoc_row HO2.out, by rw [HS.out, sumOf_snoc, Int.add_comm], K3.out, fun y hy => by
          rw [HS.out, List.mem_append] at hy
          rcases hy with hy | hy
          · exact HA.out y hy
          · rw [List.mem_singleton.1 hy]; omega⟩
        case measure => simp [Go.RowKit.intOf]; omega
    · have hd4 : decide ((k : Int) < (vals.length : Int)) = false := by simp; omega
      obtain rfl : k = vals.length := by omega
      rw [List.take_of_length_le (Nat.le_refl _)] at HO HA
      rw [List.take_of_length_le (Nat.le_refl _)]
      go_wp2
      go_loopw [10, 7, 8] (fun i a s wr => ∃ k : Nat, k ≤ ns.length ∧ i = .int .i64 k ∧ wr.ownsRow w.heap.size 9 1 a (vals.length + k) (fl encT (vals ++ (ns.take k).map nat)) ∧ s = .int .i64 (sumOf 0 (vals ++ (ns.take k).map nat)) ∧ Below w.heap.size w wr) (fun i _ _ _ => ns.length - (Go.RowKit.intOf i).toNat)
      case atStart => exact ⟨0, by omega, rfl, by simpa using HO.out, by simp, K1.out⟩
      case round =>
        clear HO K1
        obtain ⟨k, hkk, rfl, hown, rfl, hbel⟩ := hrel
        have HO := hid hown
        have K1 := hid hbel
        clear hown hbel
        by_cases hlt : k < ns.length
        · have hd6 : decide ((k : Int) < (ns.length : Int)) = true := by simp; omega
          obtain ⟨b, off, rfl, hb, hc⟩ := HN4.out (by intro e; rw [e] at hlt; simp at hlt)
          have HX0 := hid (show w.cell? ⟨b, off + k, none⟩ = some (.int .i64 ns[k]) from by
            have := hc k ns[k] (List.getElem?_eq_getElem hlt) 0 _ rfl
            simpa using this)
          have x0 : wr.cell? ⟨b, off + k, none⟩ = some (.int .i64 ns[k]) := (K1.out.cell (p := ⟨b, off + k, none⟩) hb).trans HX0.out
          have HXI := hid (HI.out _ (List.getElem_mem hlt))
          have HS := hid (show vals ++ (ns.take (k + 1)).map nat = (vals ++ (ns.take k).map nat) ++ [nat ns[k]] by rw [take_snoc hlt, List.map_append, List.append_assoc]; rfl)
          generalize ns[k] = x at HX0 x0 HS HXI
          generalize vals ++ (ns.take k).map nat = A at HO HS ⊢
          clear hc
          go_wp2_with (first | (go_at_call 10; refine (digits_calls x HXI.out _ (HT.out.on K1.out)).mono ?_; rintro e w1 ⟨rfl, hb1⟩; (have K2 := hid (below_then K1.out hb1 K1.out.size)); (have HO1 := hid (owns_below HO.out hb1)); clear hb1) | (at_builtin; refine wpList_append_own _ rfl _ _ 33 rfl w.heap.size 9 i0 _ 1 16 Tryz.underlying33 hi hz0 hz1 hz2 rfl (by decide) _ (vals.length + k) _ rfl (HO1.out.alloc _) ⟨w1.heap.size, 0, none⟩ 1 1 [.string (nat x)] rfl rfl (one_new _ _ _) (by intro u hu; simp at hu; subst hu; rfl) (by unfold maxLen; omega) (by omega) (by have := K2.out.size; simp; omega) ?_; intro v1 w2 ho1 hg1 _; (have HO2 := hid ho1); (have K3 := hid ((below_then K2.out (alloc1 w1 _) K2.out.size).grown hg1 (by have := K2.out.size; simp; omega) (fun q hq => owns_base HO1.out hq))); (have x1 : w2.cell? ⟨b, off + k, none⟩ = some (.int .i64 x) := (K3.out.cell (p := ⟨b, off + k, none⟩) hb).trans HX0.out); clear ho1 hg1))
          go_roundw
          case rel => exact ⟨k + 1, by omega, by go_num, by rw [HS.out]; exact snoc_row HO2.out, by rw [HS.out, sumOf_snoc, nat_num HXI.out, Int.add_comm], K3.out⟩
          case measure => simp [Go.RowKit.intOf]; omega
        · have hd6 : decide ((k : Int) < (ns.length : Int)) = false := by simp; omega
          obtain rfl : k = ns.length := by omega
          rw [List.take_of_length_le (Nat.le_refl _)] at HO
          rw [List.take_of_length_le (Nat.le_refl _)]
          have hsz : ∀ y ∈ vals ++ ns.map nat, y.size ≤ 64 := by
            intro y hy
            rw [List.mem_append] at hy
            rcases hy with hy | hy
            · exact HA.out y hy
            · obtain ⟨z, hz, rfl⟩ := List.mem_map.1 hy
              exact nat_size (HI.out z hz)
          have hln : (vals ++ ns.map nat).length = vals.length + ns.length := by simp
          rw [← hln] at HO
          have R := hid (sum_run (key := key) hsz (by omega) (by omega))
          have HSI := hid (sum_i64 (c := 0) (i64_small (by omega) (by omega)) (vals ++ ns.map nat))
          have HF := hid (show Fits sumP key (vals ++ ns.map nat) from ⟨sum_nums, by simp [sumP], small_len (by omega), by omega, fun y hy => small_len (by have := hsz y hy; omega)⟩)
          have hl60 : (vals ++ ns.map nat).length ≤ 60 := by omega
          clear HA hsz hln
          generalize vals ++ ns.map nat = A at HO R HSI HF hl60 ⊢
          generalize sumOf 0 A = S at R HSI ⊢
          obtain ⟨ao, ac, rfl⟩ := own_slice HO.out
          have HTX := hid (show Txs wr (.slice ao A.length ac) A from Reads.own encT_len (by decide) HO.out)
          have HP := hid (Co.made sumP wr (by simp [sumP]))
          have K2 := hid (below_then K1.out (alloc1 wr (.cells (icl sumP).toArray 25)) K1.out.size)
          have HTX2 := hid (HTX.out.below (alloc1 wr (.cells (icl sumP).toArray 25)))
          clear HO HTX
          generalize A.length = L at R hl60 HTX2 HF
          go_wp2_with fail
          refine (vmOk.runs (vmOk.stays _ _ K2.out HT.out) HP.out HTX2.out HF.out (i64_small (by omega) (by omega)) R.out).mono ?_
          rintro e w3 ⟨x3, rfl, ho3, hb3⟩
          have K3 := hid (below_then K2.out hb3 K2.out.size)
          have HP3 := hid (HP.out.below hb3)
          have HT3 := hid (HTX2.out.below hb3)
          have HO3 := hid ho3
          clear hb3 ho3 HP HTX2
          go_wp2_with fail
          refine (digits_calls S HSI.out _ (HT.out.on K3.out)).mono ?_
          rintro e w4 ⟨rfl, hb4⟩
          have hb5 := below_then hb4 (alloc1 w4 (.cells (fl encP [(key, txt (itoa S))]).toArray 38)) hb4.size
          have K5 := hid (below_then K3.out hb5 K3.out.size)
          have HP5 := hid (HP3.out.below hb5)
          have HT5 := hid (HT3.out.below hb5)
          have HO5 := hid (owns_below HO3.out hb5)
          have HQ5 := hid (Reads.made encP_len (by decide) 38 [(key, txt (itoa S))] w4 (by simp))
          clear hb4 hb5 HP3 HT3 HO3
          go_wp2_with fail
          refine (samePairs_any _ _ [(key, txt (itoa S))] _ (own_prs HO5.out) HQ5.out).mono ?_
          rintro e w6 ⟨rfl, n6, rfl⟩
          have hb6 := below_drew (w4.alloc (.cells (fl encP [(key, txt (itoa S))]).toArray 38)) n6
          have K6 := hid (below_then K5.out hb6 K5.out.size)
          have HP6 := hid (HP5.out.below hb6)
          have HT6 := hid (HT5.out.below hb6)
          clear hb6 HP5 HT5 HO5 HQ5
          go_wp2_with fail
          refine (vmOk.does (vmOk.stays _ _ K6.out HT.out) HP6.out HT6.out HF.out (i64_small (by omega) (by omega)) R.out).mono ?_
          rintro e w7 ⟨rfl, hb7⟩
          have K7 := hid (below_then K6.out hb7 K6.out.size)
          clear hb7
          go_wp2_with fail
          refine (awakeVm vmOk _ (vmOk.stays _ _ K7.out HT.out)).mono ?_
          rintro e wA ⟨rfl, hbA⟩
          have KA := hid (below_then K7.out hbA K7.out.size)
          clear hbA
          go_wp2
          go_ret
          exact ⟨rfl, KA.out⟩
/-- At arguments as they come in. -/
theorem vmSums_walk (w : World) (T : Tabs w) (key : ByteArray) (hk : key.size ≤ maxLen) (u : Value) (vals : List ByteArray) (hu : rSlice 1 rStr w [u] vals) (n : Value) (ns : List Int) (hn : rSlice 1 (rInt .i64) w [n] ns) :
    Calls Tryz.prog 4 #[.string key, u, n] w fun e w' => e = .returned (.bool true) ∧ Below w.heap.size w w' :=
  vmSums_plain w T key hk u vals (txs_arg hu) n ns (ints_arg hn).1 (ints_arg hn).2
end Go.Proofs.YtpggfdnpbipckabGreatDoor
