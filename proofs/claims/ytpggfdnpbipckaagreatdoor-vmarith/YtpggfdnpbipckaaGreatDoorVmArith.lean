/- VmArith: sums, differences, products and comparisons go round as 64 bits do. -/
import Derived.Test.YtpggfdnpbipckaaGreatDoorVmAll
import Derived.Test.YtpggfdnpbipckaaGreatDoorLow
namespace Go.Proofs.YtpggfdnpbipckaaGreatDoor
open Go.RowKit Go.Lib
set_option linter.unusedVariables false
set_option maxRecDepth 100000

theorem lowA_calls (x n : Int) (h1 : 1 ≤ n) (h2 : n ≤ 4611686018427387904) (w : World) :
    Calls Tryz.prog 22 #[.int .i64 x, .int .i64 n] w fun e w' => e = .returned (.int .i64 (low x n)) ∧ w = w' := by
  go_enter Tryz.func22, Tryz.ntmps22
  go_wp2
  go_ret
  exact ⟨by rw [low_eq x n h1 h2]; rfl, rfl⟩
theorem wf_i64A {n : Int} (wf : (Lit.int .i64 n).wf = true) : I64 n := by
  have e1 : IntKind.i64.min = -9223372036854775808 := rfl
  have e2 : IntKind.i64.max = 9223372036854775807 := rfl
  simp [Lit.wf, e1, e2] at wf
  exact ⟨by omega, by omega⟩
theorem fits_arith {a b : Int} (ha : I64 a) (hb : I64 b) (o : Int) : Fits (arith a b o) e0 [] := ⟨by
  intro x hx
  simp only [arith, List.mem_cons, List.mem_nil_iff, or_false] at hx
  rcases hx with rfl | rfl | rfl | rfl | rfl | rfl
  · exact i64_small (by simp) (by simp)
  · exact ha
  · exact hb
  · exact i64_small (by simp) (by simp)
  · exact i64_small (by simp) (by simp)
  · exact i64_small (by simp) (by simp), by simp [arith], small_len (by decide), by simp, by simp⟩
theorem fits_back {s : ByteArray} (hs : s.size ≤ 64) : Fits backP e0 [s] := ⟨by
  intro x hx
  simp only [backP, List.mem_cons, List.mem_nil_iff, or_false] at hx
  rcases hx with rfl | rfl | rfl | rfl | rfl | rfl <;> exact i64_small (by simp) (by simp), by simp [backP], small_len (by decide), by simp, by intro v hv; rw [List.mem_singleton.1 hv]; exact small_len (by omega)⟩
theorem fits_dig {n : Int} (hn : I64 n) : Fits (digP n) e0 [] := ⟨by
  intro x hx
  simp only [digP, List.mem_cons, List.mem_nil_iff, or_false] at hx
  rcases hx with rfl | rfl | rfl | rfl
  · exact i64_small (by simp) (by simp)
  · exact hn
  · exact i64_small (by simp) (by simp)
  · exact i64_small (by simp) (by simp), by simp [digP], small_len (by decide), by simp, by simp⟩

theorem made_at {α : Type} {n : Nat} {enc : α → List Value} {w : World} {k q c d : Nat} {l : List α} (h : Reads n enc w (.slice (some ⟨q, 0, none⟩) c d) l) (hk : q = k) : Reads n enc w (.slice (some ⟨k, 0, none⟩) c d) l := by
  subst hk
  exact h

set_option maxHeartbeats 4000000 in
theorem arith_add (w : World) (T : Tabs w) (a b op : Int) (ha : I64 a) (hb : I64 b) (hk : low op 4 = 0) :
    Calls Tryz.prog 6 #[.int .i64 a, .int .i64 b, .int .i64 op] w fun e w' => e = .returned (.bool true) ∧ Below w.heap.size w w' := by
  have HT := hid T
  have HA := hid ha
  have HB := hid hb
  have EK := hid hk
  clear T ha hb hk
  have hA : arithOf 8 a b = wrap64 (a + b) := rfl
  have hi := arith_i64 8 a b
  have R1 := hid (arith_run a b (o := 8) (by omega) [])
  rw [hA] at hi R1
  have HI := hid hi
  have R2 := hid (back_run hi)
  have R3 := hid (dig_run hi [])
  have HS := hid (itoa_small hi)
  clear hA hi
  go_enter Tryz.func6, Tryz.ntmps6
  go_wp2_with fail
  refine (lowA_calls op 4 (by omega) (by omega) _).mono ?_
  rintro e wl ⟨rfl, rfl⟩
  rw [EK.out]
  have K1 := hid (alloc1 w (Obj.cells (icl (arith a b 8)).toArray 43))
  go_wp2_with fail
  refine (vmOk.runs (vmOk.stays _ _ K1.out HT.out) (Co.made (arith a b 8) w (by simp [arith])) (Reads.nil _) (fits_arith HA.out HB.out 8) (i64_small (by omega) (by omega)) R1.out).mono ?_
  rintro e w2 ⟨x2, rfl, ho2, hb2⟩
  have K2 := hid (below_then K1.out hb2 K1.out.size)
  obtain ⟨ao, ac, rfl⟩ := own_slice ho2
  have HO2 := hid ho2
  obtain ⟨g, off, rfl, hlt, c0, c1⟩ := Prs.cell (own_prs ho2) (j := 0) (by simp)
  clear hb2 ho2 c0
  have hb3 := alloc1 w2 (Obj.cells (icl backP).toArray 43)
  have K3 := hid (below_then K2.out hb3 K2.out.size)
  have HO3 := hid (owns_below HO2.out hb3)
  have d1 : (w2.alloc (Obj.cells (icl backP).toArray 43)).cell? ⟨g, off + 1, none⟩ = some (.string (txt (itoa (wrap64 (a + b))))) := by
    have := (hb3.cell (p := ⟨g, off + 0 * 2 + 1, none⟩) hlt).trans c1
    simpa using this
  have HC3 := hid (Co.made backP w2 (by simp [backP]))
  clear c1 hb3 HO2
  generalize txt (itoa (wrap64 (a + b))) = s at R1 R2 R3 HS d1 HO3
  have hb4 := alloc1 (w2.alloc (Obj.cells (icl backP).toArray 43)) (Obj.cells (fl encT [s]).toArray 9)
  have K4 := hid (below_then K3.out hb4 K3.out.size)
  have HO4 := hid (owns_below HO3.out hb4)
  have HC4 := hid (HC3.out.below hb4)
  have HX4 := hid (made_at (Reads.made encT_len (by decide) 9 [s] (w2.alloc (Obj.cells (icl backP).toArray 43)) (by simp)) (show (w2.alloc (Obj.cells (icl backP).toArray 43)).heap.size = w2.heap.size + 1 by simp))
  clear hb4 HO3 HC3
  have d1' : (w2.alloc (Obj.cells #[.int .i64 6, .int .i64 0, .string ⟨#[]⟩, .int .i64 7, .int .i64 0, .string ⟨#[]⟩, .int .i64 4, .int .i64 0, .string ⟨#[]⟩, .int .i64 18, .int .i64 0, .string ⟨#[]⟩, .int .i64 17, .int .i64 0, .string ⟨#[]⟩, .int .i64 23, .int .i64 0, .string ⟨#[]⟩] 43)).cell? ⟨g, off + 1, none⟩ = some (.string s) := d1
  clear d1
  go_wp2_with fail
  refine (vmOk.runs (vmOk.stays _ _ K4.out HT.out) HC4.out HX4.out (fits_back HS.out) (i64_small (by omega) (by omega)) R2.out).mono ?_
  rintro e w5 ⟨x5, rfl, ho5, hb5⟩
  have K5 := hid (below_then K4.out hb5 K4.out.size)
  have hb6 := below_then hb5 (alloc1 w5 (Obj.cells (icl (digP (wrap64 (a + b)))).toArray 43)) hb5.size
  have K6 := hid (below_then K4.out hb6 K4.out.size)
  have HO6 := hid (owns_below HO4.out hb6)
  have HP6 := hid (owns_below ho5 (alloc1 w5 (Obj.cells (icl (digP (wrap64 (a + b)))).toArray 43)))
  clear hb5 hb6 ho5 HO4 d1' HX4 HC4
  go_wp2_with fail
  refine (vmOk.runs (vmOk.stays _ _ K6.out HT.out) (Co.made (digP (wrap64 (a + b))) w5 (by simp [digP])) (Reads.nil _) (fits_dig HI.out) (i64_small (by omega) (by omega)) R3.out).mono ?_
  rintro e w7 ⟨x7, rfl, ho7, hb7⟩
  have K7 := hid (below_then K6.out hb7 K6.out.size)
  have HO7 := hid (owns_below HO6.out hb7)
  have HP7 := hid (owns_below HP6.out hb7)
  have HQ7 := hid ho7
  clear hb7 ho7 HO6 HP6
  go_wp2_with fail
  refine (samePairs_any _ _ [(e0, s)] _ (own_prs HO7.out) (own_prs HP7.out)).mono ?_
  rintro e w8 ⟨rfl, n8, rfl⟩
  have hb8 := below_drew w7 n8
  have K8 := hid (below_then K7.out hb8 K7.out.size)
  have HO8 := hid (owns_below HO7.out hb8)
  have HQ8 := hid (owns_below HQ7.out hb8)
  clear hb8 HO7 HP7 HQ7
  generalize w7.drewN n8 = w8 at K8 HO8 HQ8 ⊢
  go_wp2_with fail
  refine (samePairs_any _ _ [(e0, s)] _ (own_prs HO8.out) (own_prs HQ8.out)).mono ?_
  rintro e w9 ⟨rfl, n9, rfl⟩
  have hb9 := below_drew w8 n9
  have K9 := hid (below_then K8.out hb9 K8.out.size)
  clear hb9 HO8 HQ8
  generalize w8.drewN n9 = w9 at K9 ⊢
  go_wp2_with fail
  refine (awakeVm vmOk _ (vmOk.stays _ _ K9.out HT.out)).mono ?_
  rintro e wA ⟨rfl, hbA⟩
  have KA := hid (below_then K9.out hbA K9.out.size)
  clear hbA
  go_wp2
  go_ret
  exact ⟨rfl, KA.out⟩
set_option maxHeartbeats 4000000 in
theorem arith_sub (w : World) (T : Tabs w) (a b op : Int) (ha : I64 a) (hb : I64 b) (hk : low op 4 = 1) :
    Calls Tryz.prog 6 #[.int .i64 a, .int .i64 b, .int .i64 op] w fun e w' => e = .returned (.bool true) ∧ Below w.heap.size w w' := by
  have HT := hid T
  have HA := hid ha
  have HB := hid hb
  have EK := hid hk
  clear T ha hb hk
  have hA : arithOf 9 a b = wrap64 (a - b) := rfl
  have hi := arith_i64 9 a b
  have R1 := hid (arith_run a b (o := 9) (by omega) [])
  rw [hA] at hi R1
  have HI := hid hi
  have R2 := hid (back_run hi)
  have R3 := hid (dig_run hi [])
  have HS := hid (itoa_small hi)
  clear hA hi
  go_enter Tryz.func6, Tryz.ntmps6
  go_wp2_with fail
  refine (lowA_calls op 4 (by omega) (by omega) _).mono ?_
  rintro e wl ⟨rfl, rfl⟩
  rw [EK.out]
  have K1 := hid (alloc1 w (Obj.cells (icl (arith a b 9)).toArray 43))
  go_wp2_with fail
  refine (vmOk.runs (vmOk.stays _ _ K1.out HT.out) (Co.made (arith a b 9) w (by simp [arith])) (Reads.nil _) (fits_arith HA.out HB.out 9) (i64_small (by omega) (by omega)) R1.out).mono ?_
  rintro e w2 ⟨x2, rfl, ho2, hb2⟩
  have K2 := hid (below_then K1.out hb2 K1.out.size)
  obtain ⟨ao, ac, rfl⟩ := own_slice ho2
  have HO2 := hid ho2
  obtain ⟨g, off, rfl, hlt, c0, c1⟩ := Prs.cell (own_prs ho2) (j := 0) (by simp)
  clear hb2 ho2 c0
  have hb3 := alloc1 w2 (Obj.cells (icl backP).toArray 43)
  have K3 := hid (below_then K2.out hb3 K2.out.size)
  have HO3 := hid (owns_below HO2.out hb3)
  have d1 : (w2.alloc (Obj.cells (icl backP).toArray 43)).cell? ⟨g, off + 1, none⟩ = some (.string (txt (itoa (wrap64 (a - b))))) := by
    have := (hb3.cell (p := ⟨g, off + 0 * 2 + 1, none⟩) hlt).trans c1
    simpa using this
  have HC3 := hid (Co.made backP w2 (by simp [backP]))
  clear c1 hb3 HO2
  generalize txt (itoa (wrap64 (a - b))) = s at R1 R2 R3 HS d1 HO3
  have hb4 := alloc1 (w2.alloc (Obj.cells (icl backP).toArray 43)) (Obj.cells (fl encT [s]).toArray 9)
  have K4 := hid (below_then K3.out hb4 K3.out.size)
  have HO4 := hid (owns_below HO3.out hb4)
  have HC4 := hid (HC3.out.below hb4)
  have HX4 := hid (made_at (Reads.made encT_len (by decide) 9 [s] (w2.alloc (Obj.cells (icl backP).toArray 43)) (by simp)) (show (w2.alloc (Obj.cells (icl backP).toArray 43)).heap.size = w2.heap.size + 1 by simp))
  clear hb4 HO3 HC3
  have d1' : (w2.alloc (Obj.cells #[.int .i64 6, .int .i64 0, .string ⟨#[]⟩, .int .i64 7, .int .i64 0, .string ⟨#[]⟩, .int .i64 4, .int .i64 0, .string ⟨#[]⟩, .int .i64 18, .int .i64 0, .string ⟨#[]⟩, .int .i64 17, .int .i64 0, .string ⟨#[]⟩, .int .i64 23, .int .i64 0, .string ⟨#[]⟩] 43)).cell? ⟨g, off + 1, none⟩ = some (.string s) := d1
  clear d1
  go_wp2_with fail
  refine (vmOk.runs (vmOk.stays _ _ K4.out HT.out) HC4.out HX4.out (fits_back HS.out) (i64_small (by omega) (by omega)) R2.out).mono ?_
  rintro e w5 ⟨x5, rfl, ho5, hb5⟩
  have K5 := hid (below_then K4.out hb5 K4.out.size)
  have hb6 := below_then hb5 (alloc1 w5 (Obj.cells (icl (digP (wrap64 (a - b)))).toArray 43)) hb5.size
  have K6 := hid (below_then K4.out hb6 K4.out.size)
  have HO6 := hid (owns_below HO4.out hb6)
  have HP6 := hid (owns_below ho5 (alloc1 w5 (Obj.cells (icl (digP (wrap64 (a - b)))).toArray 43)))
  clear hb5 hb6 ho5 HO4 d1' HX4 HC4
  go_wp2_with fail
  refine (vmOk.runs (vmOk.stays _ _ K6.out HT.out) (Co.made (digP (wrap64 (a - b))) w5 (by simp [digP])) (Reads.nil _) (fits_dig HI.out) (i64_small (by omega) (by omega)) R3.out).mono ?_
  rintro e w7 ⟨x7, rfl, ho7, hb7⟩
  have K7 := hid (below_then K6.out hb7 K6.out.size)
  have HO7 := hid (owns_below HO6.out hb7)
  have HP7 := hid (owns_below HP6.out hb7)
  have HQ7 := hid ho7
  clear hb7 ho7 HO6 HP6
  go_wp2_with fail
  refine (samePairs_any _ _ [(e0, s)] _ (own_prs HO7.out) (own_prs HP7.out)).mono ?_
  rintro e w8 ⟨rfl, n8, rfl⟩
  have hb8 := below_drew w7 n8
  have K8 := hid (below_then K7.out hb8 K7.out.size)
  have HO8 := hid (owns_below HO7.out hb8)
  have HQ8 := hid (owns_below HQ7.out hb8)
  clear hb8 HO7 HP7 HQ7
  generalize w7.drewN n8 = w8 at K8 HO8 HQ8 ⊢
  go_wp2_with fail
  refine (samePairs_any _ _ [(e0, s)] _ (own_prs HO8.out) (own_prs HQ8.out)).mono ?_
  rintro e w9 ⟨rfl, n9, rfl⟩
  have hb9 := below_drew w8 n9
  have K9 := hid (below_then K8.out hb9 K8.out.size)
  clear hb9 HO8 HQ8
  generalize w8.drewN n9 = w9 at K9 ⊢
  go_wp2_with fail
  refine (awakeVm vmOk _ (vmOk.stays _ _ K9.out HT.out)).mono ?_
  rintro e wA ⟨rfl, hbA⟩
  have KA := hid (below_then K9.out hbA K9.out.size)
  clear hbA
  go_wp2
  go_ret
  exact ⟨rfl, KA.out⟩
set_option maxHeartbeats 4000000 in
theorem arith_mul (w : World) (T : Tabs w) (a b op : Int) (ha : I64 a) (hb : I64 b) (hk : low op 4 = 2) :
    Calls Tryz.prog 6 #[.int .i64 a, .int .i64 b, .int .i64 op] w fun e w' => e = .returned (.bool true) ∧ Below w.heap.size w w' := by
  have HT := hid T
  have HA := hid ha
  have HB := hid hb
  have EK := hid hk
  clear T ha hb hk
  have hA : arithOf 10 a b = wrap64 (a * b) := rfl
  have hi := arith_i64 10 a b
  have R1 := hid (arith_run a b (o := 10) (by omega) [])
  rw [hA] at hi R1
  have HI := hid hi
  have R2 := hid (back_run hi)
  have R3 := hid (dig_run hi [])
  have HS := hid (itoa_small hi)
  clear hA hi
  go_enter Tryz.func6, Tryz.ntmps6
  go_wp2_with fail
  refine (lowA_calls op 4 (by omega) (by omega) _).mono ?_
  rintro e wl ⟨rfl, rfl⟩
  rw [EK.out]
  have K1 := hid (alloc1 w (Obj.cells (icl (arith a b 10)).toArray 43))
  go_wp2_with fail
  refine (vmOk.runs (vmOk.stays _ _ K1.out HT.out) (Co.made (arith a b 10) w (by simp [arith])) (Reads.nil _) (fits_arith HA.out HB.out 10) (i64_small (by omega) (by omega)) R1.out).mono ?_
  rintro e w2 ⟨x2, rfl, ho2, hb2⟩
  have K2 := hid (below_then K1.out hb2 K1.out.size)
  obtain ⟨ao, ac, rfl⟩ := own_slice ho2
  have HO2 := hid ho2
  obtain ⟨g, off, rfl, hlt, c0, c1⟩ := Prs.cell (own_prs ho2) (j := 0) (by simp)
  clear hb2 ho2 c0
  have hb3 := alloc1 w2 (Obj.cells (icl backP).toArray 43)
  have K3 := hid (below_then K2.out hb3 K2.out.size)
  have HO3 := hid (owns_below HO2.out hb3)
  have d1 : (w2.alloc (Obj.cells (icl backP).toArray 43)).cell? ⟨g, off + 1, none⟩ = some (.string (txt (itoa (wrap64 (a * b))))) := by
    have := (hb3.cell (p := ⟨g, off + 0 * 2 + 1, none⟩) hlt).trans c1
    simpa using this
  have HC3 := hid (Co.made backP w2 (by simp [backP]))
  clear c1 hb3 HO2
  generalize txt (itoa (wrap64 (a * b))) = s at R1 R2 R3 HS d1 HO3
  have hb4 := alloc1 (w2.alloc (Obj.cells (icl backP).toArray 43)) (Obj.cells (fl encT [s]).toArray 9)
  have K4 := hid (below_then K3.out hb4 K3.out.size)
  have HO4 := hid (owns_below HO3.out hb4)
  have HC4 := hid (HC3.out.below hb4)
  have HX4 := hid (made_at (Reads.made encT_len (by decide) 9 [s] (w2.alloc (Obj.cells (icl backP).toArray 43)) (by simp)) (show (w2.alloc (Obj.cells (icl backP).toArray 43)).heap.size = w2.heap.size + 1 by simp))
  clear hb4 HO3 HC3
  have d1' : (w2.alloc (Obj.cells #[.int .i64 6, .int .i64 0, .string ⟨#[]⟩, .int .i64 7, .int .i64 0, .string ⟨#[]⟩, .int .i64 4, .int .i64 0, .string ⟨#[]⟩, .int .i64 18, .int .i64 0, .string ⟨#[]⟩, .int .i64 17, .int .i64 0, .string ⟨#[]⟩, .int .i64 23, .int .i64 0, .string ⟨#[]⟩] 43)).cell? ⟨g, off + 1, none⟩ = some (.string s) := d1
  clear d1
  go_wp2_with fail
  refine (vmOk.runs (vmOk.stays _ _ K4.out HT.out) HC4.out HX4.out (fits_back HS.out) (i64_small (by omega) (by omega)) R2.out).mono ?_
  rintro e w5 ⟨x5, rfl, ho5, hb5⟩
  have K5 := hid (below_then K4.out hb5 K4.out.size)
  have hb6 := below_then hb5 (alloc1 w5 (Obj.cells (icl (digP (wrap64 (a * b)))).toArray 43)) hb5.size
  have K6 := hid (below_then K4.out hb6 K4.out.size)
  have HO6 := hid (owns_below HO4.out hb6)
  have HP6 := hid (owns_below ho5 (alloc1 w5 (Obj.cells (icl (digP (wrap64 (a * b)))).toArray 43)))
  clear hb5 hb6 ho5 HO4 d1' HX4 HC4
  go_wp2_with fail
  refine (vmOk.runs (vmOk.stays _ _ K6.out HT.out) (Co.made (digP (wrap64 (a * b))) w5 (by simp [digP])) (Reads.nil _) (fits_dig HI.out) (i64_small (by omega) (by omega)) R3.out).mono ?_
  rintro e w7 ⟨x7, rfl, ho7, hb7⟩
  have K7 := hid (below_then K6.out hb7 K6.out.size)
  have HO7 := hid (owns_below HO6.out hb7)
  have HP7 := hid (owns_below HP6.out hb7)
  have HQ7 := hid ho7
  clear hb7 ho7 HO6 HP6
  go_wp2_with fail
  refine (samePairs_any _ _ [(e0, s)] _ (own_prs HO7.out) (own_prs HP7.out)).mono ?_
  rintro e w8 ⟨rfl, n8, rfl⟩
  have hb8 := below_drew w7 n8
  have K8 := hid (below_then K7.out hb8 K7.out.size)
  have HO8 := hid (owns_below HO7.out hb8)
  have HQ8 := hid (owns_below HQ7.out hb8)
  clear hb8 HO7 HP7 HQ7
  generalize w7.drewN n8 = w8 at K8 HO8 HQ8 ⊢
  go_wp2_with fail
  refine (samePairs_any _ _ [(e0, s)] _ (own_prs HO8.out) (own_prs HQ8.out)).mono ?_
  rintro e w9 ⟨rfl, n9, rfl⟩
  have hb9 := below_drew w8 n9
  have K9 := hid (below_then K8.out hb9 K8.out.size)
  clear hb9 HO8 HQ8
  generalize w8.drewN n9 = w9 at K9 ⊢
  go_wp2_with fail
  refine (awakeVm vmOk _ (vmOk.stays _ _ K9.out HT.out)).mono ?_
  rintro e wA ⟨rfl, hbA⟩
  have KA := hid (below_then K9.out hbA K9.out.size)
  clear hbA
  go_wp2
  go_ret
  exact ⟨rfl, KA.out⟩
set_option maxHeartbeats 4000000 in
theorem arith_less1 (w : World) (T : Tabs w) (a b op : Int) (ha : I64 a) (hb : I64 b) (hk : low op 4 = 3) (hlt : a < b) :
    Calls Tryz.prog 6 #[.int .i64 a, .int .i64 b, .int .i64 op] w fun e w' => e = .returned (.bool true) ∧ Below w.heap.size w w' := by
  have HT := hid T
  have HA := hid ha
  have HB := hid hb
  have EK := hid hk
  clear T ha hb hk
  have hA : arithOf 11 a b = 1 := by unfold arithOf; rw [if_neg (by omega), if_neg (by omega), if_neg (by omega), if_pos hlt]
  have hi := arith_i64 11 a b
  have R1 := hid (arith_run a b (o := 11) (by omega) [])
  rw [hA] at hi R1
  have HI := hid hi
  have R2 := hid (back_run hi)
  have R3 := hid (dig_run hi [])
  have HS := hid (itoa_small hi)
  clear hA hi
  go_enter Tryz.func6, Tryz.ntmps6
  go_wp2_with fail
  refine (lowA_calls op 4 (by omega) (by omega) _).mono ?_
  rintro e wl ⟨rfl, rfl⟩
  rw [EK.out]
  have K1 := hid (alloc1 w (Obj.cells (icl (arith a b 11)).toArray 43))
  go_wp2_with fail
  refine (vmOk.runs (vmOk.stays _ _ K1.out HT.out) (Co.made (arith a b 11) w (by simp [arith])) (Reads.nil _) (fits_arith HA.out HB.out 11) (i64_small (by omega) (by omega)) R1.out).mono ?_
  rintro e w2 ⟨x2, rfl, ho2, hb2⟩
  have K2 := hid (below_then K1.out hb2 K1.out.size)
  obtain ⟨ao, ac, rfl⟩ := own_slice ho2
  have HO2 := hid ho2
  obtain ⟨g, off, rfl, hlt, c0, c1⟩ := Prs.cell (own_prs ho2) (j := 0) (by simp)
  clear hb2 ho2 c0
  have hb3 := alloc1 w2 (Obj.cells (icl backP).toArray 43)
  have K3 := hid (below_then K2.out hb3 K2.out.size)
  have HO3 := hid (owns_below HO2.out hb3)
  have d1 : (w2.alloc (Obj.cells (icl backP).toArray 43)).cell? ⟨g, off + 1, none⟩ = some (.string (txt (itoa (1)))) := by
    have := (hb3.cell (p := ⟨g, off + 0 * 2 + 1, none⟩) hlt).trans c1
    simpa using this
  have HC3 := hid (Co.made backP w2 (by simp [backP]))
  clear c1 hb3 HO2
  generalize txt (itoa (1)) = s at R1 R2 R3 HS d1 HO3
  have hb4 := alloc1 (w2.alloc (Obj.cells (icl backP).toArray 43)) (Obj.cells (fl encT [s]).toArray 9)
  have K4 := hid (below_then K3.out hb4 K3.out.size)
  have HO4 := hid (owns_below HO3.out hb4)
  have HC4 := hid (HC3.out.below hb4)
  have HX4 := hid (made_at (Reads.made encT_len (by decide) 9 [s] (w2.alloc (Obj.cells (icl backP).toArray 43)) (by simp)) (show (w2.alloc (Obj.cells (icl backP).toArray 43)).heap.size = w2.heap.size + 1 by simp))
  clear hb4 HO3 HC3
  have d1' : (w2.alloc (Obj.cells #[.int .i64 6, .int .i64 0, .string ⟨#[]⟩, .int .i64 7, .int .i64 0, .string ⟨#[]⟩, .int .i64 4, .int .i64 0, .string ⟨#[]⟩, .int .i64 18, .int .i64 0, .string ⟨#[]⟩, .int .i64 17, .int .i64 0, .string ⟨#[]⟩, .int .i64 23, .int .i64 0, .string ⟨#[]⟩] 43)).cell? ⟨g, off + 1, none⟩ = some (.string s) := d1
  clear d1
  go_wp2_with fail
  refine (vmOk.runs (vmOk.stays _ _ K4.out HT.out) HC4.out HX4.out (fits_back HS.out) (i64_small (by omega) (by omega)) R2.out).mono ?_
  rintro e w5 ⟨x5, rfl, ho5, hb5⟩
  have K5 := hid (below_then K4.out hb5 K4.out.size)
  have hb6 := below_then hb5 (alloc1 w5 (Obj.cells (icl (digP (1))).toArray 43)) hb5.size
  have K6 := hid (below_then K4.out hb6 K4.out.size)
  have HO6 := hid (owns_below HO4.out hb6)
  have HP6 := hid (owns_below ho5 (alloc1 w5 (Obj.cells (icl (digP (1))).toArray 43)))
  clear hb5 hb6 ho5 HO4 d1' HX4 HC4
  go_wp2_with fail
  refine (vmOk.runs (vmOk.stays _ _ K6.out HT.out) (Co.made (digP (1)) w5 (by simp [digP])) (Reads.nil _) (fits_dig HI.out) (i64_small (by omega) (by omega)) R3.out).mono ?_
  rintro e w7 ⟨x7, rfl, ho7, hb7⟩
  have K7 := hid (below_then K6.out hb7 K6.out.size)
  have HO7 := hid (owns_below HO6.out hb7)
  have HP7 := hid (owns_below HP6.out hb7)
  have HQ7 := hid ho7
  clear hb7 ho7 HO6 HP6
  go_wp2_with fail
  refine (samePairs_any _ _ [(e0, s)] _ (own_prs HO7.out) (own_prs HP7.out)).mono ?_
  rintro e w8 ⟨rfl, n8, rfl⟩
  have hb8 := below_drew w7 n8
  have K8 := hid (below_then K7.out hb8 K7.out.size)
  have HO8 := hid (owns_below HO7.out hb8)
  have HQ8 := hid (owns_below HQ7.out hb8)
  clear hb8 HO7 HP7 HQ7
  generalize w7.drewN n8 = w8 at K8 HO8 HQ8 ⊢
  go_wp2_with fail
  refine (samePairs_any _ _ [(e0, s)] _ (own_prs HO8.out) (own_prs HQ8.out)).mono ?_
  rintro e w9 ⟨rfl, n9, rfl⟩
  have hb9 := below_drew w8 n9
  have K9 := hid (below_then K8.out hb9 K8.out.size)
  clear hb9 HO8 HQ8
  generalize w8.drewN n9 = w9 at K9 ⊢
  go_wp2_with fail
  refine (awakeVm vmOk _ (vmOk.stays _ _ K9.out HT.out)).mono ?_
  rintro e wA ⟨rfl, hbA⟩
  have KA := hid (below_then K9.out hbA K9.out.size)
  clear hbA
  go_wp2
  go_ret
  exact ⟨rfl, KA.out⟩
set_option maxHeartbeats 4000000 in
theorem arith_less0 (w : World) (T : Tabs w) (a b op : Int) (ha : I64 a) (hb : I64 b) (hk : low op 4 = 3) (hlt : ¬ a < b) :
    Calls Tryz.prog 6 #[.int .i64 a, .int .i64 b, .int .i64 op] w fun e w' => e = .returned (.bool true) ∧ Below w.heap.size w w' := by
  have HT := hid T
  have HA := hid ha
  have HB := hid hb
  have EK := hid hk
  clear T ha hb hk
  have hA : arithOf 11 a b = 0 := by unfold arithOf; rw [if_neg (by omega), if_neg (by omega), if_neg (by omega), if_neg hlt]
  have hi := arith_i64 11 a b
  have R1 := hid (arith_run a b (o := 11) (by omega) [])
  rw [hA] at hi R1
  have HI := hid hi
  have R2 := hid (back_run hi)
  have R3 := hid (dig_run hi [])
  have HS := hid (itoa_small hi)
  clear hA hi
  go_enter Tryz.func6, Tryz.ntmps6
  go_wp2_with fail
  refine (lowA_calls op 4 (by omega) (by omega) _).mono ?_
  rintro e wl ⟨rfl, rfl⟩
  rw [EK.out]
  have K1 := hid (alloc1 w (Obj.cells (icl (arith a b 11)).toArray 43))
  go_wp2_with fail
  refine (vmOk.runs (vmOk.stays _ _ K1.out HT.out) (Co.made (arith a b 11) w (by simp [arith])) (Reads.nil _) (fits_arith HA.out HB.out 11) (i64_small (by omega) (by omega)) R1.out).mono ?_
  rintro e w2 ⟨x2, rfl, ho2, hb2⟩
  have K2 := hid (below_then K1.out hb2 K1.out.size)
  obtain ⟨ao, ac, rfl⟩ := own_slice ho2
  have HO2 := hid ho2
  obtain ⟨g, off, rfl, hlt, c0, c1⟩ := Prs.cell (own_prs ho2) (j := 0) (by simp)
  clear hb2 ho2 c0
  have hb3 := alloc1 w2 (Obj.cells (icl backP).toArray 43)
  have K3 := hid (below_then K2.out hb3 K2.out.size)
  have HO3 := hid (owns_below HO2.out hb3)
  have d1 : (w2.alloc (Obj.cells (icl backP).toArray 43)).cell? ⟨g, off + 1, none⟩ = some (.string (txt (itoa (0)))) := by
    have := (hb3.cell (p := ⟨g, off + 0 * 2 + 1, none⟩) hlt).trans c1
    simpa using this
  have HC3 := hid (Co.made backP w2 (by simp [backP]))
  clear c1 hb3 HO2
  generalize txt (itoa (0)) = s at R1 R2 R3 HS d1 HO3
  have hb4 := alloc1 (w2.alloc (Obj.cells (icl backP).toArray 43)) (Obj.cells (fl encT [s]).toArray 9)
  have K4 := hid (below_then K3.out hb4 K3.out.size)
  have HO4 := hid (owns_below HO3.out hb4)
  have HC4 := hid (HC3.out.below hb4)
  have HX4 := hid (made_at (Reads.made encT_len (by decide) 9 [s] (w2.alloc (Obj.cells (icl backP).toArray 43)) (by simp)) (show (w2.alloc (Obj.cells (icl backP).toArray 43)).heap.size = w2.heap.size + 1 by simp))
  clear hb4 HO3 HC3
  have d1' : (w2.alloc (Obj.cells #[.int .i64 6, .int .i64 0, .string ⟨#[]⟩, .int .i64 7, .int .i64 0, .string ⟨#[]⟩, .int .i64 4, .int .i64 0, .string ⟨#[]⟩, .int .i64 18, .int .i64 0, .string ⟨#[]⟩, .int .i64 17, .int .i64 0, .string ⟨#[]⟩, .int .i64 23, .int .i64 0, .string ⟨#[]⟩] 43)).cell? ⟨g, off + 1, none⟩ = some (.string s) := d1
  clear d1
  go_wp2_with fail
  refine (vmOk.runs (vmOk.stays _ _ K4.out HT.out) HC4.out HX4.out (fits_back HS.out) (i64_small (by omega) (by omega)) R2.out).mono ?_
  rintro e w5 ⟨x5, rfl, ho5, hb5⟩
  have K5 := hid (below_then K4.out hb5 K4.out.size)
  have hb6 := below_then hb5 (alloc1 w5 (Obj.cells (icl (digP (0))).toArray 43)) hb5.size
  have K6 := hid (below_then K4.out hb6 K4.out.size)
  have HO6 := hid (owns_below HO4.out hb6)
  have HP6 := hid (owns_below ho5 (alloc1 w5 (Obj.cells (icl (digP (0))).toArray 43)))
  clear hb5 hb6 ho5 HO4 d1' HX4 HC4
  go_wp2_with fail
  refine (vmOk.runs (vmOk.stays _ _ K6.out HT.out) (Co.made (digP (0)) w5 (by simp [digP])) (Reads.nil _) (fits_dig HI.out) (i64_small (by omega) (by omega)) R3.out).mono ?_
  rintro e w7 ⟨x7, rfl, ho7, hb7⟩
  have K7 := hid (below_then K6.out hb7 K6.out.size)
  have HO7 := hid (owns_below HO6.out hb7)
  have HP7 := hid (owns_below HP6.out hb7)
  have HQ7 := hid ho7
  clear hb7 ho7 HO6 HP6
  go_wp2_with fail
  refine (samePairs_any _ _ [(e0, s)] _ (own_prs HO7.out) (own_prs HP7.out)).mono ?_
  rintro e w8 ⟨rfl, n8, rfl⟩
  have hb8 := below_drew w7 n8
  have K8 := hid (below_then K7.out hb8 K7.out.size)
  have HO8 := hid (owns_below HO7.out hb8)
  have HQ8 := hid (owns_below HQ7.out hb8)
  clear hb8 HO7 HP7 HQ7
  generalize w7.drewN n8 = w8 at K8 HO8 HQ8 ⊢
  go_wp2_with fail
  refine (samePairs_any _ _ [(e0, s)] _ (own_prs HO8.out) (own_prs HQ8.out)).mono ?_
  rintro e w9 ⟨rfl, n9, rfl⟩
  have hb9 := below_drew w8 n9
  have K9 := hid (below_then K8.out hb9 K8.out.size)
  clear hb9 HO8 HQ8
  generalize w8.drewN n9 = w9 at K9 ⊢
  go_wp2_with fail
  refine (awakeVm vmOk _ (vmOk.stays _ _ K9.out HT.out)).mono ?_
  rintro e wA ⟨rfl, hbA⟩
  have KA := hid (below_then K9.out hbA K9.out.size)
  clear hbA
  go_wp2
  go_ret
  exact ⟨rfl, KA.out⟩
theorem vmArith_walk (w : World) (T : Tabs w) (a : Int) (wa : (Lit.int .i64 a).wf = true) (b : Int) (wb : (Lit.int .i64 b).wf = true) (op : Int) (wo : (Lit.int .i64 op).wf = true) :
    Calls Tryz.prog 6 #[.int .i64 a, .int .i64 b, .int .i64 op] w fun e w' => e = .returned (.bool true) ∧ Below w.heap.size w w' := by
  have ha := wf_i64A wa
  have hb := wf_i64A wb
  have b1 := low_bd op 4 (by omega)
  have hc : low op 4 = 0 ∨ low op 4 = 1 ∨ low op 4 = 2 ∨ low op 4 = 3 := by omega
  rcases hc with h | h | h | h
  · exact arith_add w T a b op ha hb h
  · exact arith_sub w T a b op ha hb h
  · exact arith_mul w T a b op ha hb h
  · by_cases hlt : a < b
    · exact arith_less1 w T a b op ha hb h hlt
    · exact arith_less0 w T a b op ha hb h hlt
end Go.Proofs.YtpggfdnpbipckaaGreatDoor
