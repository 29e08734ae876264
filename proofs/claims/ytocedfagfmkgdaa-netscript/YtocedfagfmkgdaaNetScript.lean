/- NetScript: whatever is sent, taken and doubled. -/
import Derived.Test.YtocedfagfmkgdaaLtBuild
import Derived.Test.YtocedfagfmkgdaaNewStruct
import Derived.Deep.DeepCutAuto
namespace Go.Proofs.Ytocedfagfmkgdaa
open Go.RowKit
set_option linter.unusedVariables false

def Z26 : Array Value := #[.int .i64 0, .int .i64 0, .int .i64 0, .int .i64 0, .int .i64 0, .int .i64 0, .int .i64 0, .int .i64 0, .int .i64 0, .int .i64 0, .int .i64 0, .int .i64 0, .slice none 0 0, .slice none 0 0, .int .i64 0, .int .i64 0, .int .i64 0, .int .i64 0, .int .i64 0, .int .i64 0, .int .i64 0, .int .i64 0, .int .i64 0, .int .i64 0, .slice none 0 0, .slice none 0 0]
theorem sm_plain {ys ns : List LetX} (h : plain ys = plain ns) (hs : ∀ x ∈ ns, Sm x.r) : ∀ x ∈ ys, Sm x.r := by
  intro x hx
  have h1 : x.r ∈ plain ys := List.mem_map.2 ⟨x, hx, rfl⟩
  rw [h] at h1
  obtain ⟨y, hy, e⟩ := List.mem_map.1 h1
  rw [← e]
  exact hs y hy
theorem encA_one (x : ActX) : ∀ z ∈ encA x, z.oneCell' = true := by
  intro z hz
  unfold encA at hz
  rcases List.mem_cons.1 hz with rfl | hz
  · rfl
  · rcases List.mem_cons.1 hz with rfl | hz
    · rfl
    · rcases List.mem_append.1 hz with e | e
      · exact encL_one _ z e
      · exact encL_one _ z e
/-- An act that lies in a block of its own, cell by cell. -/
theorem act_cells (x : ActX) : ∀ (w : World) (g : Nat), w.heap[g]? = some (.cells (encA x).toArray 38 (0, 0)) → w.cell? ⟨g, 0, none⟩ = some (.int .i64 x.do_) ∧ w.cell? ⟨g, 1, none⟩ = some (.int .i64 x.i_) ∧ w.cell? ⟨g, 2, none⟩ = some (.int .i64 x.l.r.from_) ∧ w.cell? ⟨g, 3, none⟩ = some (.int .i64 x.l.r.to_) ∧ w.cell? ⟨g, 4, none⟩ = some (.int .i64 x.l.r.kind) ∧ w.cell? ⟨g, 5, none⟩ = some (.int .i64 x.l.r.split) ∧ w.cell? ⟨g, 6, none⟩ = some (.int .i64 x.l.r.attempt) ∧ w.cell? ⟨g, 7, none⟩ = some (.int .i64 x.l.r.part) ∧ w.cell? ⟨g, 8, none⟩ = some (.int .i64 x.l.r.seq) ∧ w.cell? ⟨g, 9, none⟩ = some (.int .i64 x.l.r.next) ∧ w.cell? ⟨g, 10, none⟩ = some (.int .i64 x.l.r.epoch) ∧ w.cell? ⟨g, 11, none⟩ = some (.int .i64 x.l.r.reason) ∧ w.cell? ⟨g, 12, none⟩ = some (.slice x.l.so x.l.r.set.length x.l.sc) ∧ w.cell? ⟨g, 13, none⟩ = some (.slice x.l.po x.l.r.prs.length x.l.pc) ∧ w.cell? ⟨g, 14, none⟩ = some (.int .i64 x.m.r.from_) ∧ w.cell? ⟨g, 15, none⟩ = some (.int .i64 x.m.r.to_) ∧ w.cell? ⟨g, 16, none⟩ = some (.int .i64 x.m.r.kind) ∧ w.cell? ⟨g, 17, none⟩ = some (.int .i64 x.m.r.split) ∧ w.cell? ⟨g, 18, none⟩ = some (.int .i64 x.m.r.attempt) ∧ w.cell? ⟨g, 19, none⟩ = some (.int .i64 x.m.r.part) ∧ w.cell? ⟨g, 20, none⟩ = some (.int .i64 x.m.r.seq) ∧ w.cell? ⟨g, 21, none⟩ = some (.int .i64 x.m.r.next) ∧ w.cell? ⟨g, 22, none⟩ = some (.int .i64 x.m.r.epoch) ∧ w.cell? ⟨g, 23, none⟩ = some (.int .i64 x.m.r.reason) ∧ w.cell? ⟨g, 24, none⟩ = some (.slice x.m.so x.m.r.set.length x.m.sc) ∧ w.cell? ⟨g, 25, none⟩ = some (.slice x.m.po x.m.r.prs.length x.m.pc) := fun w g h =>
  ⟨(cell_of_cells (j := 0) h).trans rfl, (cell_of_cells (j := 1) h).trans rfl, (cell_of_cells (j := 2) h).trans rfl, (cell_of_cells (j := 3) h).trans rfl, (cell_of_cells (j := 4) h).trans rfl, (cell_of_cells (j := 5) h).trans rfl, (cell_of_cells (j := 6) h).trans rfl, (cell_of_cells (j := 7) h).trans rfl, (cell_of_cells (j := 8) h).trans rfl, (cell_of_cells (j := 9) h).trans rfl, (cell_of_cells (j := 10) h).trans rfl, (cell_of_cells (j := 11) h).trans rfl, (cell_of_cells (j := 12) h).trans rfl, (cell_of_cells (j := 13) h).trans rfl, (cell_of_cells (j := 14) h).trans rfl, (cell_of_cells (j := 15) h).trans rfl, (cell_of_cells (j := 16) h).trans rfl, (cell_of_cells (j := 17) h).trans rfl, (cell_of_cells (j := 18) h).trans rfl, (cell_of_cells (j := 19) h).trans rfl, (cell_of_cells (j := 20) h).trans rfl, (cell_of_cells (j := 21) h).trans rfl, (cell_of_cells (j := 22) h).trans rfl, (cell_of_cells (j := 23) h).trans rfl, (cell_of_cells (j := 24) h).trans rfl, (cell_of_cells (j := 25) h).trans rfl⟩
set_option maxHeartbeats 16000000 in
set_option maxRecDepth 100000 in
theorem netScript_main (w : World) (v : Value) (xs : List ActX) (hv : Acts w v xs) :
    Calls Try.prog 3 #[v] w fun e w' => e = .returned (.bool true) ∧ Below w.heap.size w w' := by
  have HV := hid hv
  obtain ⟨ao, cap, rfl, a1, a2, -⟩ := hv.slice
  unfold maxLen at a2
  clear hv
  go_enter Try.func3, Try.ntmps3
  go_wp2_with fail
  refine (great_any _ xs w HV.out).mono ?_
  rintro e Z ⟨⟨g, rfl, hg⟩, hbZ⟩
  have HG := hid hg
  have HBZ := hid hbZ
  clear hg hbZ
  cases g
  rotate_left
  · go_wp2_with fail
    refine (awake_calls Z).mono ?_
    rintro e w1 ⟨rfl, hb1⟩
    have HB1 := hid (below_then HBZ.out hb1 HBZ.out.size)
    clear hb1
    go_wp2
    go_ret
    exact ⟨rfl, HB1.out⟩
  have HS := hid (HG.out (by first | trivial | rfl))
  have HVZ := hid (HV.out.below HBZ.out)
  have hxl : xs.length ≤ 100 := HS.out.1
  clear HG HV
  go_wp2_with fail
  refine (new_net Z).mono ?_
  rintro e w1 ⟨rfl, hw1⟩
  have hs1 : w1.heap.size = Z.heap.size + 1 := by rw [hw1]; simp
  have hn1 : Nt Z.heap.size Z.heap.size (.slice none 0 0) [] w1 := by rw [hw1]; exact Nt.new Z _ (Nat.le_refl _)
  have hb1 : Below Z.heap.size Z w1 := by rw [hw1]; exact alloc_one Z _
  have HT0 := hid (show Two Z Z.heap.size w1.heap.size (.slice none 0 0) (.slice none 0 0) [] [] (w1.alloc (.cells #[.slice none 0 0] 30)) from
    ⟨hn1.below (alloc_one _ _), Rf.new w1 _ (by omega), (fun r hr => by simp at hr), (fun k hk => by cases hk), below_then hb1 (alloc_one _ _) hb1.size, Nat.le_refl _, by omega⟩)
  obtain ⟨p, hp⟩ : ∃ p, Z.heap.size = p := ⟨_, rfl⟩
  obtain ⟨q, hq⟩ : ∃ q, w1.heap.size = q := ⟨_, rfl⟩
  have HP := hid hp
  rw [hq] at hs1
  rw [hq] at HT0
  have HQ := hid (show q = Z.heap.size + 1 from hs1)
  have hpq1 : p + 1 = q := by omega
  have HPQ := hid hpq1
  clear hw1 hn1 hb1 hpq1
  go_wp2
  try rw [hq]
  rw [HPQ.out]
  rw [hp] at HT0
  clear hs1 hp hq
  generalize w1.alloc (.cells #[.slice none 0 0] 30) = w2 at HT0 ⊢
  go_loopw [5] (fun iv wr => ∃ k : Nat, k ≤ xs.length ∧ iv = .int .i64 k ∧ ∃ u v ns rs, Two Z p q u v ns rs wr ∧ plain ns = plain rs) (fun i _ => xs.length - (intOf i).toNat)
  case atStart => exact ⟨0, by omega, rfl, .slice none 0 0, .slice none 0 0, [], [], HT0.out, rfl⟩
  case round =>
    obtain ⟨k, hk, rfl, u, v, ns, rs, hT, hsame⟩ := hrel
    have HT := hid hT
    have HE := hid hsame
    clear hT hsame HT0
    by_cases hlt : k < xs.length
    · have d5 : decide ((k : Int) < (xs.length : Int)) = true := by simp; omega
      have hki : (k : Int) < (xs.length : Int) := by omega
      obtain ⟨b, off, e, hbl, hc⟩ := HVZ.out.1.cells hlt
      subst e
      have hx : xs[k]? = some xs[k] := List.getElem?_eq_getElem hlt
      generalize xs[k] = x at hc hx
      have HSX := hid (HS.out.2 x (List.mem_of_getElem? hx))
      have HXI := hid (HVZ.out.2 x (List.mem_of_getElem? hx))
      have hrange : wr.rangeAt b (off + k * 26) (encA x) := fun j u hu => (HT.out.bel.cell (p := ⟨b, off + k * 26 + j, none⟩) hbl).trans (hc j u hu)
      have HCA := hid (act_cells x)
      have hsz : (encA x).toArray.size = 26 := rfl
      have h1c : (encA x).toArray.all (·.oneCell') = true := Array.all_eq_true_iff_forall_mem.2 (fun z hz => encA_one x z (by simpa using hz))
      have hinf : (Try.prog.info? 38).map (·.size) = some (encA x).length := by rw [encA_len]; kernel_rfl
      clear hc hx
      generalize hA : encA x = L at hrange HCA hsz h1c hinf
      clear hA
      have hst := run_store_new (P := Try.prog) wr 38 Z26 L.toArray hsz.symm (by rw [hsz]; kernel_rfl) h1c
      go_upto_region 9 with fail
      refine wp_region_list ?_
      refine wpList_ran rfl 27 rfl (.slice (some ⟨b, off, none⟩) xs.length cap) wr (by rfl) ?_
      refine wpList_ran rfl 28 rfl (.int .i64 k) wr (by rfl) ?_
      simp only [Act.put, List.setIfInBounds_toArray, List.set_cons_zero, List.set_cons_succ]
      refine wpList_ran rfl 29 rfl (.pointer (some ⟨b, off + k * 26, none⟩)) wr (by go_simp) ?_
      simp only [Act.put, List.setIfInBounds_toArray, List.set_cons_zero, List.set_cons_succ]
      refine wpList_load_mid rfl 38 _ rfl b (off + k * 26) rfl L _ hrange Try.underlying38 rfl hinf ?_
      refine wpList_ran rfl 6 rfl (.pointer (some ⟨wr.heap.size, 0, none⟩)) (wr.alloc (.cells Z26 38)) (by unfold Z26; go_simp) ?_
      simp only [Act.put, List.setIfInBounds_toArray, List.set_cons_zero, List.set_cons_succ]
      refine wpList_stored rfl _ _ _ rfl rfl _ hst ?_
      clear hst hrange hsz h1c hinf
      have HT3 := hid (HT.out.on (alloc_one wr (.cells L.toArray 38)))
      have HA3 := hid (new_block wr (.cells L.toArray 38))
      generalize wr.alloc (.cells L.toArray 38) = w3 at HT3 HA3 ⊢
      generalize wr.heap.size = g at HA3 ⊢
      clear HT
      go_upto_region 11 with fail
      obtain ⟨lo, hlo⟩ : ∃ lo, lostN (plain ns) (plain [x.l, x.m]) = lo := ⟨_, rfl⟩
      have HLO := hid hlo
      obtain ⟨okd, hokd⟩ : ∃ okd, okD (plain ns) x.i_ = okd := ⟨_, rfl⟩
      have HOK := hid hokd
      obtain ⟨okp, hokp⟩ : ∃ okp, placeN (plain ns) x.i_ = okp := ⟨_, rfl⟩
      have HOP := hid hokp
      clear hlo hokd hokp
      have g0 := (HCA.out _ _ HA3.out).1
      go_step
      iterate 9 (first | go_values | go_skip | go_guarded | go_step | go_upon | go_back)
      go_cut [7] (fun ok wx => ok = .bool true ∧ ∃ u' v' ns' rs', Two Z p q u' v' ns' rs' wx ∧ plain ns' = plain rs')
      case first => as_aux_lemma =>
        obtain ⟨g0, -⟩ := HCA.out _ _ HA3.out
        by_cases h0 : x.do_ = 0
        · have b0 : (x.do_ == 0) = true := by simpa using h0
          clear h0
          go_upto_region 13 with fail
          clear g0 b0
          have TD := hid (HT3.out.on (below_drew1 w3))
          have AD : w3.drew.heap[g]? = some (.cells L.toArray 38 (0, 0)) := HA3.out
          refine wp_region_held_drew (S := fun w' => w'.heap[g]? = some (.cells L.toArray 38 (0, 0))) (by kernel_rfl) AD (fun hHeld => ?_)
          generalize w3.drew = wd at TD AD hHeld ⊢
          refine takeH 0 35 (.pointer (some ⟨p, 0, none⟩)) rfl rfl (by kernel_rfl) (by kernel_rfl) (by kernel_rfl) (fun _ _ _ h => h) (by rfl) ?_ AD ?_
          · intro w' hSw
            go_simp
          try simp only [Act.put, List.setIfInBounds_toArray, List.set_cons_zero, List.set_cons_succ]
          refine takeH 1 36 (.pointer (some ⟨g, 2, none⟩)) rfl rfl (by kernel_rfl) (by kernel_rfl) (by kernel_rfl) (fun _ _ _ h => h) (by rfl) ?_ AD ?_
          · intro w' hSw
            go_simp
          try simp only [Act.put, List.setIfInBounds_toArray, List.set_cons_zero, List.set_cons_succ]
          refine takeH 2 37 (.agg #[.int .i64 x.l.r.from_, .int .i64 x.l.r.to_, .int .i64 x.l.r.kind, .int .i64 x.l.r.split, .int .i64 x.l.r.attempt, .int .i64 x.l.r.part, .int .i64 x.l.r.seq, .int .i64 x.l.r.next, .int .i64 x.l.r.epoch, .int .i64 x.l.r.reason, .slice x.l.so x.l.r.set.length x.l.sc, .slice x.l.po x.l.r.prs.length x.l.pc]) rfl rfl (by kernel_rfl) (by kernel_rfl) (by kernel_rfl) (fun _ _ _ h => h) (by rfl) ?_ AD ?_
          · intro w' hSw
            obtain ⟨q0, q1, q2, q3, q4, q5, q6, q7, q8, q9, q10, q11, q12, q13, q14, q15, q16, q17, q18, q19, q20, q21, q22, q23, q24, q25⟩ := HCA.out _ _ hSw; go_simp
          try simp only [Act.put, List.setIfInBounds_toArray, List.set_cons_zero, List.set_cons_succ]
          refine takeH 3 38 (.pointer (some ⟨g, 14, none⟩)) rfl rfl (by kernel_rfl) (by kernel_rfl) (by kernel_rfl) (fun _ _ _ h => h) (by rfl) ?_ AD ?_
          · intro w' hSw
            go_simp
          try simp only [Act.put, List.setIfInBounds_toArray, List.set_cons_zero, List.set_cons_succ]
          refine takeH 4 39 (.agg #[.int .i64 x.m.r.from_, .int .i64 x.m.r.to_, .int .i64 x.m.r.kind, .int .i64 x.m.r.split, .int .i64 x.m.r.attempt, .int .i64 x.m.r.part, .int .i64 x.m.r.seq, .int .i64 x.m.r.next, .int .i64 x.m.r.epoch, .int .i64 x.m.r.reason, .slice x.m.so x.m.r.set.length x.m.sc, .slice x.m.po x.m.r.prs.length x.m.pc]) rfl rfl (by kernel_rfl) (by kernel_rfl) (by kernel_rfl) (fun _ _ _ h => h) (by rfl) ?_ AD ?_
          · intro w' hSw
            obtain ⟨q0, q1, q2, q3, q4, q5, q6, q7, q8, q9, q10, q11, q12, q13, q14, q15, q16, q17, q18, q19, q20, q21, q22, q23, q24, q25⟩ := HCA.out _ _ hSw; go_simp
          try simp only [Act.put, List.setIfInBounds_toArray, List.set_cons_zero, List.set_cons_succ]
          refine takeH 7 42 (.pointer (some ⟨q, 0, none⟩)) rfl rfl (by kernel_rfl) (by kernel_rfl) (by kernel_rfl) (fun _ _ _ h => h) (by rfl) ?_ AD ?_
          · intro w' hSw
            go_simp
          try simp only [Act.put, List.setIfInBounds_toArray, List.set_cons_zero, List.set_cons_succ]
          refine takeH 8 43 (.pointer (some ⟨g, 2, none⟩)) rfl rfl (by kernel_rfl) (by kernel_rfl) (by kernel_rfl) (fun _ _ _ h => h) (by rfl) ?_ AD ?_
          · intro w' hSw
            go_simp
          try simp only [Act.put, List.setIfInBounds_toArray, List.set_cons_zero, List.set_cons_succ]
          refine takeH 9 44 (.agg #[.int .i64 x.l.r.from_, .int .i64 x.l.r.to_, .int .i64 x.l.r.kind, .int .i64 x.l.r.split, .int .i64 x.l.r.attempt, .int .i64 x.l.r.part, .int .i64 x.l.r.seq, .int .i64 x.l.r.next, .int .i64 x.l.r.epoch, .int .i64 x.l.r.reason, .slice x.l.so x.l.r.set.length x.l.sc, .slice x.l.po x.l.r.prs.length x.l.pc]) rfl rfl (by kernel_rfl) (by kernel_rfl) (by kernel_rfl) (fun _ _ _ h => h) (by rfl) ?_ AD ?_
          · intro w' hSw
            obtain ⟨q0, q1, q2, q3, q4, q5, q6, q7, q8, q9, q10, q11, q12, q13, q14, q15, q16, q17, q18, q19, q20, q21, q22, q23, q24, q25⟩ := HCA.out _ _ hSw; go_simp
          try simp only [Act.put, List.setIfInBounds_toArray, List.set_cons_zero, List.set_cons_succ]
          refine takeH 10 45 (.pointer (some ⟨g, 14, none⟩)) rfl rfl (by kernel_rfl) (by kernel_rfl) (by kernel_rfl) (fun _ _ _ h => h) (by rfl) ?_ AD ?_
          · intro w' hSw
            go_simp
          try simp only [Act.put, List.setIfInBounds_toArray, List.set_cons_zero, List.set_cons_succ]
          refine takeH 11 46 (.agg #[.int .i64 x.m.r.from_, .int .i64 x.m.r.to_, .int .i64 x.m.r.kind, .int .i64 x.m.r.split, .int .i64 x.m.r.attempt, .int .i64 x.m.r.part, .int .i64 x.m.r.seq, .int .i64 x.m.r.next, .int .i64 x.m.r.epoch, .int .i64 x.m.r.reason, .slice x.m.so x.m.r.set.length x.m.sc, .slice x.m.po x.m.r.prs.length x.m.pc]) rfl rfl (by kernel_rfl) (by kernel_rfl) (by kernel_rfl) (fun _ _ _ h => h) (by rfl) ?_ AD ?_
          · intro w' hSw
            obtain ⟨q0, q1, q2, q3, q4, q5, q6, q7, q8, q9, q10, q11, q12, q13, q14, q15, q16, q17, q18, q19, q20, q21, q22, q23, q24, q25⟩ := HCA.out _ _ hSw; go_simp
          try simp only [Act.put, List.setIfInBounds_toArray, List.set_cons_zero, List.set_cons_succ]
          refine wpAnyH_ready (rs := [5, 12]) (by kernel_rfl) (by simp) (nextH 5 rfl (by rfl) (fun K hK => ?_) (nextH 12 rfl (by rfl) (fun K hK => ?_) AllReadyH.nil))
          · refine wp_build2 40 rfl (.tmp 37) (.tmp 39) rfl x.l x.m (by simp [Act.eval]) (by simp [Act.eval]) ?_
            have S11 := hid (Sl.new TD.out x.l x.m)
            have hb11 := alloc_one wd (.cells (twoCs x.l x.m) 36)
            have T11 := hid (TD.out.on hb11)
            have A11 := (hb11.block _ (lt_of_block AD)).trans AD
            clear hb11
            generalize wd.alloc (.cells (twoCs x.l x.m) 36) = w11 at S11 T11 A11 ⊢
            obtain ⟨a11, ha11⟩ : ∃ a, wd.heap.size = a := ⟨_, rfl⟩
            rw [ha11] at S11
            rw [ha11]
            clear ha11
            refine hK.out _ _ A11 (fun hHeld => ?_)
            clear hK K
            try simp only [Act.put, List.setIfInBounds_toArray, List.set_cons_zero, List.set_cons_succ]
            refine wpAnyH_ready (rs := [6, 12]) (by kernel_rfl) (by simp) (nextH 6 rfl (by rfl) (fun K hK => ?_) (nextH 12 rfl (by rfl) (fun K hK => ?_) AllReadyH.nil))
            · go_simp
              refine (send_net Z.heap.size p u (.slice (some ⟨a11, 0, none⟩) 2 2) ns [x.l, x.m] w11 T11.out.net (S11.out.send T11.out HXI.out.1 HXI.out.2) (two_sm HSX.out.1 HSX.out.2) (by simp)).mono ?_
              rintro e w12 ⟨rfl, ht12⟩
              rw [HLO.out]
              obtain ⟨uu12, nn12, hp12, hT12, hK12, hS12⟩ := T11.out.turnN ht12
              have T12 := hid hT12
              have HP12 := hid hp12
              have A12 := hK12 _ _ A11
              have S12s1 := hid (hS12 _ _ _ S11.out)
              clear ht12 hp12 hT12 hK12 hS12
              refine hK.out _ _ A12 (fun hHeld => ?_)
              clear hK K
              try simp only [Act.put, List.setIfInBounds_toArray, List.set_cons_zero, List.set_cons_succ]
              refine wpAnyH_ready (rs := [12]) (by kernel_rfl) (by simp) (nextH 12 rfl (by rfl) (fun K hK => ?_) AllReadyH.nil)
              refine wp_build2 47 rfl (.tmp 44) (.tmp 46) rfl x.l x.m (by simp [Act.eval]) (by simp [Act.eval]) ?_
              have S13 := hid (Sl.new T12.out x.l x.m)
              have hb13 := alloc_one w12 (.cells (twoCs x.l x.m) 36)
              have T13 := hid (T12.out.on hb13)
              have A13 := (hb13.block _ (lt_of_block A12)).trans A12
              have S13s1 := hid (S12s1.out.on hb13)
              clear hb13
              generalize w12.alloc (.cells (twoCs x.l x.m) 36) = w13 at S13 T13 A13 S13s1 ⊢
              obtain ⟨a13, ha13⟩ : ∃ a, w12.heap.size = a := ⟨_, rfl⟩
              rw [ha13] at S13
              rw [ha13]
              clear ha13
              refine hK.out _ _ A13 (fun hHeld => ?_)
              clear hK K
              try simp only [Act.put, List.setIfInBounds_toArray, List.set_cons_zero, List.set_cons_succ]
              refine wpAnyH_ready (rs := [13]) (by kernel_rfl) (by simp) (nextH 13 rfl (by rfl) (fun K hK => ?_) AllReadyH.nil)
              go_simp
              refine (rsend_any Z.heap.size q a13 0 2 v rs [x.l, x.m] w13 T13.out.ref S13.out.sendR S13.out.nq (by simp)).mono ?_
              rintro e w14 ⟨rfl, ht14⟩
              rw [lost_same HE.out, HLO.out]
              obtain ⟨vv14, hT14, hK14⟩ := T13.out.turnR ht14 (sent_is T13.out.is (two_mem HXI.out.1 HXI.out.2))
              have T14 := hid hT14
              have A14 := hK14 _ _ A13
              clear ht14 hT14 hK14
              refine hK.out _ _ A14 (fun hHeld => ?_)
              clear hK K
              try simp only [Act.put, List.setIfInBounds_toArray, List.set_cons_zero, List.set_cons_succ]
              refine takeH 14 49 (.bool true) rfl rfl (by kernel_rfl) (by kernel_rfl) (by kernel_rfl) (fun _ _ _ h => h) (by rfl) ?_ A14 ?_
              · intro w' hSw
                go_simp
              try simp only [Act.put, List.setIfInBounds_toArray, List.set_cons_zero, List.set_cons_succ]
              refine takeH 15 7 (.bool true) rfl rfl (by kernel_rfl) (by kernel_rfl) (by kernel_rfl) (fun _ _ _ h => h) (by rfl) ?_ A14 ?_
              · intro w' hSw
                go_simp
              try simp only [Act.put, List.setIfInBounds_toArray, List.set_cons_zero, List.set_cons_succ]
              refine wpAnyH_done (by kernel_rfl) ?_ _
              go_wp2
              go_meet
              case rel => exact ⟨rfl, _, _, _, _, T14.out, by rw [HP12.out, sent_same HE.out]⟩
            · refine wp_build2 47 rfl (.tmp 44) (.tmp 46) rfl x.l x.m (by simp [Act.eval]) (by simp [Act.eval]) ?_
              have S15 := hid (Sl.new T11.out x.l x.m)
              have hb15 := alloc_one w11 (.cells (twoCs x.l x.m) 36)
              have T15 := hid (T11.out.on hb15)
              have A15 := (hb15.block _ (lt_of_block A11)).trans A11
              have S15s1 := hid (S11.out.on hb15)
              clear hb15
              generalize w11.alloc (.cells (twoCs x.l x.m) 36) = w15 at S15 T15 A15 S15s1 ⊢
              obtain ⟨a15, ha15⟩ : ∃ a, w11.heap.size = a := ⟨_, rfl⟩
              rw [ha15] at S15
              rw [ha15]
              clear ha15
              refine hK.out _ _ A15 (fun hHeld => ?_)
              clear hK K
              try simp only [Act.put, List.setIfInBounds_toArray, List.set_cons_zero, List.set_cons_succ]
              refine wpAnyH_ready (rs := [6]) (by kernel_rfl) (by simp) (nextH 6 rfl (by rfl) (fun K hK => ?_) AllReadyH.nil)
              go_simp
              refine (send_net Z.heap.size p u (.slice (some ⟨a11, 0, none⟩) 2 2) ns [x.l, x.m] w15 T15.out.net (S15s1.out.send T15.out HXI.out.1 HXI.out.2) (two_sm HSX.out.1 HSX.out.2) (by simp)).mono ?_
              rintro e w16 ⟨rfl, ht16⟩
              rw [HLO.out]
              obtain ⟨uu16, nn16, hp16, hT16, hK16, hS16⟩ := T15.out.turnN ht16
              have T16 := hid hT16
              have HP16 := hid hp16
              have A16 := hK16 _ _ A15
              have S16s1 := hid (hS16 _ _ _ S15s1.out)
              have S16s2 := hid (hS16 _ _ _ S15.out)
              clear ht16 hp16 hT16 hK16 hS16
              refine hK.out _ _ A16 (fun hHeld => ?_)
              clear hK K
              try simp only [Act.put, List.setIfInBounds_toArray, List.set_cons_zero, List.set_cons_succ]
              refine wpAnyH_ready (rs := [13]) (by kernel_rfl) (by simp) (nextH 13 rfl (by rfl) (fun K hK => ?_) AllReadyH.nil)
              go_simp
              refine (rsend_any Z.heap.size q a15 0 2 v rs [x.l, x.m] w16 T16.out.ref S16s2.out.sendR S16s2.out.nq (by simp)).mono ?_
              rintro e w17 ⟨rfl, ht17⟩
              rw [lost_same HE.out, HLO.out]
              obtain ⟨vv17, hT17, hK17⟩ := T16.out.turnR ht17 (sent_is T16.out.is (two_mem HXI.out.1 HXI.out.2))
              have T17 := hid hT17
              have A17 := hK17 _ _ A16
              clear ht17 hT17 hK17
              refine hK.out _ _ A17 (fun hHeld => ?_)
              clear hK K
              try simp only [Act.put, List.setIfInBounds_toArray, List.set_cons_zero, List.set_cons_succ]
              refine takeH 14 49 (.bool true) rfl rfl (by kernel_rfl) (by kernel_rfl) (by kernel_rfl) (fun _ _ _ h => h) (by rfl) ?_ A17 ?_
              · intro w' hSw
                go_simp
              try simp only [Act.put, List.setIfInBounds_toArray, List.set_cons_zero, List.set_cons_succ]
              refine takeH 15 7 (.bool true) rfl rfl (by kernel_rfl) (by kernel_rfl) (by kernel_rfl) (fun _ _ _ h => h) (by rfl) ?_ A17 ?_
              · intro w' hSw
                go_simp
              try simp only [Act.put, List.setIfInBounds_toArray, List.set_cons_zero, List.set_cons_succ]
              refine wpAnyH_done (by kernel_rfl) ?_ _
              go_wp2
              go_meet
              case rel => exact ⟨rfl, _, _, _, _, T17.out, by rw [HP16.out, sent_same HE.out]⟩
          · refine wp_build2 47 rfl (.tmp 44) (.tmp 46) rfl x.l x.m (by simp [Act.eval]) (by simp [Act.eval]) ?_
            have S18 := hid (Sl.new TD.out x.l x.m)
            have hb18 := alloc_one wd (.cells (twoCs x.l x.m) 36)
            have T18 := hid (TD.out.on hb18)
            have A18 := (hb18.block _ (lt_of_block AD)).trans AD
            clear hb18
            generalize wd.alloc (.cells (twoCs x.l x.m) 36) = w18 at S18 T18 A18 ⊢
            obtain ⟨a18, ha18⟩ : ∃ a, wd.heap.size = a := ⟨_, rfl⟩
            rw [ha18] at S18
            rw [ha18]
            clear ha18
            refine hK.out _ _ A18 (fun hHeld => ?_)
            clear hK K
            try simp only [Act.put, List.setIfInBounds_toArray, List.set_cons_zero, List.set_cons_succ]
            refine wpAnyH_ready (rs := [5]) (by kernel_rfl) (by simp) (nextH 5 rfl (by rfl) (fun K hK => ?_) AllReadyH.nil)
            refine wp_build2 40 rfl (.tmp 37) (.tmp 39) rfl x.l x.m (by simp [Act.eval]) (by simp [Act.eval]) ?_
            have S19 := hid (Sl.new T18.out x.l x.m)
            have hb19 := alloc_one w18 (.cells (twoCs x.l x.m) 36)
            have T19 := hid (T18.out.on hb19)
            have A19 := (hb19.block _ (lt_of_block A18)).trans A18
            have S19s2 := hid (S18.out.on hb19)
            clear hb19
            generalize w18.alloc (.cells (twoCs x.l x.m) 36) = w19 at S19 T19 A19 S19s2 ⊢
            obtain ⟨a19, ha19⟩ : ∃ a, w18.heap.size = a := ⟨_, rfl⟩
            rw [ha19] at S19
            rw [ha19]
            clear ha19
            refine hK.out _ _ A19 (fun hHeld => ?_)
            clear hK K
            try simp only [Act.put, List.setIfInBounds_toArray, List.set_cons_zero, List.set_cons_succ]
            refine wpAnyH_ready (rs := [6]) (by kernel_rfl) (by simp) (nextH 6 rfl (by rfl) (fun K hK => ?_) AllReadyH.nil)
            go_simp
            refine (send_net Z.heap.size p u (.slice (some ⟨a19, 0, none⟩) 2 2) ns [x.l, x.m] w19 T19.out.net (S19.out.send T19.out HXI.out.1 HXI.out.2) (two_sm HSX.out.1 HSX.out.2) (by simp)).mono ?_
            rintro e w20 ⟨rfl, ht20⟩
            rw [HLO.out]
            obtain ⟨uu20, nn20, hp20, hT20, hK20, hS20⟩ := T19.out.turnN ht20
            have T20 := hid hT20
            have HP20 := hid hp20
            have A20 := hK20 _ _ A19
            have S20s1 := hid (hS20 _ _ _ S19.out)
            have S20s2 := hid (hS20 _ _ _ S19s2.out)
            clear ht20 hp20 hT20 hK20 hS20
            refine hK.out _ _ A20 (fun hHeld => ?_)
            clear hK K
            try simp only [Act.put, List.setIfInBounds_toArray, List.set_cons_zero, List.set_cons_succ]
            refine wpAnyH_ready (rs := [13]) (by kernel_rfl) (by simp) (nextH 13 rfl (by rfl) (fun K hK => ?_) AllReadyH.nil)
            go_simp
            refine (rsend_any Z.heap.size q a18 0 2 v rs [x.l, x.m] w20 T20.out.ref S20s2.out.sendR S20s2.out.nq (by simp)).mono ?_
            rintro e w21 ⟨rfl, ht21⟩
            rw [lost_same HE.out, HLO.out]
            obtain ⟨vv21, hT21, hK21⟩ := T20.out.turnR ht21 (sent_is T20.out.is (two_mem HXI.out.1 HXI.out.2))
            have T21 := hid hT21
            have A21 := hK21 _ _ A20
            clear ht21 hT21 hK21
            refine hK.out _ _ A21 (fun hHeld => ?_)
            clear hK K
            try simp only [Act.put, List.setIfInBounds_toArray, List.set_cons_zero, List.set_cons_succ]
            refine takeH 14 49 (.bool true) rfl rfl (by kernel_rfl) (by kernel_rfl) (by kernel_rfl) (fun _ _ _ h => h) (by rfl) ?_ A21 ?_
            · intro w' hSw
              go_simp
            try simp only [Act.put, List.setIfInBounds_toArray, List.set_cons_zero, List.set_cons_succ]
            refine takeH 15 7 (.bool true) rfl rfl (by kernel_rfl) (by kernel_rfl) (by kernel_rfl) (fun _ _ _ h => h) (by rfl) ?_ A21 ?_
            · intro w' hSw
              go_simp
            try simp only [Act.put, List.setIfInBounds_toArray, List.set_cons_zero, List.set_cons_succ]
            refine wpAnyH_done (by kernel_rfl) ?_ _
            go_wp2
            go_meet
            case rel => exact ⟨rfl, _, _, _, _, T21.out, by rw [HP20.out, sent_same HE.out]⟩
        · have b0 : (x.do_ == 0) = false := by simpa using h0
          by_cases h1 : x.do_ = 1
          · have b1 : (x.do_ == 1) = true := by simpa using h1
            clear h0 h1
            have g1 := (HCA.out _ _ HA3.out).2.1
            obtain ⟨z, hz⟩ : ∃ z, tookN zeroX rs x.i_ = z := ⟨_, rfl⟩
            have HZ := hid hz
            clear hz
            go_wp2_with fail
            refine (take_net Z.heap.size p u ns x.i_ w3 HT3.out.net).mono ?_
            rintro e w4 ⟨⟨y, rfl, hy, hyo⟩, ht4⟩
            rw [HOP.out]
            obtain ⟨u4, ns4, hp4, hT4, hK4, -⟩ := HT3.out.turnN ht4
            have HY := hid hy
            have HYO := hid hyo
            have HP4 := hid hp4
            have HQ4 := hid hT4.ref.lt
            have T5 := hid (hT4.on (alloc_one w4 (.cells #[.int .i64 y.r.from_, .int .i64 y.r.to_, .int .i64 y.r.kind, .int .i64 y.r.split, .int .i64 y.r.attempt, .int .i64 y.r.part, .int .i64 y.r.seq, .int .i64 y.r.next, .int .i64 y.r.epoch, .int .i64 y.r.reason, .slice y.so y.r.set.length y.sc, .slice y.po y.r.prs.length y.pc] 36)))
            have A5 := ((alloc_one w4 (.cells #[.int .i64 y.r.from_, .int .i64 y.r.to_, .int .i64 y.r.kind, .int .i64 y.r.split, .int .i64 y.r.attempt, .int .i64 y.r.part, .int .i64 y.r.seq, .int .i64 y.r.next, .int .i64 y.r.epoch, .int .i64 y.r.reason, .slice y.so y.r.set.length y.sc, .slice y.po y.r.prs.length y.pc] 36)).block _ (lt_of_block (hK4 _ _ HA3.out))).trans (hK4 _ _ HA3.out)
            have g5 := (HCA.out _ _ A5).2.1
            clear hy hyo hp4 hT4 hK4 ht4 g0 g1
            go_wp2_with fail
            refine (rtake_any Z.heap.size q x.i_ v rs _ T5.out.ref).mono ?_
            rintro e w6 ⟨rfl, ht6⟩
            rw [place_same HE.out, HOP.out, HZ.out]
            simp only [LetX.cs]
            have hmem := ht6
            obtain ⟨v6a, r1, r2, r3⟩ := ht6
            have hbox := r2.at (new_block w4 (.cells #[.int .i64 y.r.from_, .int .i64 y.r.to_, .int .i64 y.r.kind, .int .i64 y.r.split, .int .i64 y.r.attempt, .int .i64 y.r.part, .int .i64 y.r.seq, .int .i64 y.r.next, .int .i64 y.r.epoch, .int .i64 y.r.reason, .slice y.so y.r.set.length y.sc, .slice y.po y.r.prs.length y.pc] 36)) (fun e => by have := HQ4.out; have h2 : w4.heap.size = q := e; omega)
            have HYO6 := hid (T5.out.ownR r2 (HYO.out.below (alloc_one w4 (.cells #[.int .i64 y.r.from_, .int .i64 y.r.to_, .int .i64 y.r.kind, .int .i64 y.r.split, .int .i64 y.r.attempt, .int .i64 y.r.part, .int .i64 y.r.seq, .int .i64 y.r.next, .int .i64 y.r.epoch, .int .i64 y.r.reason, .slice y.so y.r.set.length y.sc, .slice y.po y.r.prs.length y.pc] 36))))
            obtain ⟨v6, hT6, -⟩ := T5.out.turnR hmem (left_is T5.out.is _)
            have T6 := hid hT6
            have HZI := hid (show z.Is w6 from hT6.here (show z.Is Z from by rw [← HZ.out]; exact took_is T5.out.is _))
            have hlt6 := lt_of_block hbox
            have T7 := hid (T6.out.on (alloc_one w6 (.cells (encL z).toArray 36)))
            have HY7 := hid (((alloc_one w6 (.cells (encL z).toArray 36)).block _ hlt6).trans hbox)
            have HZ7 := hid (new_block w6 (.cells (encL z).toArray 36))
            have HYI7 := hid (HYO6.out.is.below (alloc_one w6 (.cells (encL z).toArray 36)))
            have HZI7 := hid (HZI.out.below (alloc_one w6 (.cells (encL z).toArray 36)))
            clear hmem r1 r2 r3 hT6 A5 g5 hlt6 hbox
            go_upto_region 17 with fail
            refine wp_region_list ?_
            have hw7 : w6.alloc (.cells #[.int .i64 z.r.from_, .int .i64 z.r.to_, .int .i64 z.r.kind, .int .i64 z.r.split, .int .i64 z.r.attempt, .int .i64 z.r.part, .int .i64 z.r.seq, .int .i64 z.r.next, .int .i64 z.r.epoch, .int .i64 z.r.reason, .slice z.so z.r.set.length z.sc, .slice z.po z.r.prs.length z.pc] 36) = w6.alloc (.cells (encL z).toArray 36) := rfl
            rw [hw7]
            clear hw7
            generalize w6.alloc (.cells (encL z).toArray 36) = w7 at T7 HY7 HZ7 HYI7 HZI7 ⊢
            generalize w6.heap.size = zb at HZ7 ⊢
            generalize w4.heap.size = yb at HY7 ⊢
            refine wpList_load_mid rfl 36 _ rfl yb 0 rfl (encL y) _ (range_box HY7.out) Try.underlying36 rfl (info_letter y) ?_
            simp only [Act.put, List.setIfInBounds_toArray, List.set_cons_zero, List.set_cons_succ]
            refine wpList_build1 rfl 67 rfl (.tmp 66) rfl y (by simp [Act.eval]) ?_
            simp only [Act.put, List.setIfInBounds_toArray, List.set_cons_zero, List.set_cons_succ]
            refine wpList_load_mid rfl 36 _ rfl zb 0 rfl (encL z) _ (range_box (((alloc_one w7 (.cells (encL y).toArray 36)).block _ (lt_of_block HZ7.out)).trans HZ7.out)) Try.underlying36 rfl (info_letter z) ?_
            simp only [Act.put, List.setIfInBounds_toArray, List.set_cons_zero, List.set_cons_succ]
            refine wpList_build1 rfl 69 rfl (.tmp 68) rfl z (by simp [Act.eval]) ?_
            simp only [Act.put, List.setIfInBounds_toArray, List.set_cons_zero, List.set_cons_succ]
            have HL9 := hid (show LetsX ((w7.alloc (.cells (encL y).toArray 36)).alloc (.cells (encL z).toArray 36)) (.slice (some ⟨w7.heap.size, 0, none⟩) 1 1) [y] ∧ LetsX ((w7.alloc (.cells (encL y).toArray 36)).alloc (.cells (encL z).toArray 36)) (.slice (some ⟨(w7.alloc (.cells (encL y).toArray 36)).heap.size, 0, none⟩) 1 1) [z] from by
              have := ones y z w7 HYI7.out HZI7.out
              rw [World.size_alloc]
              exact this)
            have T9 := hid (T7.out.on (two_below w7 (.cells (encL y).toArray 36) (.cells (encL z).toArray 36)))
            generalize (w7.alloc (.cells (encL y).toArray 36)).heap.size = zs at HL9 ⊢
            generalize (w7.alloc (.cells (encL y).toArray 36)).alloc (.cells (encL z).toArray 36) = w9 at HL9 T9 ⊢
            generalize w7.heap.size = ysl at HL9 ⊢
            clear T7 HY7 HZ7 HYI7 HZI7 HYO6 HZI
            go_wp2_with fail
            refine (sameLetters_dec _ _ [y] [z] _ HL9.out.1 HL9.out.2).mono ?_
            rintro e w10 ⟨rfl, hb10⟩
            rw [show sameL (plain [y]) (plain [z]) = true from by unfold plain; rw [List.map_cons, List.map_cons, HY.out, ← HZ.out, took_same HE.out]; exact sameL_self _]
            have T10 := hid (T9.out.on hb10)
            have hpp : (okp == okp) = true := by simp
            clear hb10
            go_wp2
            go_meet
            case rel => exact ⟨rfl, _, _, _, _, T10.out, by rw [HP4.out, left_same HE.out]⟩
          · have b1 : (x.do_ == 1) = false := by simpa using h1
            by_cases h2 : x.do_ = 2
            · have b2 : (x.do_ == 2) = true := by simpa using h2
              clear h0 h1 h2
              go_upto_region 19 with fail
              clear g0 b0 b1 b2
              have TD := hid (HT3.out.on (below_drew1 w3))
              have AD : w3.drew.heap[g]? = some (.cells L.toArray 38 (0, 0)) := HA3.out
              refine wp_region_held_drew (S := fun w' => w'.heap[g]? = some (.cells L.toArray 38 (0, 0))) (by kernel_rfl) AD (fun hHeld => ?_)
              generalize w3.drew = wd at TD AD hHeld ⊢
              refine takeH 0 78 (.pointer (some ⟨p, 0, none⟩)) rfl rfl (by kernel_rfl) (by kernel_rfl) (by kernel_rfl) (fun _ _ _ h => h) (by rfl) ?_ AD ?_
              · intro w' hSw
                go_simp
              try simp only [Act.put, List.setIfInBounds_toArray, List.set_cons_zero, List.set_cons_succ]
              refine takeH 1 79 (.pointer (some ⟨g, 1, none⟩)) rfl rfl (by kernel_rfl) (by kernel_rfl) (by kernel_rfl) (fun _ _ _ h => h) (by rfl) ?_ AD ?_
              · intro w' hSw
                go_simp
              try simp only [Act.put, List.setIfInBounds_toArray, List.set_cons_zero, List.set_cons_succ]
              refine takeH 2 80 (.int .i64 x.i_) rfl rfl (by kernel_rfl) (by kernel_rfl) (by kernel_rfl) (fun _ _ _ h => h) (by rfl) ?_ AD ?_
              · intro w' hSw
                obtain ⟨q0, q1, q2, q3, q4, q5, q6, q7, q8, q9, q10, q11, q12, q13, q14, q15, q16, q17, q18, q19, q20, q21, q22, q23, q24, q25⟩ := HCA.out _ _ hSw; go_simp
              try simp only [Act.put, List.setIfInBounds_toArray, List.set_cons_zero, List.set_cons_succ]
              refine takeH 4 82 (.pointer (some ⟨q, 0, none⟩)) rfl rfl (by kernel_rfl) (by kernel_rfl) (by kernel_rfl) (fun _ _ _ h => h) (by rfl) ?_ AD ?_
              · intro w' hSw
                go_simp
              try simp only [Act.put, List.setIfInBounds_toArray, List.set_cons_zero, List.set_cons_succ]
              refine takeH 5 83 (.pointer (some ⟨g, 1, none⟩)) rfl rfl (by kernel_rfl) (by kernel_rfl) (by kernel_rfl) (fun _ _ _ h => h) (by rfl) ?_ AD ?_
              · intro w' hSw
                go_simp
              try simp only [Act.put, List.setIfInBounds_toArray, List.set_cons_zero, List.set_cons_succ]
              refine takeH 6 84 (.int .i64 x.i_) rfl rfl (by kernel_rfl) (by kernel_rfl) (by kernel_rfl) (fun _ _ _ h => h) (by rfl) ?_ AD ?_
              · intro w' hSw
                obtain ⟨q0, q1, q2, q3, q4, q5, q6, q7, q8, q9, q10, q11, q12, q13, q14, q15, q16, q17, q18, q19, q20, q21, q22, q23, q24, q25⟩ := HCA.out _ _ hSw; go_simp
              try simp only [Act.put, List.setIfInBounds_toArray, List.set_cons_zero, List.set_cons_succ]
              refine wpAnyH_ready (rs := [3]) (by kernel_rfl) (by simp) (nextH 3 rfl (by rfl) (fun K hK => ?_) AllReadyH.nil)
              go_simp
              refine (double_net Z.heap.size p u ns x.i_ wd TD.out.net).mono ?_
              rintro e w11 ⟨rfl, ht11⟩
              rw [HOK.out]
              obtain ⟨uu11, nn11, hp11, hT11, hK11, hS11⟩ := TD.out.turnN ht11
              have T11 := hid hT11
              have HP11 := hid hp11
              have A11 := hK11 _ _ AD
              clear ht11 hp11 hT11 hK11 hS11
              refine hK.out _ _ A11 (fun hHeld => ?_)
              clear hK K
              try simp only [Act.put, List.setIfInBounds_toArray, List.set_cons_zero, List.set_cons_succ]
              refine wpAnyH_ready (rs := [7]) (by kernel_rfl) (by simp) (nextH 7 rfl (by rfl) (fun K hK => ?_) AllReadyH.nil)
              go_simp
              refine (rdouble_any Z.heap.size q x.i_ v rs w11 T11.out.ref).mono ?_
              rintro e w12 ⟨rfl, ht12⟩
              rw [ok_same HE.out, HOK.out]
              obtain ⟨vv12, hT12, hK12⟩ := T11.out.turnR ht12 (dbl_is T11.out.is _)
              have T12 := hid hT12
              have A12 := hK12 _ _ A11
              clear ht12 hT12 hK12
              refine hK.out _ _ A12 (fun hHeld => ?_)
              clear hK K
              try simp only [Act.put, List.setIfInBounds_toArray, List.set_cons_zero, List.set_cons_succ]
              refine takeH 8 86 (.bool true) rfl rfl (by kernel_rfl) (by kernel_rfl) (by kernel_rfl) (fun _ _ _ h => h) (by rfl) ?_ A12 ?_
              · intro w' hSw
                go_simp
              try simp only [Act.put, List.setIfInBounds_toArray, List.set_cons_zero, List.set_cons_succ]
              refine takeH 9 7 (.bool true) rfl rfl (by kernel_rfl) (by kernel_rfl) (by kernel_rfl) (fun _ _ _ h => h) (by rfl) ?_ A12 ?_
              · intro w' hSw
                go_simp
              try simp only [Act.put, List.setIfInBounds_toArray, List.set_cons_zero, List.set_cons_succ]
              refine wpAnyH_done (by kernel_rfl) ?_ _
              go_wp2
              go_meet
              case rel => exact ⟨rfl, _, _, _, _, T12.out, by rw [HP11.out, dbl_same HE.out]⟩
            · have b2 : (x.do_ == 2) = false := by simpa using h2
              clear h0 h1 h2
              go_wp2
              go_meet
              case rel => exact ⟨rfl, _, _, _, _, HT3.out, HE.out⟩
      case rest => as_aux_lemma =>
        obtain ⟨rfl, u2, v2, ns2, rs2, hT2, hsame2⟩ := hcut
        have T2 := hid hT2
        have HE2 := hid hsame2
        clear hT2 hsame2
        go_wp2_with fail
        refine (list_net Z.heap.size p u2 ns2 _ T2.out.net).mono ?_
        rintro e w20 ⟨v20, ys, rfl, hpl, hrow, hb20⟩
        have HPL := hid hpl
        have HROW := hid hrow
        have HB20 := hid hb20
        have T20 := hid (T2.out.on hb20)
        obtain ⟨vo, vc, rfl⟩ := T2.out.ref.slice
        have HLEN := hid (show ns2.length = rs2.length from by rw [← plain_len ns2, HE2.out, plain_len])
        have e1 : ((rs2.length : Int) != (rs2.length : Int)) = false := by simp
        have c0 := T20.out.ref.c0
        have HC := hid (fun w' (hb : Below w20.heap.size w20 w') => (T20.out.ref.below hb).c0)
        clear hpl hrow hb20
        go_upto_region 21 with fail
        have TD := hid (T20.out.on (below_drew1 w20))
        go_region_held3 (fun w' => w'.cell? ⟨q, 0, none⟩ = some (.slice vo rs2.length vc)) (first | exact HC.out _ HB5.out | exact HC.out _ (below_drew1 _) | go_keep)
          (first | (go_at_call 17; refine (len_net Z.heap.size p u2 ns2 w20.drew TD.out.net).mono ?_; rintro e w4 ⟨rfl, rfl⟩; rw [HLEN.out]) | (go_at_call 13; refine (sameLetters_dec v20 (.slice vo rs2.length vc) ys rs2 w20.drew (HROW.out.row.lets.below (below_drew1 w20)) ⟨TD.out.ref.reads, fun r hr => TD.out.here (TD.out.is r hr)⟩).mono ?_; rintro e w5 ⟨rfl, hb5⟩; have HB5 := hid (below_then (below_drew1 w20) hb5 (below_drew1 w20).size); rw [show sameL (plain ys) (plain rs2) = true from by rw [HPL.out, HE2.out]; exact sameL_self _]; clear hb5))
        have T5 := hid (T20.out.on HB5.out)
        have HR5 := hid (HROW.out.below HB5.out)
        have HBW := hid (below_then HB20.out HB5.out HB20.out.size)
        have hyl : ys.length ≤ 1000000 := by rw [← plain_len ys, HPL.out, plain_len]; have := T2.out.net.few; omega
        clear c0 TD
        go_wp2_with fail
        refine (overLetters_any _ ys v20 _ w5 HR5.out HBW.out (Nat.le_refl _) hyl (sm_plain HPL.out T2.out.net.sm)).mono ?_
        rintro e w6 ⟨rfl, hb6⟩
        have T6 := hid (T2.out.on hb6)
        clear hb6
        go_wp2
        go_roundw
        case rel => exact ⟨k + 1, by omega, by go_num, _, _, _, _, T6.out, HE2.out⟩
        case measure => simp [intOf]; omega
    · have d5 : decide ((k : Int) < (xs.length : Int)) = false := by simp; omega
      obtain ⟨vo, vc, rfl⟩ := HT.out.ref.slice
      have c0 := HT.out.ref.c0
      have HC := hid (fun w' (hb : Below wr.heap.size wr w') => (HT.out.ref.below hb).c0)
      go_upto_region 24 with fail
      have TD := hid (HT.out.on (below_drew1 wr))
      have HBD := hid (below_drew1 wr)
      go_region_held3 (fun w' => w'.cell? ⟨q, 0, none⟩ = some (.slice vo rs.length vc)) (first | exact HC.out _ HB6.out | exact HC.out _ HB5.out | exact HC.out _ HB4.out | exact HC.out _ (below_drew1 _) | go_keep)
        (first | (go_at_call 16; refine (list_net Z.heap.size p u ns wr.drew TD.out.net).mono ?_; rintro e w4 ⟨v4, ys, rfl, hpl, hrow, hb4⟩; have HPL := hid hpl; have HROW := hid hrow; have HB4 := hid (below_then HBD.out hb4 HBD.out.size); clear hpl hrow hb4) | (go_at_call 13; refine (sameLetters_dec v4 (.slice vo rs.length vc) ys rs w4 HROW.out.row.lets ⟨(HT.out.on HB4.out).ref.reads, fun r hr => (HT.out.on HB4.out).here (HT.out.is r hr)⟩).mono ?_; rintro e w5 ⟨rfl, hb5⟩; have HB5 := hid (below_then HB4.out hb5 HB4.out.size); rw [show sameL (plain ys) (plain rs) = true from by rw [HPL.out, HE.out]; exact sameL_self _]; clear hb5) | (go_at_call 7; refine (awake_calls w5).mono ?_; rintro e w6 ⟨rfl, hb6⟩; have HB6 := hid (below_then HB5.out hb6 HB5.out.size); clear hb6))
      have HF := hid (below_then HBZ.out (below_then HT.out.bel HB6.out HT.out.low) HBZ.out.size)
      go_wp2
      go_ret
      exact ⟨rfl, HF.out⟩
theorem netScript_walk (w : World) (v : Value) (l : List ActT) (h : rSlice 26 rAct w [v] l) :
    Calls Try.prog 3 #[v] w fun e w' => e = .returned (.bool true) ∧ Below w.heap.size w w' := by
  obtain ⟨xs, hx⟩ := Acts.arg h
  exact netScript_main w v xs hx
end Go.Proofs.Ytocedfagfmkgdaa
