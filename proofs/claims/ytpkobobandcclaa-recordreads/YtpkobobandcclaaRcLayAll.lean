/- Lists of records' bytes as the program lays them. -/
import Derived.Test.YtpkobobandcclaaRcLayOne
namespace Go.Proofs.Ytpkobobandcclaa
open Go.RowKit
set_option linter.unusedVariables false

theorem flat_bd : ∀ (rs : List RecV), rs.all mayR = true → (flatR rs).length ≤ 4008 * rs.length
  | [], _ => by simp [flatR]
  | r :: rs, h => by
    rw [List.all_cons, Bool.and_eq_true] at h
    have h1 := flat_bd rs h.2
    have h2 := body_bd (may_fit h.1)
    rw [flatR_cons, List.length_append, layR_length, List.length_cons]
    omega
theorem flat_step {rs : List RecV} {k : Nat} {r : RecV} (h : rs[k]? = some r) : flatR (rs.take (k + 1)) = flatR (rs.take k) ++ layR r := by
  rw [List.take_add_one, h, flatR_app]
  simp [flatR]
theorem may_step {rs : List RecV} {k : Nat} {r : RecV} (h : (rs.take k).all mayR = true) (hr : rs[k]? = some r) (h1 : mayR r = true) : (rs.take (k + 1)).all mayR = true := by
  rw [List.take_add_one, hr, List.all_append, h]
  simp [h1]
theorem may_not {rs : List RecV} {k : Nat} {r : RecV} (hr : rs[k]? = some r) (h1 : mayR r = false) : layL rs = [] := by
  unfold layL
  rw [if_neg]
  rw [List.all_eq_true]
  intro h
  rw [h r (List.mem_of_getElem? hr)] at h1
  cases h1
theorem lay_yes {rs : List RecV} (h : rs.all mayR = true) : layL rs = flatR rs := by
  unfold layL
  rw [if_pos h]
theorem take_bd {rs : List RecV} {k : Nat} (h : (rs.take k).all mayR = true) (hl : rs.length ≤ 10) : (flatR (rs.take k)).length ≤ 40080 := by
  have h1 := flat_bd _ h
  have h2 : (rs.take k).length ≤ rs.length := by rw [List.length_take]; omega
  omega
/-- A byte slice's parts, as append asks for them. -/
theorem Bs.news2 {w : World} {ao : Option Addr} {n c : Nat} {l : List Int} (h : Bs w (.slice ao n c) l) : (ao = none → n = 0 ∧ c = 0) ∧ (∀ ad, ao = some ad → ∀ j u, (cel l)[j]? = some u → w.cell? (ad.add j) = some u) ∧ n = l.length := by
  have h' := h
  obtain ⟨ao', cap', hv, h1, h2, h3, h4⟩ := h
  cases hv
  exact ⟨fun e => ⟨by rw [(h3 e).1]; rfl, (h3 e).2⟩, h'.news (Below.refl _ _), rfl⟩

set_option maxRecDepth 100000 in
set_option maxHeartbeats 16000000 in
theorem recLay_any (v : Value) (rs : List RecV) (w : World) (hv : Recs w v rs) (hl : rs.length ≤ 10) :
    Calls Try.prog 9 #[v] w fun e w' => ∃ u, e = .returned u ∧ OB w.heap.size u (layL rs) w' ∧ Below w.heap.size w w' := by
  have HV := hid hv
  obtain ⟨ao, ca, rfl, a1, a2, -⟩ := hv.slice
  obtain ⟨i0, hi, hz0, hz1, hz2⟩ := info_parts Try.info5
  unfold maxLen at a2
  clear hv
  go_enter Try.func9, Try.ntmps9
  go_wp2
  go_loopw [3, 8] (fun u i wr => ∃ k : Nat, k ≤ rs.length ∧ (rs.take k).all mayR = true ∧ i = .int .i64 k ∧ OB w.heap.size u (flatR (rs.take k)) wr ∧ Below w.heap.size w wr) (fun _ i _ => rs.length - (intOf i).toNat)
  case atStart => exact ⟨0, by omega, rfl, rfl, OB.nil _ _, Below.refl _ _⟩
  case round =>
    obtain ⟨k, hk, hm, rfl, ho, hbr⟩ := hrel
    have HM := hid hm
    have HO := hid ho
    clear hm ho
    have hlow := hbr.size
    by_cases hlt : k < rs.length
    · obtain ⟨b, off, r, so, sc, po, pc, hr, rfl, hb, hi1, c0, c1, c2, c3, c4, c5, c6⟩ := (HV.out.below hbr).cell hlt
      have HR := hid hr
      clear hr
      have hd4 : decide ((k : Int) < (rs.length : Int)) = true := by simp; omega
      have HB1 := hid (below_then hbr (alloc_one wr (.cells #[.int .i64 r.kind, .int .i64 r.part, .int .i64 r.split, .int .i64 r.attempt, .int .i64 r.reason, .slice so r.set.length sc, .slice po r.prs.length pc] 33)) hlow)
      have HO1 := hid (HO.out.below (alloc_one wr (.cells #[.int .i64 r.kind, .int .i64 r.part, .int .i64 r.split, .int .i64 r.attempt, .int .i64 r.reason, .slice so r.set.length sc, .slice po r.prs.length pc] 33)))
      have HI1 := hid (hi1.below (alloc_one wr (.cells #[.int .i64 r.kind, .int .i64 r.part, .int .i64 r.split, .int .i64 r.attempt, .int .i64 r.reason, .slice so r.set.length sc, .slice po r.prs.length pc] 33)))
      have HQ1 := hid (new_block wr (.cells #[.int .i64 r.kind, .int .i64 r.part, .int .i64 r.split, .int .i64 r.attempt, .int .i64 r.reason, .slice so r.set.length sc, .slice po r.prs.length pc] 33))
      clear HO hi1
      go_wp2_with fail
      refine (recMay_any r so sc po pc _ HI1.out).mono ?_
      rintro e w1 ⟨rfl, hb1⟩
      have HB2 := hid (below_then HB1.out hb1 HB1.out.size)
      have HO2 := hid (HO1.out.below hb1)
      have HI2 := hid (HI1.out.below hb1)
      have HQ2 := hid ((hb1.block _ (lt_of_block HQ1.out)).trans HQ1.out)
      clear HB1 HO1 HI1 HQ1 hb1 c0 c1 c2 c3 c4 c5 c6
      obtain ⟨g1, hg1⟩ : ∃ g, mayR r = g := ⟨_, rfl⟩
      have HG1 := hid hg1
      rw [hg1]
      clear hg1
      cases g1
      · have HN := hid (may_not HR.out HG1.out)
        go_wp2
        go_ret
        exact ⟨_, rfl, by rw [HN.out]; exact OB.nil _ _, HB2.out⟩
      · have c0 : w1.cell? ⟨wr.heap.size, 0, none⟩ = some (.int .i64 r.kind) := cell_of_cells HQ2.out
        have c1 : w1.cell? ⟨wr.heap.size, 1, none⟩ = some (.int .i64 r.part) := cell_of_cells HQ2.out
        have c2 : w1.cell? ⟨wr.heap.size, 2, none⟩ = some (.int .i64 r.split) := cell_of_cells HQ2.out
        have c3 : w1.cell? ⟨wr.heap.size, 3, none⟩ = some (.int .i64 r.attempt) := cell_of_cells HQ2.out
        have c4 : w1.cell? ⟨wr.heap.size, 4, none⟩ = some (.int .i64 r.reason) := cell_of_cells HQ2.out
        have c5 : w1.cell? ⟨wr.heap.size, 5, none⟩ = some (.slice so r.set.length sc) := cell_of_cells HQ2.out
        have c6 : w1.cell? ⟨wr.heap.size, 6, none⟩ = some (.slice po r.prs.length pc) := cell_of_cells HQ2.out
        go_wp2_with fail
        refine (layOne_any r so sc po pc w1 HI2.out HG1.out).mono ?_
        rintro e w2 ⟨u2, rfl, ho2, hb2⟩
        have HB3 := hid (below_then HB2.out hb2 HB2.out.size)
        have HO3 := hid (HO2.out.below hb2)
        have hsz3 := HB3.out.size
        obtain ⟨uo, uc, n, hn, rfl⟩ : ∃ uo uc n, (layR r).length = n ∧ u2 = .slice uo n uc := by
          obtain ⟨a, c, e⟩ := ho2.form
          exact ⟨a, c, _, rfl, e⟩
        obtain ⟨hnone, hnews, -⟩ := Bs.news2 ho2.bs
        have hbd := take_bd HM.out hl
        have hb9 := body_bd (may_fit HG1.out)
        have hll := layR_length r
        have hcl : (cel (layR r)).length = n * 1 := by rw [cel_length]; omega
        have hx1 : (flatR (rs.take k)).length + n ≤ maxLen := by unfold maxLen; omega
        have hx2 : ((flatR (rs.take k)).length + n) * 1 ≤ 140737488355328 := by omega
        have ho3' : w2.ownsRow w.heap.size 5 1 u3 (flatR (rs.take k)).length (cel (flatR (rs.take k))) := HO3.out
        have HN := hid hn
        clear ho2 hb2 HQ2 c0 c1 c2 c3 c4 c5 c6 HI2 hn hbd hb9 hll
        go_wp2_with (at_builtin; refine wpList_append_own_any _ rfl _ _ 25 rfl w.heap.size 5 i0 (.int .u8 0) 1 1 Try.underlying25 hi hz0 hz1 hz2 rfl (by decide) _ (flatR (rs.take k)).length (cel (flatR (rs.take k))) rfl ho3' uo n uc (cel (layR r)) rfl hcl hnone hnews (cel_oneCell _) hx1 hx2 hsz3 ?_; intro v3 w3 ho3 hg3)
        have HO4 := hid (show OB w.heap.size v3 (flatR (rs.take (k + 1))) w3 by
          unfold OB
          rw [flat_step HR.out, List.length_append, cel_append, HN.out]
          exact ho3)
        have HB4 := hid (HO3.out.grown hg3 HB3.out HB3.out.size (Nat.le_refl _))
        have HM2 := hid (may_step HM.out HR.out HG1.out)
        go_wp2
        go_roundw
        case rel => exact ⟨k + 1, by omega, HM2.out, by go_num, HO4.out, HB4.out⟩
        case measure => simp [intOf]; omega
    · have hd4 : decide ((k : Int) < (rs.length : Int)) = false := by simp; omega
      have HN := hid (show layL rs = flatR (rs.take k) by
        have h := HM.out
        rw [List.take_of_length_le (by omega)] at h ⊢
        exact lay_yes h)
      go_wp2
      go_ret
      exact ⟨_, rfl, by rw [HN.out]; exact HO.out, hbr⟩
end Go.Proofs.Ytpkobobandcclaa
