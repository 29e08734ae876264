/- A record's bytes as the program lays them. -/
import Derived.Test.YtpkobobandcclaaRcLay
namespace Go.Proofs.Ytpkobobandcclaa
open Go.RowKit
set_option linter.unusedVariables false

/-- Bytes that grow behind W; the block that was new there is as it was. -/
structure LSt (W : World) (A : Array Value) (v : Value) (l : List Int) (w : World) : Prop where
  own : OB W.heap.size v l w
  box : w.heap[W.heap.size]? = some (.cells A 33 (0, 0))
  bel : Below W.heap.size W w
theorem LSt.low {W : World} {A : Array Value} {v : Value} {l : List Int} {w : World} (h : LSt W A v l w) : W.heap.size ≤ w.heap.size := h.bel.size
theorem LSt.step {W : World} {A : Array Value} {v v' : Value} {l l' : List Int} {w w' : World} (h : LSt W A v l w) (ho : OB W.heap.size v' l' w') (hg : w.grownBy w' v.ownBlock) : LSt W A v' l' w' :=
  ⟨ho, grown_at h.own hg h.box (by decide), h.own.grown hg h.bel h.low (Nat.le_refl _)⟩
theorem LSt.on {W : World} {A : Array Value} {v : Value} {l : List Int} {w w' : World} (h : LSt W A v l w) (hb : Below w.heap.size w w') : LSt W A v l w' :=
  ⟨h.own.below hb, (hb.block _ (lt_of_block h.box)).trans h.box, below_then h.bel hb h.low⟩
theorem LSt.new (W : World) (A : Array Value) : LSt W A (.slice none 0 0) [] (W.alloc (.cells A 33)) := ⟨OB.nil _ _, new_block _ _, alloc_one _ _⟩
theorem LSt.cell {W : World} {A : Array Value} {v : Value} {l : List Int} {w : World} (h : LSt W A v l w) (i : Nat) : w.cell? ⟨W.heap.size, i, none⟩ = A[i]? := cell_of_cells h.box
/-- A step from a world of the same heap. -/
theorem LSt.hop {W : World} {A : Array Value} {v v' : Value} {l l' : List Int} {w w' w2 : World} (h : LSt W A v l w) (hg : w'.grownBy w2 v.ownBlock) (ho : OB W.heap.size v' l' w2) (e : w'.heap = w.heap ∧ w'.os = w.os ∧ w'.tape = w.tape ∧ w'.output = w.output) : LSt W A v' l' w2 := by
  obtain ⟨e1, e2, e3, e4⟩ := e
  have h2 : LSt W A v l w' := ⟨by have := h.own; unfold OB World.ownsRow at *; rw [e1]; exact this, by rw [e1]; exact h.box, ⟨by rw [e2]; exact h.bel.os, by rw [e3]; exact h.bel.tape, by rw [e4]; exact h.bel.output, by rw [e1]; exact h.bel.size, fun k hk => by rw [e1]; exact h.bel.block k hk⟩⟩
  exact h2.step ho hg
theorem OB.heap {base : Nat} {v : Value} {l : List Int} {w w' : World} (h : OB base v l w) (e : w'.heap = w.heap) : OB base v l w' := by
  unfold OB World.ownsRow at *
  rw [e]
  exact h
theorem at_hop {base q : Nat} {v : Value} {l : List Int} {w w' w2 : World} {cs : Array Value} {t : TypeId} {f : Nat × Nat} (hg : w'.grownBy w2 v.ownBlock) (h : OB base v l w) (hq : w.heap[q]? = some (.cells cs t f)) (ht : t ≠ 5) (e : w'.heap = w.heap) : w2.heap[q]? = some (.cells cs t f) := by
  have h2 := h.heap e
  exact grown_at h2 hg (by rw [e]; exact hq) ht
def six (r : RecV) : List Int := [r.kind, r.part, r.split, r.attempt, r.reason, (r.set.length : Int)]
theorem body_six (r : RecV) : bodyR r = NB (six r) ++ NB r.set ++ be8 r.prs.length ++ PB r.prs := by
  rw [body_nums]
  unfold numsR six
  rw [NB_app, NB_app, NB_cons r.prs.length []]
  simp [NB, List.append_assoc]
theorem NB_step {l : List Int} {k : Nat} {x : Int} (h : l[k]? = some x) : NB (l.take (k + 1)) = NB (l.take k) ++ be8 x := by
  rw [List.take_add_one, h, NB_app]
  simp [NB]
theorem PB_step {l : List KV} {k : Nat} {x : KV} (h : l[k]? = some x) : PB (l.take (k + 1)) = PB (l.take k) ++ txt x.1 ++ txt x.2 := by
  rw [List.take_add_one, h, PB_app]
  simp [PB, List.append_assoc]
theorem PB_take_bd (ps : List KV) (k : Nat) (h : ∀ x ∈ ps, x.1.size ≤ 16 ∧ x.2.size ≤ 64) (hl : ps.length ≤ 40) : (PB (ps.take k)).length ≤ 4000 := by
  have := PB_bd (ps.take k) (fun x hx => h x (List.mem_of_mem_take hx))
  have h2 : (ps.take k).length ≤ ps.length := by rw [List.length_take]; omega
  omega
theorem NB_take_bd (l : List Int) (k : Nat) (hl : l.length ≤ 100) : (NB (l.take k)).length ≤ 1000 := by
  rw [NB_length]
  have h2 : (l.take k).length ≤ l.length := by rw [List.length_take]; omega
  omega

theorem index_six (a0 a1 a2 a3 a4 a5 : Value) :
    (∀ w, Sem.run Try.prog (Instr.index 58 (.agg #[a0, a1, a2, a3, a4, a5]) (.int .i64 0)) w = .ok a0 w) ∧ (∀ w, Sem.run Try.prog (Instr.index 58 (.agg #[a0, a1, a2, a3, a4, a5]) (.int .i64 1)) w = .ok a1 w) ∧
    (∀ w, Sem.run Try.prog (Instr.index 58 (.agg #[a0, a1, a2, a3, a4, a5]) (.int .i64 2)) w = .ok a2 w) ∧ (∀ w, Sem.run Try.prog (Instr.index 58 (.agg #[a0, a1, a2, a3, a4, a5]) (.int .i64 3)) w = .ok a3 w) ∧
    (∀ w, Sem.run Try.prog (Instr.index 58 (.agg #[a0, a1, a2, a3, a4, a5]) (.int .i64 4)) w = .ok a4 w) ∧ (∀ w, Sem.run Try.prog (Instr.index 58 (.agg #[a0, a1, a2, a3, a4, a5]) (.int .i64 5)) w = .ok a5 w) := by
  have h : Try.prog.underlying 58 = some (.array 6 3) := by kernel_rfl
  simp [Instr.index, run_underlying h, asIntOf, go_sem]

set_option maxRecDepth 100000 in
set_option maxHeartbeats 16000000 in
theorem layOne_any (r : RecV) (so : Option Addr) (sc : Nat) (po : Option Addr) (pc : Nat) (w : World) (hr : RecIs w so sc po pc r) (hm : mayR r = true) :
    Calls Try.prog 24 #[.agg #[.int .i64 r.kind, .int .i64 r.part, .int .i64 r.split, .int .i64 r.attempt, .int .i64 r.reason, .slice so r.set.length sc, .slice po r.prs.length pc]] w fun e w' => ∃ v, e = .returned v ∧ OB w.heap.size v (layR r) w' ∧ Below w.heap.size w w' := by
  have HF := hid (may_fit hm)
  have HI := hid hr
  have HL0 := hid (LSt.new w #[.int .i64 r.kind, .int .i64 r.part, .int .i64 r.split, .int .i64 r.attempt, .int .i64 r.reason, .slice so r.set.length sc, .slice po r.prs.length pc])
  obtain ⟨i0, hi, hz0, hz1, hz2⟩ := info_parts Try.info5
  have hsl := hr.set.len
  have hql := prs_len hr.prs
  obtain ⟨x0, x1, x2, x3, x4, x5⟩ := index_six (.int .i64 r.kind) (.int .i64 r.part) (.int .i64 r.split) (.int .i64 r.attempt) (.int .i64 r.reason) (.int .i64 r.set.length)
  clear hr hm
  go_enter Try.func24, Try.ntmps24
  go_wp2
  go_loopw [3, 24] (fun v i wr => ∃ k : Nat, k ≤ 6 ∧ i = .int .i64 k ∧ LSt w #[.int .i64 r.kind, .int .i64 r.part, .int .i64 r.split, .int .i64 r.attempt, .int .i64 r.reason, .slice so r.set.length sc, .slice po r.prs.length pc] v (NB ((six r).take k)) wr) (fun _ i _ => 6 - (intOf i).toNat)
  case atStart => exact ⟨0, by omega, rfl, HL0.out⟩
  case round =>
    obtain ⟨k, hk, rfl, hs⟩ := hrel
    have HS := hid hs
    clear hs HL0
    have hlow := HS.out.low
    by_cases hlt : k < 6
    · have hd : decide ((k : Int) < 6) = true := by simp; omega
      have h6 : k = 0 ∨ k = 1 ∨ k = 2 ∨ k = 3 ∨ k = 4 ∨ k = 5 := by omega
      rcases h6 with rfl | rfl | rfl | rfl | rfl | rfl
      all_goals
        go_wp2_with fail
        refine (layNum_own w.heap.size u3 _ _ wr HS.out.own hlow (Nat.le_trans (NB_take_bd (six r) _ (by simp [six])) (by omega))).mono ?_
        rintro e w1 ⟨v1, rfl, ho1, hg1⟩
        have HS1 := hid (HS.out.step ho1 hg1)
        clear ho1 hg1 HS
        go_wp2
        go_roundw
        case rel => first | exact ⟨1, by omega, rfl, by have h := HS1.out; rwa [← NB_step (show (six r)[0]? = some _ from rfl)] at h⟩ | exact ⟨2, by omega, rfl, by have h := HS1.out; rwa [← NB_step (show (six r)[1]? = some _ from rfl)] at h⟩ | exact ⟨3, by omega, rfl, by have h := HS1.out; rwa [← NB_step (show (six r)[2]? = some _ from rfl)] at h⟩ | exact ⟨4, by omega, rfl, by have h := HS1.out; rwa [← NB_step (show (six r)[3]? = some _ from rfl)] at h⟩ | exact ⟨5, by omega, rfl, by have h := HS1.out; rwa [← NB_step (show (six r)[4]? = some _ from rfl)] at h⟩ | exact ⟨6, by omega, rfl, by have h := HS1.out; rwa [← NB_step (show (six r)[5]? = some _ from rfl)] at h⟩
        case measure => simp [intOf]
    · have hd : decide ((k : Int) < 6) = false := by simp; omega
      have hk6 : k = 6 := by omega
      have HS0 := hid (show LSt w #[.int .i64 r.kind, .int .i64 r.part, .int .i64 r.split, .int .i64 r.attempt, .int .i64 r.reason, .slice so r.set.length sc, .slice po r.prs.length pc] u3 (NB (six r)) wr by have := HS.out; rw [hk6] at this; exact this)
      clear HS hk6
      have c5 : wr.cell? ⟨w.heap.size, 5, none⟩ = some (.slice so r.set.length sc) := HS0.out.cell 5
      go_wp2
      go_loopw [3, 34] (fun v i wr => ∃ k : Nat, k ≤ r.set.length ∧ i = .int .i64 k ∧ LSt w #[.int .i64 r.kind, .int .i64 r.part, .int .i64 r.split, .int .i64 r.attempt, .int .i64 r.reason, .slice so r.set.length sc, .slice po r.prs.length pc] v (NB (six r) ++ NB (r.set.take k)) wr) (fun _ i _ => r.set.length - (intOf i).toNat)
      case atStart => exact ⟨0, by omega, rfl, by rw [List.take_zero, show NB [] = [] from rfl, List.append_nil]; exact HS0.out⟩
      case round =>
        obtain ⟨k, hk, rfl, hs⟩ := hrel
        have HS := hid hs
        clear hs HS0 c5
        have hlow := HS.out.low
        have hfl := HF.out.slen
        by_cases hlt : k < r.set.length
        · have hd : decide ((k : Int) < (r.set.length : Int)) = true := by simp; omega
          obtain ⟨b, off, x, hx, rfl, hb, c1⟩ := (HI.out.set.below HS.out.bel).cell hlt
          have HX := hid hx
          clear hx
          go_wp2_with fail
          refine (layNum_own w.heap.size u3 _ _ wr HS.out.own hlow (by have h1 := NB_take_bd r.set k (by omega); have h2 : (NB (six r)).length = 48 := (by rw [NB_length]; rfl); rw [List.length_append]; omega)).mono ?_
          rintro e w1 ⟨v1, rfl, ho1, hg1⟩
          have HS1 := hid (HS.out.step ho1 hg1)
          clear ho1 hg1 HS
          go_wp2
          go_roundw
          case rel => exact ⟨k + 1, by omega, by go_num, by rw [NB_step HX.out, ← List.append_assoc]; exact HS1.out⟩
          case measure => simp [intOf]; omega
        · obtain rfl : k = r.set.length := by omega
          have hd : decide ((r.set.length : Int) < (r.set.length : Int)) = false := by simp
          have HS0 := hid (show LSt w #[.int .i64 r.kind, .int .i64 r.part, .int .i64 r.split, .int .i64 r.attempt, .int .i64 r.reason, .slice so r.set.length sc, .slice po r.prs.length pc] u3 (NB (six r) ++ NB r.set) wr by have := HS.out; rwa [List.take_length] at this)
          clear HS
          have c6 : wr.cell? ⟨w.heap.size, 6, none⟩ = some (.slice po r.prs.length pc) := HS0.out.cell 6
          have hfb := hid (show (NB (six r) ++ NB r.set).length ≤ 1000 by rw [List.length_append, NB_length, NB_length]; simp [six]; omega)
          go_wp2_with fail
          refine (layNum_own w.heap.size u3 _ _ wr HS0.out.own hlow (by have := hfb.out; omega)).mono ?_
          rintro e w1 ⟨v1, rfl, ho1, hg1⟩
          have HS1 := hid (HS0.out.step ho1 hg1)
          clear ho1 hg1 HS0 c6 hlow
          obtain ⟨pre, hpre⟩ : ∃ pre, NB (six r) ++ NB r.set ++ be8 (r.prs.length : Int) = pre := ⟨_, rfl⟩
          have HPL := hid (show pre.length ≤ 1008 by rw [← hpre, List.length_append, be8_length]; have := hfb.out; omega)
          rw [hpre] at HS1
          have HPRE := hid hpre
          clear hpre hfb
          have c6 : w1.cell? ⟨w.heap.size, 6, none⟩ = some (.slice po r.prs.length pc) := HS1.out.cell 6
          go_wp2
          go_loopw [3, 50] (fun v i wr => ∃ k : Nat, k ≤ r.prs.length ∧ i = .int .i64 k ∧ LSt w #[.int .i64 r.kind, .int .i64 r.part, .int .i64 r.split, .int .i64 r.attempt, .int .i64 r.reason, .slice so r.set.length sc, .slice po r.prs.length pc] v (pre ++ PB (r.prs.take k)) wr) (fun _ i _ => r.prs.length - (intOf i).toNat)
          case atStart => exact ⟨0, by omega, rfl, by rw [List.take_zero, show PB [] = [] from rfl, List.append_nil]; exact HS1.out⟩
          case round =>
            obtain ⟨k, hk, rfl, hs⟩ := hrel
            have HS := hid hs
            clear hs HS1 c6
            have hlow := HS.out.low
            by_cases hlt : k < r.prs.length
            · have hd : decide ((k : Int) < (r.prs.length : Int)) = true := by simp; omega
              obtain ⟨b, off, x, hx, rfl, hb, c1, c2⟩ := Prs.cell? (HI.out.prs.below HS.out.bel) hlt
              have HX := hid hx
              clear hx
              obtain ⟨s, t⟩ := x
              simp only at c1 c2
              have hsz := hid (show s.size ≤ 16 ∧ t.size ≤ 64 from HF.out.prs _ (List.mem_of_getElem? HX.out))
              have hbd := hid (PB_take_bd r.prs k HF.out.prs HF.out.plen)
              have HS2 := hid (HS.out.on (alloc_one wr (.cells #[.string s, .string t] 57)))
              have HQ := hid (new_block wr (.cells #[.string s, .string t] 57))
              have hp0 : (wr.alloc (.cells #[.string s, .string t] 57)).cell? ⟨wr.heap.size, 0, none⟩ = some (.string s) := cell_of_cells HQ.out
              have hp1 : (wr.alloc (.cells #[.string s, .string t] 57)).cell? ⟨wr.heap.size, 1, none⟩ = some (.string t) := cell_of_cells HQ.out
              clear HS
              go_wp2
              go_region_held3 (fun w' => w'.cell? ⟨wr.heap.size, 0, none⟩ = some (.string s) ∧ w'.cell? ⟨wr.heap.size, 1, none⟩ = some (.string t)) (first | exact ⟨cell_of_cells HQ2.out, cell_of_cells HQ2.out⟩ | exact ⟨cell_of_cells HQ1.out, cell_of_cells HQ1.out⟩ | exact ⟨hp0, hp1⟩ | go_keep)
                (first | (go_at_call 41; refine (layText_own w.heap.size u3 (pre ++ PB (r.prs.take k)) s _ ?_ ?_ ?_ ?_).mono ?_; (exact HS2.out.own.heap rfl); (exact Nat.le_trans hlow (by simp)); (have := HPL.out; have := hbd.out; rw [List.length_append]; omega); (have := hsz.out; omega); rintro e w2 ⟨v2, rfl, ho2, hg2⟩; have HS3 := hid (HS2.out.hop hg2 ho2 ⟨rfl, rfl, rfl, rfl⟩); have HQ1 := hid (at_hop hg2 HS2.out.own HQ.out (by decide) rfl); clear ho2 hg2) | (go_at_call 41; refine (layText_own w.heap.size v2 (pre ++ PB (r.prs.take k) ++ txt s) t _ ?_ ?_ ?_ ?_).mono ?_; (exact HS3.out.own.heap rfl); (exact HS3.out.low); (have := HPL.out; have := hbd.out; have := hsz.out; rw [List.length_append, List.length_append, txt_length]; omega); (have := hsz.out; omega); rintro e w3 ⟨v3, rfl, ho3, hg3⟩; have HS4 := hid (HS3.out.hop hg3 ho3 ⟨rfl, rfl, rfl, rfl⟩); have HQ2 := hid (at_hop hg3 HS3.out.own HQ1.out (by decide) rfl); clear ho3 hg3))
              go_wp2
              go_roundw
              case rel => exact ⟨k + 1, by omega, by go_num, by have h := HS4.out; rw [PB_step HX.out, ← List.append_assoc, ← List.append_assoc]; exact h⟩
              case measure => simp [intOf]; omega
            · have hd : decide ((k : Int) < (r.prs.length : Int)) = false := by simp; omega
              have HS0 := hid (show LSt w #[.int .i64 r.kind, .int .i64 r.part, .int .i64 r.split, .int .i64 r.attempt, .int .i64 r.reason, .slice so r.set.length sc, .slice po r.prs.length pc] u3 (bodyR r) wr by
                have h := HS.out
                rw [List.take_of_length_le (by omega)] at h
                rw [body_six, HPRE.out]
                exact h)
              have hbd := body_bd HF.out
              clear HS HPL HPRE
              obtain ⟨ao, c, hu⟩ := HS0.out.own.form
              subst hu
              obtain ⟨n, hn⟩ : ∃ n, (bodyR r).length = n := ⟨_, rfl⟩
              have HN := hid hn
              rw [hn] at HS0 hbd ⊢
              clear hn
              go_wp2_with fail
              refine (num_nil n wr).mono ?_
              rintro e w1 ⟨g, c1, rfl, ho1, hb1⟩
              have HS1 := hid (HS0.out.on hb1)
              have HBS := hid (HS1.out.own.bs)
              obtain ⟨hnone, hnews⟩ : (ao = none → n = 0 ∧ c = 0) ∧ (∀ ad, ao = some ad → ∀ j u, (cel (bodyR r))[j]? = some u → w1.cell? (ad.add j) = some u) := by
                have h := HBS.out
                refine ⟨fun e => ?_, h.news (Below.refl _ _)⟩
                obtain ⟨ao', cap', hv, h1, h2, h3, h4⟩ := h
                cases hv
                have := h3 e
                exact ⟨by rw [← HN.out, this.1]; rfl, this.2⟩
              have hsz := hb1.size
              have ho1' : w1.ownsRow wr.heap.size 5 1 (.slice (some ⟨g, 0, none⟩) 8 c1) 8 (cel (be8 n)) := ho1
              have hcl : (cel (bodyR r)).length = n * 1 := by rw [cel_length, HN.out]; omega
              have hb8 : (8 + n) * 1 ≤ 140737488355328 := by omega
              have hb9 : 8 + n ≤ maxLen := by unfold maxLen; omega
              clear hb1 HS0
              go_wp2_with (at_builtin; refine wpList_append_own_any _ rfl _ _ 25 rfl wr.heap.size 5 i0 (.int .u8 0) 1 1 Try.underlying25 hi hz0 hz1 hz2 rfl (by decide) _ 8 (cel (be8 n)) rfl ho1' ao n c (cel (bodyR r)) rfl hcl hnone hnews (cel_oneCell _) hb9 hb8 hsz ?_; intro v2 w2 ho2 hg2)
              go_ret
              have ho3 : OB wr.heap.size v2 (layR r) w2 := by
                unfold OB layR
                rw [List.length_append, be8_length, cel_append, HN.out]
                exact ho2
              exact ⟨v2, rfl, ho3.low hlow, ho1.grown hg2 HS1.out.bel HS1.out.low hlow⟩
end Go.Proofs.Ytpkobobandcclaa
