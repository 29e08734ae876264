/- Laid together: MpOps MpCnt MpPsh MpPush2. -/
import Derived.Test.YtfimoobgbodbmaaGreatDoorGMpB
import Derived.Test.YtfimoobgbodbmaaGreatDoorGWn
import Derived.Test.YtfimoobgbodbmaaGreatDoorGC
import Derived.Test.YtfimoobgbodbmaaGreatDoorGJob
import Derived.Laws.AppendOwn
/-! package mapper: Reason, Counts, Chunk, Ack, Done. -/
namespace Go.Proofs.YtfimoobgbodbmaaGreatDoor
open Go.RowKit Go.Lib
set_option linter.unusedVariables false
set_option maxRecDepth 100000

theorem Tryz.infoIntM : (Tryz.prog.info? 3).map (fun i => (i.zero, i.size, i.bytes)) = some (some (.int .i64 0), 1, 8) := by kernel_rfl
section
variable {W : World} {A : AtV} {b : Nat} {ws : List WinV} {Z : List SX} {v : Value} {I : Nat → Prop}
/-- What Reason answers, whatever asking for the output does. -/
theorem reason_of {w : World} {r : Int} (X : World → Prop) (HO : Calls Tryz.prog 44 #[pt b] w fun e w' => e = .returned (ptO b) ∧ X w' ∧ w'.cell? ⟨b, 14, none⟩ = some (.int .i64 r)) :
    Calls Tryz.prog 14 #[pt b] w fun e w' => e = .returned (.int .i64 r) ∧ X w' := by
  have H := hid HO
  clear HO
  go_enter Tryz.func14, Tryz.ntmps14
  go_wp2_with fail
  refine H.out.mono ?_
  rintro e w1 ⟨rfl, hx, hc⟩
  have HX := hid hx
  clear hx
  go_wp2
  go_ret
  exact ⟨rfl, HX.out⟩
theorem reason_done (w : World) (h : Md W A b ws Z v I w) : Calls Tryz.prog 14 #[pt b] w fun e w' => e = .returned (.int .i64 A.R.2) ∧ Below w.heap.size w w' :=
  reason_of (fun w' => Below w.heap.size w w') ((output_done w h).mono fun e w' he => ⟨he.1, he.2, cell_of_cells (h.below he.2).obj⟩)
theorem reason_first {c : CfgV} {k : Nat} {a : Int} {s : SlJ} (w : World) (HBs : Base W c k a) (h : Fr W c k a b s 0 I w) :
    Calls Tryz.prog 14 #[pt b] w fun e w' => e = .returned (.int .i64 (attV c k a).R.2) ∧ MadeM W (attV c k a) b (attV c k a).ws0 I w w' :=
  reason_of (fun w' => MadeM W (attV c k a) b (attV c k a).ws0 I w w') ((output_first w HBs h).mono fun e w' he => ⟨he.1, he.2, by obtain ⟨Z, v, hm, _⟩ := he.2; exact cell_of_cells hm.obj⟩)
theorem outHas_any (p : Int) (w : World) (h : Md W A b ws Z v I w) : Calls Tryz.prog 52 #[ptO b, .int .i64 p] w fun e w' => e = .returned (.bool (decide (0 ≤ p) && decide (p < (Z.length : Int)))) ∧ w = w' := by
  obtain ⟨ao, c, rfl⟩ := owns_slice h.sts.row
  have c15 : w.cell? ⟨b, 15, none⟩ = some (.slice ao Z.length c) := cell_of_cells h.obj
  clear h
  by_cases hp : 0 ≤ p
  · have d1 : decide (0 ≤ p) = true := by simpa using hp
    rw [d1, Bool.true_and]
    clear hp
    go_enter Tryz.func52, Tryz.ntmps52
    go_wp2
    go_ret
    exact ⟨rfl, rfl⟩
  · have d1 : decide (0 ≤ p) = false := by simpa using hp
    rw [d1, Bool.false_and]
    clear hp
    go_enter Tryz.func52, Tryz.ntmps52
    go_wp2
    go_ret
    exact ⟨rfl, rfl⟩
theorem streamCount_any (ao : Option Addr) (n c : Nat) (size : Int) (u : Value) (hn : n ≤ 40) (s1 : 1 ≤ size) (s8 : size ≤ 8) (w : World) :
    Calls Tryz.prog 45 #[.agg #[.slice ao n c, .int .i64 size, u]] w fun e w' => e = .returned (.int .i64 (chunksI n size)) ∧ Below w.heap.size w w' := by
  have HB := hid (alloc_one w (.cells #[.slice ao n c, .int .i64 size, u] 98))
  go_enter Tryz.func45, Tryz.ntmps45
  go_wp2_with fail
  refine (cut_Chunks_any n size (by omega) (by omega) (by omega) (by omega) _).mono ?_
  rintro e w2 ⟨rfl, rfl⟩
  go_wp2
  go_ret
  exact ⟨rfl, HB.out⟩
theorem streamChunk_any (ao : Option Addr) (c : Nat) (l : List KV) (size q : Int) (u : Value) (hn : l.length ≤ 40) (s1 : 1 ≤ size) (s8 : size ≤ 8) (w : World) (hv : Prs w (.slice ao l.length c) l) :
    Calls Tryz.prog 47 #[.agg #[.slice ao l.length c, .int .i64 size, u], .int .i64 q] w (PairsNew w (chunkL l size q)) := by
  have HB := hid (alloc_one w (.cells #[.slice ao l.length c, .int .i64 size, u] 98))
  have HV := hid (hv.below HB.out)
  clear hv
  go_enter Tryz.func47, Tryz.ntmps47
  go_wp2_with fail
  refine (chunk_any _ l size q (by omega) (by omega) _ HV.out (by omega)).mono ?_
  rintro e w2 ⟨x, rfl, ho, hb⟩
  have HO := hid (owns_mono (base' := w.heap.size) ho (by simp))
  have HB2 := hid (below_then HB.out hb HB.out.size)
  clear ho hb
  go_wp2
  go_ret
  exact ⟨_, rfl, HO.out, HB2.out⟩
end
end Go.Proofs.YtfimoobgbodbmaaGreatDoor
/-! package mapper: Counts, Chunk, Ack, Done. -/
namespace Go.Proofs.YtfimoobgbodbmaaGreatDoor
open Go.RowKit Go.Lib
set_option linter.unusedVariables false
set_option maxRecDepth 100000

section
variable {W : World} {A : AtV} {b : Nat} {ws : List WinV} {Z : List SX} {v : Value} {I : Nat → Prop}
theorem ict_takeM {l : List Int} {k : Nat} {x : Int} (h : l[k]? = some x) : ict (l.take (k + 1)) = ict (l.take k) ++ [.int .i64 x] := by
  rw [List.take_add_one, h]
  simp [ict]
/-- A world in which the output was asked for, and is made. -/
def AskedM (W : World) (A : AtV) (b : Nat) (ws : List WinV) (Q : List SX → Value → (Nat → Prop) → World → Prop) (e : Ending) (w1 : World) : Prop :=
  e = .returned (ptO b) ∧ ∃ Z v I1, Md W A b ws Z v I1 w1 ∧ Q Z v I1 w1
/-- What Counts answers. -/
def CountsM (W : World) (A : AtV) (b : Nat) (ws : List WinV) (Q : List SX → Value → (Nat → Prop) → World → Prop) (e : Ending) (w' : World) : Prop :=
  ∃ w1 Z v I1 ao c, Q Z v I1 w1 ∧ Md W A b ws Z v I1 w1 ∧ Below w1.heap.size w1 w' ∧ e = .returned (.slice ao A.num c) ∧ w'.ownsRow w1.heap.size 3 1 (.slice ao A.num c) A.num (ict A.counts)
set_option maxHeartbeats 8000000 in
theorem counts_of (w : World) (hA : AtOk A) (Q : List SX → Value → (Nat → Prop) → World → Prop) (HO : Calls Tryz.prog 44 #[pt b] w (AskedM W A b ws Q)) :
    Calls Tryz.prog 12 #[pt b] w (CountsM W A b ws Q) := by
  obtain ⟨i0, hi, hz0, hz1, hz2⟩ := info_parts Tryz.infoIntM
  have H := hid HO
  have HOK := hid hA
  clear HO hA
  go_enter Tryz.func12, Tryz.ntmps12
  go_wp2_with fail
  refine H.out.mono ?_
  rintro e w1 ⟨rfl, Z, v, I1, hm, hq⟩
  obtain ⟨ao, c, rfl⟩ := owns_slice hm.sts.row
  have c15 : w1.cell? ⟨b, 15, none⟩ = some (.slice ao Z.length c) := cell_of_cells hm.obj
  have HM := hid hm
  have HQ := hid hq
  clear hm hq H
  go_wp2
  go_loopw [3, 14] (fun u i wr => ∃ k : Nat, i = .int .i64 k ∧ k ≤ Z.length ∧ wr.ownsRow w1.heap.size 3 1 u k (ict (A.counts.take k)) ∧ Below w1.heap.size w1 wr) (fun _ i _ => Z.length - (intOf i).toNat)
  case atStart => exact ⟨0, rfl, Nat.zero_le _, World.ownsRow_nil _ _ _ _, Below.refl _ _⟩
  case round =>
    obtain ⟨k, rfl, hk, ho, hb⟩ := hrel
    have hzn : Z.length = A.num := HM.out.sts.len.trans HM.out.ok.len
    by_cases hlt : k < Z.length
    · have d1 : decide ((k : Int) < (Z.length : Int)) = true := by simp; omega
      obtain ⟨g, off, z, x, xo, xc, hz, hx, hu, rfl, hg, g0, g1, g2⟩ := (HM.out.below hb).sts.cells hlt
      have hk0 : (0 : Int) ≤ (k : Int) := by omega
      have hkn : (k : Int) < (Z.length : Int) := by omega
      have HO := hid ho
      have HB := hid hb
      have hl40 := HOK.out.list_le k
      have hs1 := HOK.out.s1
      have hs8 := HOK.out.s8
      have hn4 := HOK.out.num_le
      have hz4 : Z.length ≤ 4 := by omega
      have HZN := hid hzn
      clear ho hb hz hx hu hzn
      go_wp2_with fail
      refine (streamCount_any xo (A.list k).length xc A.size _ hl40 hs1 hs8 _).mono ?_
      rintro e w3 ⟨rfl, hb3⟩
      have HB3 := hid (below_then (alloc_one wr (.cells #[.slice xo (A.list k).length xc, .int .i64 A.size, pt z.b] 98)) hb3 (alloc_one wr _).size)
      have HB4 := hid (below_then HB3.out (alloc_one w3 (.cells #[.int .i64 (A.cnt k)] 3)) HB3.out.size)
      have HO4 := hid (owns_below HO.out HB4.out)
      have hcn : chunksI ((A.list k).length : Nat) A.size = A.cnt k := rfl
      rw [hcn]
      have hsz4 : w1.heap.size ≤ (w3.alloc (.cells #[.int .i64 (A.cnt k)] 3)).heap.size := Nat.le_trans HB.out.size HB4.out.size
      clear hb3 hcn
      go_wp2_with (at_builtin; refine wpList_append_own _ rfl _ _ 24 rfl w1.heap.size 3 i0 (.int .i64 0) 1 8 Tryz.underlying24 hi hz0 hz1 hz2 rfl (by decide) u3 k _ rfl HO4.out ⟨w3.heap.size, 0, none⟩ 1 1 [.int .i64 (A.cnt k)] rfl rfl (list_new w3 [.int .i64 (A.cnt k)] 3) (by intro u hu; simp at hu; subst hu; rfl) (by have := HZN.out; unfold maxLen; omega) (by have := HZN.out; omega) hsz4 ?_; intro v5 w5 ho5 hg5 _)
      have HO5 := hid (show w5.ownsRow w1.heap.size 3 1 v5 (k + 1) (ict (A.counts.take (k + 1))) by
        rw [ict_takeM (counts_at (by rw [← HZN.out]; exact hlt))]
        exact ho5)
      have HB5 := hid ((below_then HB.out HB4.out HB.out.size).grown hg5 hsz4 (fun q hq => (HO4.out.lt q hq).1))
      clear ho5 hg5 HO4 HB4 HB3 HO HB
      go_wp2
      go_roundw
      case rel => exact ⟨k + 1, by go_num, by omega, HO5.out, HB5.out⟩
      case measure => simp [intOf]; omega
    · have d1 : decide ((k : Int) < (Z.length : Int)) = false := by simp; omega
      have he : k = A.num := by omega
      have ho2 : wr.ownsRow w1.heap.size 3 1 u3 A.num (ict A.counts) := by
        have := ho
        rw [he, List.take_of_length_le (by rw [counts_len]; exact Nat.le_refl _)] at this
        exact this
      obtain ⟨a3, c3, rfl⟩ := own_slice ho2
      have HO := hid ho2
      have HB := hid hb
      clear ho ho2 hb he hzn
      go_wp2
      go_ret
      exact ⟨w1, Z, _, I1, a3, c3, HQ.out, HM.out, HB.out, rfl, HO.out⟩
theorem counts_done (w : World) (hA : AtOk A) (h : Md W A b ws Z v I w) : Calls Tryz.prog 12 #[pt b] w fun e w' => ∃ ao c, e = .returned (.slice ao A.num c) ∧ w'.ownsRow w.heap.size 3 1 (.slice ao A.num c) A.num (ict A.counts) ∧ Below w.heap.size w w' :=
  (counts_of w hA (fun _ _ _ w1 => Below w.heap.size w w1) ((output_done w h).mono fun e w' he => ⟨he.1, Z, v, I, h.below he.2, he.2⟩)).mono fun e w' ⟨w1, _, _, _, ao, c, hq, _, hb, he, ho⟩ => ⟨ao, c, he, owns_mono ho hq.size, below_then hq hb hq.size⟩
/-- What Counts answers when it is asked first. -/
theorem counts_first {c : CfgV} {k : Nat} {a : Int} {s : SlJ} (w : World) (HBs : Base W c k a) (h : Fr W c k a b s 0 I w) :
    Calls Tryz.prog 12 #[pt b] w (CountsM W (attV c k a) b (attV c k a).ws0 (fun _ _ I1 w1 => I1 = Grow I w w1 ∧ Sav (Just b) w w1)) :=
  counts_of w HBs.at _ ((output_first w HBs h).mono fun e w' ⟨he, Z, v, hm, hs⟩ => ⟨he, Z, v, _, hm, rfl, hs⟩)
set_option maxHeartbeats 4000000 in
/-- A part's chunk; none, where there is none. -/
theorem mpChunk_any (w : World) (hA : AtOk A) (h : Md W A b ws Z v I w) (p q : Int) :
    Calls Tryz.prog 23 #[pt b, .int .i64 p, .int .i64 q] w (PairsNew w (if 0 ≤ p ∧ p < A.num then chunkL (A.list p.toNat) A.size q else [])) := by
  have HM := hid h
  have HOK := hid hA
  have hnot : ∀ (x : Bool) (w : World), (Op.unary .not (.bool x)).run Tryz.prog w = .ok (.bool (!x)) w := fun _ _ => rfl
  have hzn : Z.length = A.num := h.sts.len.trans h.ok.len
  have HZN := hid hzn
  obtain ⟨ao, c, hv⟩ := owns_slice h.sts.row
  subst hv
  clear h hA hzn
  by_cases hp : 0 ≤ p ∧ p < (Z.length : Int)
  · obtain ⟨n, rfl⟩ : ∃ n : Nat, p = n := ⟨p.toNat, by omega⟩
    have hlt : n < Z.length := by omega
    have HR := hid (show (if 0 ≤ (n : Int) ∧ (n : Int) < A.num then chunkL (A.list (n : Int).toNat) A.size q else []) = chunkL (A.list n) A.size q from by
      rw [if_pos ⟨by omega, by rw [← HZN.out]; exact hp.2⟩]
      rfl)
    rw [HR.out]
    have dp : (decide (0 ≤ (n : Int)) && decide ((n : Int) < (Z.length : Int))) = true := by simp; omega
    have hn0 : (0 : Int) ≤ (n : Int) := by omega
    have hnn : (n : Int) < (Z.length : Int) := by omega
    have hl40 := HOK.out.list_le n
    have hs1 := HOK.out.s1
    have hs8 := HOK.out.s8
    clear hp HR
    go_enter Tryz.func23, Tryz.ntmps23
    go_wp2_with fail
    refine (output_done w HM.out).mono ?_
    rintro e w1 ⟨rfl, hb1⟩
    have HB1 := hid hb1
    clear hb1
    go_wp2_with fail
    refine (outHas_any _ w1 (HM.out.below HB1.out)).mono ?_
    rintro e w2 ⟨rfl, rfl⟩
    rw [dp]
    go_wp2_with fail
    refine (output_done w1 (HM.out.below HB1.out)).mono ?_
    rintro e w2 ⟨rfl, hb2⟩
    have HB2 := hid (below_then HB1.out hb2 HB1.out.size)
    have c15 : w2.cell? ⟨b, 15, none⟩ = some (.slice ao Z.length c) := cell_of_cells (HM.out.below HB2.out).obj
    obtain ⟨g, off, z, x, xo, xc, hz, hx, hu, rfl, hg, g0, g1, g2⟩ := (HM.out.below HB2.out).sts.cells hlt
    have HP := hid (show Prs w2 (.slice xo (A.list n).length xc) (A.list n) from by
      have := (HM.out.below HB2.out).sts.prs n z hz
      rw [hu] at this
      exact Reads.own encP_len (by decide) this)
    clear hz hx hu hb2 HB1
    go_wp2_with fail
    refine (streamChunk_any xo xc (A.list n) A.size q _ hl40 hs1 hs8 w2 HP.out).mono ?_
    rintro e w3 ⟨u, rfl, ho, hb⟩
    have HO := hid (owns_mono ho HB2.out.size)
    have HB3 := hid (below_then HB2.out hb HB2.out.size)
    clear ho hb
    go_wp2
    go_ret
    exact ⟨u, rfl, HO.out, HB3.out⟩
  · have dp : (decide (0 ≤ p) && decide (p < (Z.length : Int))) = false := by
      rw [← Bool.decide_and]
      simpa using hp
    have HR := hid (show (if 0 ≤ p ∧ p < (A.num : Int) then chunkL (A.list p.toNat) A.size q else []) = [] from if_neg (by rw [← HZN.out]; exact hp))
    rw [HR.out]
    clear hp HR
    go_enter Tryz.func23, Tryz.ntmps23
    go_wp2_with fail
    refine (output_done w HM.out).mono ?_
    rintro e w1 ⟨rfl, hb1⟩
    have HB1 := hid hb1
    clear hb1
    go_wp2_with fail
    refine (outHas_any _ w1 (HM.out.below HB1.out)).mono ?_
    rintro e w2 ⟨rfl, rfl⟩
    rw [dp]
    go_wp2
    go_ret
    exact ⟨_, rfl, World.ownsRow_nil _ _ _ _, HB1.out⟩
set_option maxHeartbeats 4000000 in
/-- An ack: which part's window it turns, and what is answered. -/
theorem mpAck_any (w : World) (hA : AtOk A) (h : Md W A b ws Z v I w) (p e n : Int) :
    Calls Tryz.prog 27 #[pt b, .int .i64 p, .int .i64 e, .int .i64 n] w fun r w' => ∃ x : Bool, r = .returned (.bool x) ∧ Md W A b (ackWs ws p e n) Z v I w' ∧ (∀ (q : Nat) y, p = q → ws[q]? = some y → x = ackB y e n) ∧ (¬ (0 ≤ p ∧ p < A.num) → x = false) ∧ Sav (fun g => ∃ z ∈ Z, z.b = g) w w' := by
  have HM := hid h
  have HOK := hid hA
  have hnot : ∀ (x : Bool) (w : World), (Op.unary .not (.bool x)).run Tryz.prog w = .ok (.bool (!x)) w := fun _ _ => rfl
  have hzn : Z.length = A.num := h.sts.len.trans h.ok.len
  have HZN := hid hzn
  have HWN := hid h.ok.len
  obtain ⟨ao, c, hv⟩ := owns_slice h.sts.row
  subst hv
  clear h hA hzn
  by_cases hp : 0 ≤ p ∧ p < (Z.length : Int)
  · obtain ⟨k, rfl⟩ : ∃ n : Nat, p = n := ⟨p.toNat, by omega⟩
    have hlt : k < Z.length := by omega
    have dp : (decide (0 ≤ (k : Int)) && decide ((k : Int) < (Z.length : Int))) = true := by simp; omega
    have hn0 : (0 : Int) ≤ (k : Int) := by omega
    have hnn : (k : Int) < (Z.length : Int) := by omega
    clear hp
    go_enter Tryz.func27, Tryz.ntmps27
    go_wp2_with fail
    refine (output_done w HM.out).mono ?_
    rintro e1 w1 ⟨rfl, hb1⟩
    have HB1 := hid hb1
    clear hb1
    go_wp2_with fail
    refine (outHas_any _ w1 (HM.out.below HB1.out)).mono ?_
    rintro e1 w2 ⟨rfl, rfl⟩
    rw [dp]
    go_wp2_with fail
    refine (output_done w1 (HM.out.below HB1.out)).mono ?_
    rintro e1 w2 ⟨rfl, hb2⟩
    have HB2 := hid (below_then HB1.out hb2 HB1.out.size)
    have HM2 := hid (HM.out.below HB2.out)
    have c15 : w2.cell? ⟨b, 15, none⟩ = some (.slice ao Z.length c) := cell_of_cells HM2.out.obj
    obtain ⟨g, off, z, x, xo, xc, hz, hx, hu, rfl, hg, g0, g1, g2⟩ := HM2.out.sts.cells hlt
    have HZ := hid hz
    have HX := hid hx
    clear hz hx hu hb2 HB1
    go_wp2_with fail
    refine (ack_any z.b x e n w2 (HM2.out.sts.win k z x HZ.out HX.out) (HM2.out.ok.at_ok HX.out)).mono ?_
    rintro r w3 ⟨rfl, hw3, hs3⟩
    have HS3 := hid hs3
    have HM3 := hid (HM2.out.turn HZ.out HX.out e n hw3 hs3)
    clear hw3 hs3
    go_wp2
    go_ret
    have hws : ackWs ws k e n = ws.set k (ackW x e n) := by
      unfold ackWs
      rw [if_pos ⟨by omega, by rw [HWN.out, ← HZN.out]; exact hnn⟩]
      show ws.modify k _ = _
      apply List.ext_getElem?
      intro i
      rw [List.getElem?_modify]
      by_cases hi : k = i
      · subst hi
        rw [List.getElem?_set_self (List.getElem?_eq_some_iff.1 HX.out).1, HX.out]
        simp
      · rw [List.getElem?_set_ne hi]
        simp [hi]
    refine ⟨_, rfl, by rw [hws]; exact HM3.out, fun q y hq hy => ?_, fun hn => absurd ⟨by omega, by rw [← HZN.out]; exact hnn⟩ hn, (Sav.of_below HB2.out).trans (HS3.out.mono fun g _ hg => ⟨z, List.mem_of_getElem? HZ.out, (show g = z.b from hg).symm⟩)⟩
    have : q = k := by omega
    subst this
    rw [HX.out] at hy
    cases hy
    rfl
  · have dp : (decide (0 ≤ p) && decide (p < (Z.length : Int))) = false := by
      rw [← Bool.decide_and]
      simpa using hp
    have HNP := hid hp
    clear hp
    go_enter Tryz.func27, Tryz.ntmps27
    go_wp2_with fail
    refine (output_done w HM.out).mono ?_
    rintro e1 w1 ⟨rfl, hb1⟩
    have HB1 := hid hb1
    clear hb1
    go_wp2_with fail
    refine (outHas_any _ w1 (HM.out.below HB1.out)).mono ?_
    rintro e1 w2 ⟨rfl, rfl⟩
    rw [dp]
    go_wp2
    go_ret
    have hws : ackWs ws p e n = ws := by
      unfold ackWs
      rw [if_neg (by rw [HWN.out, ← HZN.out]; exact HNP.out)]
    refine ⟨_, rfl, by rw [hws]; exact HM.out.below HB1.out, fun q y hq hy => ?_, fun _ => rfl, Sav.of_below HB1.out⟩
    have h1 := (List.getElem?_eq_some_iff.1 hy).1
    rw [HWN.out, ← HZN.out] at h1
    exact absurd ⟨by omega, by omega⟩ HNP.out
end
end Go.Proofs.YtfimoobgbodbmaaGreatDoor
/-! package mapper: Done, Push. -/
namespace Go.Proofs.YtfimoobgbodbmaaGreatDoor
open Go.RowKit Go.Lib
set_option linter.unusedVariables false
set_option maxRecDepth 100000

theorem Tryz.infoMsg : (Tryz.prog.info? 53).map (fun i => (i.zero, i.size, i.bytes)) = some (some (.agg #[.int .i64 0, .int .i64 0, .int .i64 0, .int .i64 0, .int .i64 0, .int .i64 0, .int .i64 0, .int .i64 0, .slice none 0 0, .slice none 0 0]), 10, 112) := by kernel_rfl
/-- A push: of which part, which chunk, and where its pairs lie. -/
structure MX where
  p : Nat
  s : Int
  u : Value
def encX (A : AtV) (m : MX) : List Value := [.int .i64 2, .int .i64 A.split, .int .i64 A.att, .int .i64 m.p, .int .i64 m.s, .int .i64 0, .int .i64 0, .int .i64 0, .slice none 0 0, m.u]
theorem encX_len (A : AtV) : ∀ m, (encX A m).length = 10 := fun _ => rfl
def MX.chunk (A : AtV) (m : MX) : List KV := chunkL (A.list m.p) A.size m.s
/-- A row of pushes that is owned from B on. -/
structure PsRow (B : Nat) (A : AtV) (ms : List MX) (u : Value) (w : World) : Prop where
  row : w.ownsRow B 53 10 u ms.length (fl (encX A) ms)
  own : ∀ m ∈ ms, w.ownsRow B 105 2 m.u (m.chunk A).length (fl encP (m.chunk A))
theorem PsRow.nil (B : Nat) (A : AtV) (w : World) : PsRow B A [] (.slice none 0 0) w := ⟨World.ownsRow_nil _ _ _ _, fun m hm => by simp at hm⟩
theorem PsRow.below {B : Nat} {A : AtV} {ms : List MX} {u : Value} {w w' : World} (h : PsRow B A ms u w) (hb : Below w.heap.size w w') : PsRow B A ms u w' := ⟨owns_below h.row hb, fun m hm => owns_below (h.own m hm) hb⟩
theorem PsRow.sav {B : Nat} {A : AtV} {ms : List MX} {u : Value} {w w' : World} {S : Nat → Prop} (h : PsRow B A ms u w) (hs : Sav S w w') (hn : ∀ g, B ≤ g → ¬ S g) : PsRow B A ms u w' :=
  ⟨owns_sav h.row hs fun g hg => hn g (h.row.lt g hg).1, fun m hm => owns_sav (h.own m hm) hs fun g hg => hn g ((h.own m hm).lt g hg).1⟩
theorem PsRow.low {B C : Nat} {A : AtV} {ms : List MX} {u : Value} {w : World} (h : PsRow B A ms u w) (hc : C ≤ B) : PsRow C A ms u w := ⟨owns_mono h.row hc, fun m hm => owns_mono (h.own m hm) hc⟩
theorem PsRow.push {B : Nat} {A : AtV} {ms : List MX} {m : MX} {u u' : Value} {w w' : World} (h : PsRow B A ms u w) (hm : w.ownsRow B 105 2 m.u (m.chunk A).length (fl encP (m.chunk A))) (ho : w'.ownsRow B 53 10 u' (ms.length + 1) (fl (encX A) ms ++ encX A m)) (hg : w.grownBy w' u.ownBlock) : PsRow B A (ms ++ [m]) u' w' := by
  refine ⟨?_, fun x hx => ?_⟩
  · rw [List.length_append, fl_append]
    simpa [fl] using ho
  · rcases List.mem_append.1 hx with hx | hx
    · exact owns_grown (h.own x hx) h.row (by decide) hg
    · simp at hx
      subst hx
      exact owns_grown hm h.row (by decide) hg
section
variable {W : World} {A : AtV} {b : Nat} {ws : List WinV} {Z : List SX} {v : Value} {I : Nat → Prop}
set_option maxHeartbeats 4000000 in
theorem mpDone_any (w : World) (hA : AtOk A) (h : Md W A b ws Z v I w) :
    Calls Tryz.prog 19 #[pt b] w fun e w' => e = .returned (.bool (doneA ws)) ∧ Below w.heap.size w w' := by
  have HOK := hid hA
  have hnot : ∀ (x : Bool) (w : World), (Op.unary .not (.bool x)).run Tryz.prog w = .ok (.bool (!x)) w := fun _ _ => rfl
  have hzn : Z.length = A.num := h.sts.len.trans h.ok.len
  have hwl : Z.length = ws.length := h.sts.len
  have hz4 : Z.length ≤ 4 := by have := hA.num_le; omega
  have HWL := hid hwl
  obtain ⟨ao, c, hv⟩ := owns_slice h.sts.row
  subst hv
  have HM := hid h
  clear h hA hzn hwl
  go_enter Tryz.func19, Tryz.ntmps19
  go_wp2_with fail
  refine (output_done w HM.out).mono ?_
  rintro e w1 ⟨rfl, hb1⟩
  have c15 : w1.cell? ⟨b, 15, none⟩ = some (.slice ao Z.length c) := cell_of_cells (HM.out.below hb1).obj
  have HB1 := hid hb1
  clear hb1
  go_wp2
  go_loopw [2, 13] (fun _ i wr => ∃ k : Nat, i = .int .i64 k ∧ k ≤ Z.length ∧ (∀ x ∈ ws.take k, doneW x = true) ∧ Below w.heap.size w wr) (fun _ i _ => Z.length - (intOf i).toNat)
  case atStart => exact ⟨0, rfl, Nat.zero_le _, (by simp), HB1.out⟩
  case round =>
    obtain ⟨k, rfl, hk, hd, hb⟩ := hrel
    have HD := hid hd
    have HB := hid hb
    clear hd hb
    by_cases hlt : k < Z.length
    · have d1 : decide ((k : Int) < (Z.length : Int)) = true := by simp; omega
      obtain ⟨g, off, z, x, xo, xc, hz, hx, hu, rfl, hg, g0, g1, g2⟩ := (HM.out.below HB.out).sts.cells hlt
      have hk0 : (0 : Int) ≤ (k : Int) := by omega
      have hkn : (k : Int) < (Z.length : Int) := by omega
      have HZ := hid hz
      have HX := hid hx
      have HB2 := hid (below_then HB.out (alloc_one wr (.cells #[.slice xo (A.list k).length xc, .int .i64 A.size, pt z.b] 98)) HB.out.size)
      clear hz hx hu
      go_wp2_with fail
      refine (done_any z.b x _ ((HM.out.below HB2.out).sts.win k z x HZ.out HX.out) (HM.out.ok.at_ok HX.out)).mono ?_
      rintro e w3 ⟨rfl, t, rfl⟩
      have HB3 := hid (below_then HB2.out (below_drew _ t) HB2.out.size)
      obtain ⟨dn, hdn⟩ : ∃ dn, doneW x = dn := ⟨_, rfl⟩
      have HDN := hid hdn
      rw [hdn]
      clear hdn
      cases dn
      · go_wp2
        go_ret
        have hR : doneA ws = false := by
          unfold doneA
          rw [List.all_eq_false]
          exact ⟨x, List.mem_of_getElem? HX.out, by rw [HDN.out]; simp⟩
        exact ⟨by rw [hR]; rfl, HB3.out⟩
      · go_wp2
        go_roundw
        case rel => exact ⟨k + 1, by go_num, by omega, (fun y hy => by
          rw [List.take_add_one, HX.out] at hy
          rcases List.mem_append.1 hy with hy | hy
          · exact HD.out y hy
          · simp at hy
            rw [hy]
            exact HDN.out), HB3.out⟩
        case measure => simp [intOf]; omega
    · have d1 : decide ((k : Int) < (Z.length : Int)) = false := by simp; omega
      have HR := hid (show doneA ws = true by
        unfold doneA
        rw [List.all_eq_true]
        intro x hx
        refine HD.out x ?_
        rw [List.take_of_length_le (by rw [← HWL.out]; omega)]
        exact hx)
      go_wp2
      go_ret
      exact ⟨by rw [HR.out]; rfl, HB.out⟩
end
end Go.Proofs.YtfimoobgbodbmaaGreatDoor
/-! package mapper: Push. -/
namespace Go.Proofs.YtfimoobgbodbmaaGreatDoor
open Go.RowKit Go.Lib
set_option linter.unusedVariables false
set_option maxRecDepth 100000

/-- Of part p the chunks s, ... -/
def asks (ms : List MX) : List (Nat × Int) := ms.map fun m => (m.p, m.s)
section
variable {W : World} {A : AtV} {b : Nat} {ws : List WinV} {Z : List SX} {v : Value} {I : Nat → Prop}
/-- What Push answers. -/
def PushIs (A : AtV) (ws : List WinV) (w : World) (e : Ending) (w' : World) : Prop :=
  ∃ ao c ms, e = .returned (.slice ao ms.length c) ∧ asks ms = pushFrom 0 ws ∧ PsRow w.heap.size A ms (.slice ao ms.length c) w' ∧ Below w.heap.size w w'
set_option maxHeartbeats 16000000 in
theorem mpPush_any (w : World) (hA : AtOk A) (h : Md W A b ws Z v I w) :
    Calls Tryz.prog 13 #[pt b] w (PushIs A ws w) := by
  obtain ⟨i0, hi, hz0, hz1, hz2⟩ := info_parts Tryz.infoMsg
  have HOK := hid hA
  have hzn : Z.length = A.num := h.sts.len.trans h.ok.len
  have hwl : Z.length = ws.length := h.sts.len
  have hz4 : Z.length ≤ 4 := by have := hA.num_le; omega
  have HWL := hid hwl
  obtain ⟨ao, c, hv⟩ := owns_slice h.sts.row
  subst hv
  have HM := hid h
  clear h hA hzn hwl
  go_enter Tryz.func13, Tryz.ntmps13
  go_wp2_with fail
  refine (output_done w HM.out).mono ?_
  rintro e w1 ⟨rfl, hb1⟩
  have c15 : w1.cell? ⟨b, 15, none⟩ = some (.slice ao Z.length c) := cell_of_cells (HM.out.below hb1).obj
  have HB1 := hid hb1
  clear hb1
  go_wp2
  go_loopw [3, 16] (fun u i wr => ∃ (k : Nat) (ms : List MX), i = .int .i64 k ∧ k ≤ Z.length ∧ asks ms = pushFrom 0 (ws.take k) ∧ PsRow w.heap.size A ms u wr ∧ Below w.heap.size w wr) (fun _ i _ => Z.length - (intOf i).toNat)
  case atStart => exact ⟨0, [], rfl, Nat.zero_le _, rfl, PsRow.nil _ _ _, HB1.out⟩
  case round =>
    obtain ⟨k, ms, rfl, hk, hms, hps, hb⟩ := hrel
    by_cases hlt : k < Z.length
    · have d1 : decide ((k : Int) < (Z.length : Int)) = true := by simp; omega
      obtain ⟨g, off, z, x, xo, xc, hz, hx, hu, rfl, hg, g0, g1, g2⟩ := (HM.out.below hb).sts.cells hlt
      have hk0 : (0 : Int) ≤ (k : Int) := by omega
      have hkn : (k : Int) < (Z.length : Int) := by omega
      have HZ := hid hz
      have HX := hid hx
      have HU := hid hu
      have HMS := hid hms
      have HB2 := hid (below_then hb (alloc_one wr (.cells #[.slice xo (A.list k).length xc, .int .i64 A.size, pt z.b] 98)) hb.size)
      have HPS := hid (hps.below (alloc_one wr (.cells #[.slice xo (A.list k).length xc, .int .i64 A.size, pt z.b] 98)))
      have HN := hid (new_block wr (.cells #[.slice xo (A.list k).length xc, .int .i64 A.size, pt z.b] 98))
      have HSB := hid (show w.heap.size ≤ wr.heap.size from hb.size)
      clear hz hx hu hms hps hb
      go_wp2_with fail
      refine (open_any z.b x _ ((HM.out.below HB2.out).sts.win k z x HZ.out HX.out) (HM.out.ok.at_ok HX.out)).mono ?_
      rintro e w3 ⟨ao3, c3, rfl, ho3, hb3⟩
      have HO3 := hid (owns_mono ho3 HB2.out.size)
      have HN3 := hid ((hb3.block _ (lt_of_block HN.out)).trans HN.out)
      have HPS3 := hid (HPS.out.below hb3)
      have HB3 := hid (below_then HB2.out hb3 HB2.out.size)
      have hon := openN_le (HM.out.ok.at_ok HX.out)
      obtain ⟨N, hN⟩ : ∃ N, openN x = N := ⟨_, rfl⟩
      have HNN := hid hN
      rw [hN] at HO3 hon
      rw [hN]
      clear ho3 hb3 HN HPS HB2 hN
      generalize wr.heap.size = q at *
      go_wp2
      go_loopw [3, 25] (fun u i wq => ∃ (j : Nat) (ms2 : List MX), i = .int .i64 j ∧ j ≤ N ∧ asks ms2 = pushFrom 0 (ws.take k) ++ ((openW x).take j).map (fun s => (k, s)) ∧ PsRow w.heap.size A ms2 u wq ∧ wq.heap[q]? = some (.cells #[.slice xo (A.list k).length xc, .int .i64 A.size, pt z.b] 98 (0, 0)) ∧ wq.ownsRow w.heap.size 3 1 (.slice ao3 N c3) N (ict (openW x)) ∧ Below w.heap.size w wq) (fun _ i _ => N - (intOf i).toNat)
      case atStart => exact ⟨0, ms, rfl, Nat.zero_le _, by simpa using HMS.out, HPS3.out, HN3.out, HO3.out, HB3.out⟩
      case round =>
        clear HMS HPS3 HN3 HO3 HB3
        obtain ⟨j, ms2, rfl, hj, hms2, hps2, hn2, ho2, hb2⟩ := hrel
        by_cases hlj : j < N
        · have d2 : decide ((j : Int) < (N : Int)) = true := by simp; omega
          have hj0 : (0 : Int) ≤ (j : Int) := by omega
          have hjn : (j : Int) < (N : Int) := by omega
          obtain ⟨ob, oo, s, hos, rfl, hob, oc⟩ := (Is.owned ho2).cell (j := j) (by rw [openW_len, HNN.out]; exact hlj)
          have hbd := below_drew wr 1
          have HM4 := hid (show Md W A b ws Z (.slice (some ⟨g, off, none⟩) Z.length c) I wr.drew from (HM.out.below hb2).below hbd)
          have HPS4 := hid (show PsRow w.heap.size A ms2 u3 wr.drew from hps2.below hbd)
          have HN4 := hid (show wr.drew.heap[q]? = some (.cells #[.slice xo (A.list k).length xc, .int .i64 A.size, pt z.b] 98 (0, 0)) from hn2)
          have HO4 := hid (show wr.drew.ownsRow w.heap.size 3 1 (.slice (some ⟨ob, oo, none⟩) N c3) N (ict (openW x)) from owns_below ho2 hbd)
          have HB4 := hid (show Below w.heap.size w wr.drew from below_then hb2 hbd hb2.size)
          have HP4 := hid (show Prs wr.drew (.slice xo (A.list k).length xc) (A.list k) from by
            have := HM4.out.sts.prs k z HZ.out
            rw [HU.out] at this
            exact Reads.own encP_len (by decide) this)
          have k0 : wr.drew.cell? ⟨b, 0, none⟩ = some (.int .i64 A.split) := cell_of_cells HM4.out.obj
          have k1 : wr.drew.cell? ⟨b, 1, none⟩ = some (.int .i64 A.att) := cell_of_cells HM4.out.obj
          have s0 : wr.drew.cell? ⟨q, 0, none⟩ = some (.slice xo (A.list k).length xc) := cell_of_cells HN4.out
          have s1 : wr.drew.cell? ⟨q, 1, none⟩ = some (.int .i64 A.size) := cell_of_cells HN4.out
          have s2 : wr.drew.cell? ⟨q, 2, none⟩ = some (pt z.b) := cell_of_cells HN4.out
          have HOS := hid hos
          have HMS2 := hid hms2
          have hl40 := HOK.out.list_le k
          have hz1' := HOK.out.s1
          have hz8' := HOK.out.s8
          have hlen : ms2.length ≤ 16 := by
            have h1 : (asks ms2).length = ms2.length := by simp [asks]
            rw [HMS2.out, List.length_append, List.length_map, List.length_take] at h1
            have h2 := push_len 0 (ws := ws.take k) (fun y hy => HM.out.ok.ok y (List.mem_of_mem_take hy))
            rw [List.length_take] at h2
            omega
          have HJ := hid hj
          clear hos hms2 hps2 hn2 ho2 hb2 hbd hj
          go_wp2_with fail
          go_region_held3 (fun w' => w'.cell? ⟨b, 0, none⟩ = some (.int .i64 A.split) ∧ w'.cell? ⟨b, 1, none⟩ = some (.int .i64 A.att) ∧ w'.cell? ⟨q, 0, none⟩ = some (.slice xo (A.list k).length xc) ∧ w'.cell? ⟨q, 1, none⟩ = some (.int .i64 A.size) ∧ w'.cell? ⟨q, 2, none⟩ = some (pt z.b)) (first | exact ⟨y0, y1, y2, y3, y4⟩ | exact ⟨x0, x1, x2, x3, x4⟩ | exact ⟨k0, k1, s0, s1, s2⟩ | go_keep)
            (first
              | (go_at_call 47; refine (streamChunk_any xo xc (A.list k) A.size s _ hl40 hz1' hz8' _ HP4.out).mono ?_; rintro e w4 ⟨u4, rfl, ho4, hb4⟩; (obtain ⟨a4, k4, rfl⟩ := own_slice ho4); have hM5 := HM4.out.below hb4; have hN5 := (hb4.block _ (lt_of_block HN4.out)).trans HN4.out; have x0 : w4.cell? ⟨b, 0, none⟩ = some (.int .i64 A.split) := cell_of_cells hM5.obj; have x1 : w4.cell? ⟨b, 1, none⟩ = some (.int .i64 A.att) := cell_of_cells hM5.obj; have x2 : w4.cell? ⟨q, 0, none⟩ = some (.slice xo (A.list k).length xc) := cell_of_cells hN5; have x3 : w4.cell? ⟨q, 1, none⟩ = some (.int .i64 A.size) := cell_of_cells hN5; have x4 : w4.cell? ⟨q, 2, none⟩ = some (pt z.b) := cell_of_cells hN5; have hbU := below_then hb4 (alloc_one w4 (.cells #[.int .i64 2, .int .i64 A.split, .int .i64 A.att, .int .i64 k, .int .i64 s, .int .i64 0, .int .i64 0, .int .i64 0, .slice none 0 0, .slice a4 (chunkL (A.list k) A.size s).length k4] 53)) hb4.size; have HPS6 := hid (HPS4.out.below hbU); have HB_6 := hid ((hbU.block _ (lt_of_block HM4.out.obj)).trans HM4.out.obj); have HN6 := hid ((hbU.block _ (lt_of_block HN4.out)).trans HN4.out); have HO6 := hid (owns_below HO4.out hbU); have HB6 := hid (below_then HB4.out hbU HB4.out.size); have HC6 := hid (owns_below (owns_mono ho4 HB4.out.size) (alloc_one w4 (.cells #[.int .i64 2, .int .i64 A.split, .int .i64 A.att, .int .i64 k, .int .i64 s, .int .i64 0, .int .i64 0, .int .i64 0, .slice none 0 0, .slice a4 (chunkL (A.list k) A.size s).length k4] 53))); clear ho4 hb4 hM5 hN5 hbU)
              | (refine step_append_own rfl (.tmp 29) (.tmp 44) 41 rfl w.heap.size 53 i0 _ 10 112 Tryz.underlying41 hi hz0 hz1 hz2 rfl (by decide) u3 ms2.length _ (by simp [Act.eval]) HPS6.out.row ⟨w4.heap.size, 0, none⟩ 1 1 [.int .i64 2, .int .i64 A.split, .int .i64 A.att, .int .i64 k, .int .i64 s, .int .i64 0, .int .i64 0, .int .i64 0, .slice none 0 0, .slice a4 (chunkL (A.list k) A.size s).length k4] (by simp [Act.eval]) rfl (new_cells w4 #[.int .i64 2, .int .i64 A.split, .int .i64 A.att, .int .i64 k, .int .i64 s, .int .i64 0, .int .i64 0, .int .i64 0, .slice none 0 0, .slice a4 (chunkL (A.list k) A.size s).length k4] 53) (by intro u hu; simp only [List.mem_cons, List.not_mem_nil, or_false] at hu; rcases hu with rfl | rfl | rfl | rfl | rfl | rfl | rfl | rfl | rfl | rfl <;> rfl) (by unfold maxLen; omega) (by omega) HB6.out.size ?_; intro v6 w6 ho6 hg6; have HO7 := hid ho6; have HG7 := hid hg6; have hN7 := grown_at HPS6.out.row hg6 HN6.out (by decide); have hM7 := grown_at HPS6.out.row hg6 HB_6.out (by decide); have y0 : w6.cell? ⟨b, 0, none⟩ = some (.int .i64 A.split) := cell_of_cells hM7; have y1 : w6.cell? ⟨b, 1, none⟩ = some (.int .i64 A.att) := cell_of_cells hM7; have y2 : w6.cell? ⟨q, 0, none⟩ = some (.slice xo (A.list k).length xc) := cell_of_cells hN7; have y3 : w6.cell? ⟨q, 1, none⟩ = some (.int .i64 A.size) := cell_of_cells hN7; have y4 : w6.cell? ⟨q, 2, none⟩ = some (pt z.b) := cell_of_cells hN7; have HN7 := hid hN7; clear ho6 hg6 hN7 hM7))
          have HPS8 := hid (HPS6.out.push (m := ⟨k, s, .slice a4 (chunkL (A.list k) A.size s).length k4⟩) HC6.out HO7.out HG7.out)
          have HO8 := hid (owns_grown HO6.out HPS6.out.row (by decide) HG7.out)
          have HB8 := hid (HB6.out.grown HG7.out HB6.out.size (fun r hr => (HPS6.out.row.lt r hr).1))
          have HMS8 := hid (show asks (ms2 ++ [⟨k, s, .slice a4 (chunkL (A.list k) A.size s).length k4⟩]) = pushFrom 0 (ws.take k) ++ ((openW x).take (j + 1)).map (fun s => (k, s)) by
            unfold asks at HMS2 ⊢
            rw [List.map_append, HMS2.out, List.take_add_one, HOS.out, List.append_assoc, List.map_append]
            rfl)
          clear k0 k1 s0 s1 s2 x0 x1 x2 x3 x4 y0 y1 y2 y3 y4 HM4 HPS4 HN4 HO4 HB4 HP4 HPS6 HB_6 HN6 HO6 HB6 HC6 HO7 HG7 HMS2 HOS
          go_wp2
          go_roundw
          case rel => exact ⟨j + 1, _, by go_num, by omega, HMS8.out, HPS8.out, HN7.out, HO8.out, HB8.out⟩
          case measure => simp [intOf]; omega
        · have hje : j = N := by omega
          have d2 : decide ((j : Int) < (N : Int)) = false := by simp; omega
          have HMS9 := hid (show asks ms2 = pushFrom 0 (ws.take (k + 1)) by
            rw [push_take (p0 := 0) HX.out, hms2, hje, ← HNN.out, show (openW x).take (openN x) = openW x from List.take_of_length_le (by rw [openW_len]; exact Nat.le_refl _), Nat.zero_add])
          have HPS9 := hid hps2
          have HB9 := hid hb2
          clear hms2 hps2 hb2 hn2 ho2 hje
          go_wp2
          go_roundw
          case rel => exact ⟨k + 1, ms2, by go_num, by omega, HMS9.out, HPS9.out, HB9.out⟩
          case measure => simp [intOf]; omega
    · have d1 : decide ((k : Int) < (Z.length : Int)) = false := by simp; omega
      have hms3 : asks ms = pushFrom 0 ws := by
        rw [hms, List.take_of_length_le (by rw [← HWL.out]; omega)]
      obtain ⟨a9, c9, rfl⟩ := own_slice hps.row
      have HMS := hid hms3
      have HPS := hid hps
      have HB := hid hb
      clear hms hms3 hps hb
      go_wp2
      go_ret
      exact ⟨a9, c9, ms, rfl, HMS.out, HPS.out, HB.out⟩
end
end Go.Proofs.YtfimoobgbodbmaaGreatDoor
