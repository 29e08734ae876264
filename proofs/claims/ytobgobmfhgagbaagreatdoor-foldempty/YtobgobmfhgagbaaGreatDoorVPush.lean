/- push of the program's machine. -/
import Derived.Test.YtobgobmfhgagbaaGreatDoorVMac
namespace Go.Proofs.YtobgobmfhgagbaaGreatDoor
open Go.RowKit Go.Lib
set_option linter.unusedVariables false
set_option maxRecDepth 100000

variable {E : Fx} {vs vt : Value} {m : St} {i : Int} {d : Nat} {w : World}
theorem push_big {s out : List Val} {x : Val} (hx : x ∈ out) (hb : x.big = true) : push m s out = .stop 4 := by
  unfold push
  rw [if_pos (List.any_eq_true.2 ⟨x, hx, hb⟩)]
theorem none_big {out : List Val} (h : ∀ x ∈ out, x.big = false) : ¬ out.any Val.big = true := by
  intro e
  obtain ⟨x, hx, hb⟩ := List.any_eq_true.1 e
  rw [h x hx] at hb
  cases hb
theorem take_more {out : List Val} {k : Nat} (hk : k < out.length) (h : ∀ x ∈ out.take k, x.big = false) (h1 : out[k].big = false) : ∀ x ∈ out.take (k + 1), x.big = false := by
  intro x hx
  rw [List.take_succ_eq_append_getElem hk, List.mem_append] at hx
  rcases hx with hx | hx
  · exact h x hx
  · rw [List.mem_singleton.1 hx]
    exact h1
set_option maxHeartbeats 2000000 in
theorem push_any (h : VMac E m i d w) (hs : m.stack.length ≤ 16) {v : Value} {out : List Val} (hv : Vls w v out) (ho : out.length ≤ 100) (hn : out ≠ []) :
    Calls Tryz.prog 72 #[.pointer (some ⟨E.b, 0, none⟩), v] w (Did E i d (push m m.stack out)) := by
  obtain ⟨vs, vt, h⟩ := h
  obtain ⟨i0, hi, hz0, hz1, hz2⟩ := info_parts Tryz.infoV
  have HV := hid hv
  obtain ⟨g, off, cap, rfl, h2, hlt, hc⟩ := hv.lie hn
  have H := hid h
  have HC := hid hc
  obtain ⟨vs0, vs2, rfl⟩ := own_slice h.st
  clear h hc hv
  go_enter Tryz.func72, Tryz.ntmps72
  go_wp2
  go_loopw [9] (fun j wr => ∃ k : Nat, k ≤ out.length ∧ j = .int .i64 k ∧ Below w.heap.size w wr ∧ ∀ x ∈ out.take k, x.big = false) (fun j _ => out.length - (Go.RowKit.intOf j).toNat)
  case atStart => exact ⟨0, by omega, rfl, Below.refl _ _, by simp⟩
  case round =>
    obtain ⟨k, hk, rfl, hbel, hb⟩ := hrel
    have HB := hid hb
    have HW := hid hbel
    clear hb hbel
    by_cases hkl : k < out.length
    · have hd4 : decide ((k : Int) < (out.length : Int)) = true := by simp; omega
      have hx : ∀ q u, (encV out[k])[q]? = some u → wr.cell? ⟨g, off + k * 3 + q, none⟩ = some u := fun q u hu => (HW.out.cell (p := ⟨g, off + k * 3 + q, none⟩) hlt).trans (HC.out k _ (List.getElem?_eq_getElem hkl) q u hu)
      have HM := hid (take_more hkl HB.out)
      have HX := hid (fun hb => push_big (m := m) (s := m.stack) (List.getElem_mem hkl) hb)
      generalize out[k] = x at hx HM HX
      cases x with
      | num a =>
        have c0 := hx 0 _ rfl
        have c1 := hx 1 _ rfl
        have c2 := hx 2 _ rfl
        simp only [Nat.add_zero] at c0
        clear hx
        have HK := hid (below_then HW.out (alloc1 wr (.cells #[.bool false, .int .i64 a, .string ⟨#[]⟩] 81)) HW.out.size)
        go_wp2
        go_roundw
        case rel => exact ⟨k + 1, by omega, by go_num, HK.out, HM.out rfl⟩
        case measure => simp [Go.RowKit.intOf]; omega
      | text s =>
        have c0 := hx 0 _ rfl
        have c1 := hx 1 _ rfl
        have c2 := hx 2 _ rfl
        simp only [Nat.add_zero] at c0
        clear hx
        have HK := hid (below_then HW.out (alloc1 wr (.cells #[.bool true, .int .i64 0, .string s] 81)) HW.out.size)
        by_cases hbig : 64 < s.size
        · have hd5 : decide ((64 : Int) < (s.size : Int)) = true := by simp; omega
          go_wp2
          go_ret
          rw [HX.out (by simp [Val.big]; omega)]
          exact ⟨rfl, _, _, _, _, H.out.on HK.out⟩
        · have hd5 : decide ((64 : Int) < (s.size : Int)) = false := by simp; omega
          go_wp2
          go_roundw
          case rel => exact ⟨k + 1, by omega, by go_num, HK.out, HM.out (by simp [Val.big]; omega)⟩
          case measure => simp [Go.RowKit.intOf]; omega
    · have hd4 : decide ((k : Int) < (out.length : Int)) = false := by simp; omega
      obtain rfl : k = out.length := by omega
      rw [List.take_of_length_le (Nat.le_refl _)] at HB
      have HN := hid (none_big HB.out)
      have H3 := hid (H.out.on HW.out)
      have c4 := H3.out.cS
      have f4 := H3.out.free 4
      by_cases hfull : 16 < m.stack.length + out.length
      · have hd6 : decide ((16 : Int) < (m.stack.length : Int) + (out.length : Int)) = true := by simp; omega
        go_wp2
        go_ret
        have e : push m m.stack out = .stop 1 := by unfold push; rw [if_neg HN.out, if_pos hfull]
        rw [e]
        exact ⟨rfl, _, _, _, _, H3.out⟩
      · have hd6 : decide ((16 : Int) < (m.stack.length : Int) + (out.length : Int)) = false := by simp; omega
        have HP := hid (show push m m.stack out = .next { m with stack := out.reverse ++ m.stack } by unfold push; rw [if_neg HN.out, if_neg hfull])
        go_wp2_with (at_builtin; refine wpList_append_own_any _ rfl _ _ 79 rfl E.w0.heap.size 81 i0 _ 3 32 Tryz.underlying79 hi hz0 hz1 hz2 rfl (by decide) _ m.stack.length (fl encV m.stack.reverse) rfl H3.out.st (some ⟨g, off, none⟩) out.length cap (fl encV out) rfl (fl_length encV_len _) (by intro e; cases e) (Reads.news encV_len (by decide) HV.out HW.out) (fl_one encV_one _) (by unfold maxLen; omega) (by omega) (H3.out.bel.size) ?_; intro v1 w1 ho1 hg1; (have HO := hid ho1); (have HG := hid hg1); (obtain ⟨ao1, cc1, rfl⟩ := own_slice ho1); (have d4 : w1.cell? ⟨E.b, 4, none⟩ = some (.slice vs0 m.stack.length vs2) := (World.cell?_of_block (w := wr) (H3.out.heldS hg1)).trans c4); (have e4 := H3.out.freeAt (H3.out.heldS hg1) 4); clear ho1 hg1 c4 f4)
        go_ret
        rw [HP.out]
        refine ⟨rfl, _, _, H3.out.pushed (l := out.reverse ++ m.stack) ?_ HG.out⟩
        have e1 : (out.reverse ++ m.stack).length = m.stack.length + out.length := by simp; omega
        have e2 : fl encV (out.reverse ++ m.stack).reverse = fl encV m.stack.reverse ++ fl encV out := by rw [List.reverse_append, List.reverse_reverse, fl_append]
        rw [e1, e2]
        exact HO.out
end Go.Proofs.YtobgobmfhgagbaaGreatDoor
