/- What awake does: it answers true, and turns nothing that was there. -/
import Derived.Test.YtbgfdohgllbabaaSame
namespace Go.Proofs.Ytbgfdohgllbabaa
open Go.RowKit
set_option linter.unusedVariables false

theorem below_drewN {B : Nat} {a w : World} (h : Below B a w) (n : Nat) : Below B a (w.drewN n) := h.trans ⟨rfl, rfl, rfl, Nat.le_refl _, fun _ _ => rfl⟩

/-- string(v), v a slice that reads as l. -/
theorem Bs.string {w : World} {v : Value} {l : List Int} (h : Bs w v l) : Sem.run Try.prog (convert 22 9 v) w = .ok (.string (strOfNums l)) w := by
  obtain ⟨ao, ca, rfl, a1, a2, a3, a4⟩ := h
  by_cases hl : l = []
  · subst hl
    cases ao with
    | none => exact run_convert_bytes_nil (P := Try.prog) w 22 5 Try.underlying22 Try.underlying5 _ _ 9 Try.underlying9
    | some a =>
      have hcv := run_bytesToString (P := Try.prog) w a 0 ca [] (by simpa using run_loadCells_list (P := Try.prog) w a [] (fun j v hj => by simp at hj))
      rw [run_convert_bytes_string (P := Try.prog) w 22 9 5 _ _ ca Try.underlying22 Try.underlying5 Try.underlying9]
      exact hcv
  · obtain ⟨p, po, rfl, hp, hpc⟩ := a4 hl
    exact run_convert_bytes_arg (P := Try.prog) w 22 5 Try.underlying22 Try.underlying5 p po l.length ca _ rfl hpc 9 Try.underlying9

/-- A text's bytes. -/
def nums (s : ByteArray) : List Int := s.data.toList.map fun b => (b.toNat : Int)
theorem nums_length (s : ByteArray) : (nums s).length = s.size := by unfold nums; rw [List.length_map, Array.length_toList]; rfl
theorem str_cel (s : ByteArray) : Lib.strCells s = cel (nums s) := by
  simp [Lib.strCells, cel, nums]
theorem Byt.nums (s : ByteArray) : Byt (nums s) := fun x hx => by
  unfold Ytbgfdohgllbabaa.nums at hx
  obtain ⟨b, _, rfl⟩ := List.mem_map.1 hx
  have := b.toNat_lt
  omega
theorem str_back (s : ByteArray) : strOfNums (nums s) = s := by
  have e : (nums s).map (fun n => UInt8.ofNat n.toNat) = s.data.toList := by
    unfold nums
    rw [List.map_map]
    conv => rhs; rw [← List.map_id s.data.toList]
    apply List.map_congr_left
    intro b _
    simp
  unfold strOfNums
  rw [e]

/-- code.Text, told by lists. -/
theorem text_own (v : Value) (s : ByteArray) (l : List Int) (w : World) (hv : Bs w v l) (hr : l.length + (8 + s.size) ≤ 281474976710656) :
    Calls Try.prog 11 #[v, .string s] w fun e w' => e = .returned (.slice (some ⟨w.heap.size, 0, none⟩) (l.length + 8 + s.size) (l.length + (8 + s.size))) ∧ w'.ownsRow w.heap.size 5 1 (.slice (some ⟨w.heap.size, 0, none⟩) (l.length + 8 + s.size) (l.length + (8 + s.size))) (l.length + 8 + s.size) (cel (l ++ be8 s.size ++ nums s)) ∧ Below w.heap.size w w' := by
  refine (text_any v s l w hv hr).mono ?_
  rintro e w1 ⟨rfl, ho, hb⟩
  rw [str_cel, ← cel_append] at ho
  exact ⟨rfl, ho, hb⟩

theorem be8_2 : be8 2 = [0, 0, 0, 0, 0, 0, 0, 2] := by decide +kernel
theorem be8_258 : be8 258 = [0, 0, 0, 0, 0, 0, 1, 2] := by decide +kernel
theorem num8_2 : num8 [0, 0, 0, 0, 0, 0, 0, 2] = ((2 : Nat) : Int) := by decide +kernel
theorem nums_ab : nums ⟨#[97, 98]⟩ = [97, 98] := by decide +kernel

theorem byt_ab : Byt [0, 0, 0, 0, 0, 0, 0, 2, 97, 98] := by
  intro x hx
  simp at hx
  omega
theorem str_ab : strOfNums [97, 98] = ⟨#[97, 98]⟩ := by rw [← nums_ab, str_back]
set_option maxHeartbeats 400000 in
theorem awake_any (w : World) : Calls Try.prog 8 #[] w fun e w' => e = .returned (.bool true) ∧ Below w.heap.size w w' := by
  go_enter Try.func8, Try.ntmps8
  go_wp2_with fail
  refine (text_own _ ⟨#[97, 98]⟩ [] w (Bs.nil w) (by decide)).mono ?_
  rintro e w1 ⟨rfl, ho1, hb1⟩
  have hs : (⟨#[97, 98]⟩ : ByteArray).size = 2 := rfl
  rw [nums_ab, hs] at ho1
  have ho1' : w1.ownsRow w.heap.size 5 1 (.slice (some ⟨w.heap.size, 0, none⟩) 10 10) 10 (cel [0, 0, 0, 0, 0, 0, 0, 2, 97, 98]) := by
    have e : ([] ++ be8 ((2 : Nat) : Int) ++ [97, 98]) = [0, 0, 0, 0, 0, 0, 0, 2, 97, 98] := by decide +kernel
    rw [e] at ho1; exact ho1
  have H1 : Hid (Bs w1 (.slice (some ⟨w.heap.size, 0, none⟩) 10 10) [0, 0, 0, 0, 0, 0, 0, 2, 97, 98]) := Bs.own ho1'
  clear ho1 ho1' hs
  go_wp2_with fail
  refine (readtext_yes _ [0, 0, 0, 0, 0, 0, 0, 2, 97, 98] 0 2 w1 H1.out byt_ab (by decide) num8_2).mono ?_
  rintro e w2 ⟨rfl, rfl⟩
  go_wp2_with fail
  refine (num_any _ 258 [] w1 (Bs.nil _) (by decide)).mono ?_
  rintro e w2 ⟨rfl, ho2, hb2⟩
  have ho3 : w2.ownsRow w1.heap.size 5 1 (.slice (some ⟨w1.heap.size, 0, none⟩) 8 8) 8 (cel [0, 0, 0, 0, 0, 0, 1, 2]) := by
    rw [List.nil_append, be8_258] at ho2; exact ho2
  have H2 : Hid (Bs w2 (.slice (some ⟨w1.heap.size, 0, none⟩) 8 8) [0, 0, 0, 0, 0, 0, 1, 2]) := Bs.own ho3
  clear ho2 ho3 H1
  have hb12 := hb1.trans (hb2.mono hb1.size)
  have hz := hb12.size
  clear hb1 hb2
  go_wp2_with fail
  have ho4 := World.ownsRow_lit (base := w2.heap.size) (e := 5) (size := 1) w2 (cel [0, 0, 0, 0, 0, 0, 1, 2]).toArray 8 (Nat.le_refl _) (by decide) (by decide)
  have hb3 : Below w2.heap.size w2 (w2.alloc (.cells (cel [0, 0, 0, 0, 0, 0, 1, 2]).toArray 5)) := (Below.refl _ _).alloc (Nat.le_refl _) _
  refine (same_any _ _ [0, 0, 0, 0, 0, 0, 1, 2] [0, 0, 0, 0, 0, 0, 1, 2] _ (H2.out.below hb3) (Bs.own ho4)).mono ?_
  rintro e w3 ⟨rfl, n3, rfl⟩
  rw [str_ab, decide_eq_true rfl]
  have hb4 := below_drewN (hb12.trans (hb3.mono hz)) n3
  clear ho4 hb3 hb12
  go_wp2
  go_ret
  exact ⟨rfl, hb4⟩
end Go.Proofs.Ytbgfdohgllbabaa
