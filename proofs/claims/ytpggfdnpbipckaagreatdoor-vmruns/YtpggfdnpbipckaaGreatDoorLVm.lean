/- What the statements of chapter 6 ask of vm.Run and vm.Steps, as one premise; and that their own first look passes. -/
import Derived.Test.YtpggfdnpbipckaaGreatDoorLGreat
import Derived.Test.YtpggfdnpbipckaaGreatDoorRLoops
import Derived.Test.YtpggfdnpbipckaaGreatDoorPMade
namespace Go.Proofs.YtpggfdnpbipckaaGreatDoor
open Go.RowKit Go.Lib
set_option linter.unusedVariables false
set_option maxRecDepth 100000

/-- What is handed to a run: numbers of 64 bits, no more than any machine holds. -/
structure Fits (l : List Inst) (key : ByteArray) (vals : List ByteArray) : Prop where
  nums : ∀ x ∈ l, I64 x.2.1
  len : l.length ≤ 100
  key : key.size ≤ maxLen
  few : vals.length ≤ 100
  vals : ∀ v ∈ vals, v.size ≤ maxLen
/-- vm.Run and vm.Steps are the machine's, in every world of which Inv holds. -/
structure VmOk (Inv : World → Prop) : Prop where
  stays : ∀ w w', Below w.heap.size w w' → Inv w → Inv w'
  tells : ∀ (w : World) (v u : Value) (l : List Inst) (key : ByteArray) (vals : List ByteArray) (f : Int), Inv w → Co w v l → Txs w u vals → Fits l key vals → I64 f →
    Calls Tryz.prog 13 #[v, .string key, u, .int .i64 f] w fun e w' => ∃ x, e = .returned (.tuple #[x, .int .i64 (run l key vals f).2.1]) ∧ w'.ownsRow w.heap.size 41 2 x (run l key vals f).1.length (fl encP (run l key vals f).1) ∧ Below w.heap.size w w'
  counts : ∀ (w : World) (v u : Value) (l : List Inst) (key : ByteArray) (vals : List ByteArray) (f : Int), Inv w → Co w v l → Txs w u vals → Fits l key vals → I64 f →
    Calls Tryz.prog 16 #[v, .string key, u, .int .i64 f] w fun e w' => e = .returned (.int .i64 ((run l key vals f).2.2 : Int)) ∧ Below w.heap.size w w'
/-- A run whose end is known. -/
theorem VmOk.runs {Inv : World → Prop} (V : VmOk Inv) {w : World} {v u : Value} {l : List Inst} {key : ByteArray} {vals : List ByteArray} {f : Int} {ps : List Pr} {r : Int} {d : Nat} (hw : Inv w) (hv : Co w v l) (hu : Txs w u vals) (hF : Fits l key vals) (hf : I64 f) (h : run l key vals f = (ps, r, d)) :
    Calls Tryz.prog 13 #[v, .string key, u, .int .i64 f] w fun e w' => ∃ x, e = .returned (.tuple #[x, .int .i64 r]) ∧ w'.ownsRow w.heap.size 41 2 x ps.length (fl encP ps) ∧ Below w.heap.size w w' := by
  have := V.tells w v u l key vals f hw hv hu hF hf
  rw [h] at this
  exact this
theorem VmOk.does {Inv : World → Prop} (V : VmOk Inv) {w : World} {v u : Value} {l : List Inst} {key : ByteArray} {vals : List ByteArray} {f : Int} {ps : List Pr} {r : Int} {d : Nat} (hw : Inv w) (hv : Co w v l) (hu : Txs w u vals) (hF : Fits l key vals) (hf : I64 f) (h : run l key vals f = (ps, r, d)) :
    Calls Tryz.prog 16 #[v, .string key, u, .int .i64 f] w fun e w' => e = .returned (.int .i64 (d : Int)) ∧ Below w.heap.size w w' := by
  have := V.counts w v u l key vals f hw hv hu hF hf
  rw [h] at this
  exact this

theorem first_calls (w : World) : Calls Tryz.prog 25 #[] w fun e w' => e = .returned (.slice (some ⟨w.heap.size, 0, none⟩) 4 4) ∧ w' = w.alloc (.cells (icl firstP).toArray 43) := by
  go_enter Tryz.func25, Tryz.ntmps25
  go_wp2
  go_ret
  exact ⟨rfl, rfl⟩
theorem own_prs {w : World} {base n : Nat} {x : Value} {ps : List Pr} (h : w.ownsRow base 41 2 x n (fl encP ps)) : Prs w x ps := Reads.own encP_len (by decide) h

abbrev kB : ByteArray := ⟨#[107]⟩
abbrev aB : ByteArray := ⟨#[97]⟩
abbrev bB : ByteArray := ⟨#[98]⟩
theorem small_len {s : ByteArray} (h : s.size ≤ 100) : s.size ≤ maxLen := by unfold maxLen; omega
theorem fits_first : Fits firstP kB [aB, bB] := ⟨by intro x hx; simp only [firstP, List.mem_cons, List.mem_nil_iff, or_false] at hx; rcases hx with rfl | rfl | rfl | rfl <;> exact i64_small (by simp) (by simp), by simp [firstP], small_len (by decide), by simp, by intro v hv; simp at hv; rcases hv with rfl | rfl <;> exact small_len (by decide)⟩
theorem fits_loop : Fits [(19, 0, e0)] kB [] := ⟨by intro x hx; simp at hx; subst hx; exact i64_small (by simp) (by simp), by simp, small_len (by decide), by simp, by simp⟩

set_option maxHeartbeats 1000000 in
theorem awakeVm {Inv : World → Prop} (V : VmOk Inv) (w : World) (hw : Inv w) : Calls Tryz.prog 10 #[] w fun e w' => e = .returned (.bool true) ∧ Below w.heap.size w w' := by
  go_enter Tryz.func10, Tryz.ntmps10
  go_wp2_with fail
  refine (first_calls w).mono ?_
  rintro e w1 ⟨rfl, rfl⟩
  have k1 : Below w.heap.size w (w.alloc (.cells (icl firstP).toArray 43)) := (Below.refl _ w).alloc (Nat.le_refl _) _
  have HC := hid (Co.made firstP w (by simp [firstP]))
  generalize w.alloc (.cells (icl firstP).toArray 43) = W at k1 HC ⊢
  go_wp2_with fail
  have k2 : Below w.heap.size w (W.alloc (.cells (fl encT [aB, bB]).toArray 9)) := below_then k1 ((Below.refl _ W).alloc (Nat.le_refl _) _) k1.size
  refine (V.runs (V.stays _ _ k2 hw) (HC.out.below ((Below.refl _ W).alloc (Nat.le_refl _) _)) (Reads.made encT_len (by decide) 9 [aB, bB] W (by simp)) fits_first (i64_small (by omega) (by omega)) (first_run kB aB bB (by decide) (by decide))).mono ?_
  rintro e w3 ⟨x3, rfl, ho3, hb3⟩
  have k3 := below_then k2 hb3 k2.size
  have HO3 := hid ho3
  clear hb3 ho3 k1 k2 HC
  go_wp2_with fail
  have k4 := below_then k3 ((Below.refl _ w3).alloc (Nat.le_refl _) (.cells (icl [(19, 0, e0)]).toArray 43)) k3.size
  refine (V.runs (V.stays _ _ k4 hw) (Co.made [(19, 0, e0)] w3 (by simp)) (Reads.nil _) fits_loop (i64_small (by omega) (by omega)) (loop_run kB [])).mono ?_
  rintro e w5 ⟨x5, rfl, ho5, hb5⟩
  have k5 := below_then k4 hb5 k4.size
  have HO5 := hid (owns_below (owns_below HO3.out ((Below.refl _ w3).alloc (Nat.le_refl _) _)) hb5)
  obtain ⟨ao, cap, rfl, _⟩ := own_prs ho5
  clear hb5 ho5 k4 k3 HO3
  go_wp2_with fail
  have k6 := below_then k5 ((Below.refl _ w5).alloc (Nat.le_refl _) (.cells (fl encP [(kB, aB)]).toArray 41)) k5.size
  refine (samePairs_any _ _ [(kB, aB)] _ ((own_prs HO5.out).below ((Below.refl _ w5).alloc (Nat.le_refl _) _)) (Reads.made encP_len (by decide) 41 [(kB, aB)] w5 (by simp))).mono ?_
  rintro e w7 ⟨rfl, n7, rfl⟩
  have k7 := below_then k6 (below_drew _ n7) k6.size
  generalize (w5.alloc (.cells (fl encP [(kB, aB)]).toArray 41)).drewN n7 = W7 at k7 ⊢
  clear k6 k5 HO5
  go_wp2_with fail
  have k8 := below_then k7 ((Below.refl _ W7).alloc (Nat.le_refl _) (.cells (icl [(19, 0, e0)]).toArray 43)) k7.size
  refine (V.does (V.stays _ _ k8 hw) (Co.made [(19, 0, e0)] W7 (by simp)) (Reads.nil _) fits_loop (i64_small (by omega) (by omega)) (loop_run kB [])).mono ?_
  rintro e w9 ⟨rfl, hb9⟩
  have k9 := below_then k8 hb9 k8.size
  go_wp2
  go_ret
  exact ⟨rfl, k9⟩
end Go.Proofs.YtpggfdnpbipckaaGreatDoor
