/- awake of chapter 10's statements: it is true. -/
import Derived.Test.YthjoomcannfnjaaCJoin
import Derived.Test.YthjoomcannfnjaaHeldBy
namespace Go.Proofs.Ythjoomcannfnjaa
open Go.RowKit
set_option linter.unusedVariables false

theorem fl_encV : ∀ vs : List Value, fl encV vs = vs
  | [] => rfl
  | v :: vs => by
    have h : fl encV (v :: vs) = v :: fl encV vs := rfl
    rw [h, fl_encV vs]
/-- A new slice of lists. -/
theorem lis_made (vs : List Value) (ls : List (List KV)) (w : World) (hn : vs.length ≤ 1000) (hl : vs.length = ls.length) (h : ∀ (j : Nat) (l : List KV), ls[j]? = some l → ∃ x, vs[j]? = some x ∧ Prs w x l) :
    Lis (w.alloc (.cells vs.toArray 22)) (.slice (some ⟨w.heap.size, 0, none⟩) vs.length vs.length) ls := by
  have h1 := Reads.made encV_len (by decide) 22 vs w hn
  rw [fl_encV] at h1
  refine ⟨vs, h1, hl, fun j l hj => ?_⟩
  obtain ⟨x, hx, hp⟩ := h j l hj
  exact ⟨x, hx, hp.below (alloc_one _ _)⟩
theorem lis_two {w : World} {x y : Value} {l m : List KV} (hx : Prs w x l) (hy : Prs w y m) : Lis (w.alloc (.cells #[x, y] 22)) (.slice (some ⟨w.heap.size, 0, none⟩) 2 2) [l, m] := by
  refine lis_made [x, y] [l, m] w (by simp) rfl fun j z hj => ?_
  match j, hj with
  | 0, hj => simp at hj; subst hj; exact ⟨x, rfl, hx⟩
  | 1, hj => simp at hj; subst hj; exact ⟨y, rfl, hy⟩
  | j + 2, hj => simp at hj

def kv (c : UInt8) : KV := (⟨#[c]⟩, ⟨#[]⟩)
def al : List KV := [kv 97, kv 98, kv 99]
def oA : Obj := .cells #[.string ⟨#[97]⟩, .string ⟨#[]⟩, .string ⟨#[98]⟩, .string ⟨#[]⟩, .string ⟨#[99]⟩, .string ⟨#[]⟩] 36
theorem al_made (w : World) : Prs (w.alloc oA) (.slice (some ⟨w.heap.size, 0, none⟩) 3 3) al := pairs_made al w (by decide)
theorem al_chunk : chunkL al 2 1 = [kv 99] := by decide
theorem sizeI21 : sizeI 2 1 = 3 := by decide
theorem sizeI22 : sizeI 2 2 = 2 := by decide
theorem chunks52 : chunksI 5 2 = 3 := by decide

set_option maxHeartbeats 8000000 in
theorem awake_calls (w : World) : Calls Try.prog 8 #[] w fun e w' => e = .returned (.bool true) ∧ Below w.heap.size w w' := by
  have HA := hid (al_made w)
  have HB0 := hid (alloc_one w oA)
  go_enter Try.func8, Try.ntmps8
  go_wp2_with fail
  have HAd := hid (HA.out.below (below_drew1 _))
  have HBd := hid (below_then HB0.out (below_drew1 _) HB0.out.size)
  have HC2 := hid (show Prs (w.alloc oA).drew (.slice (some ⟨w.heap.size, 4, none⟩) 1 1) [kv 99] from HAd.out.sub (k := 2) (j := 1) (by decide))
  have HC0 := hid (show Prs (w.alloc oA).drew (.slice (some ⟨w.heap.size, 0, none⟩) 1 3) [kv 97] from HAd.out.sub (k := 0) (j := 1) (by decide))
  have HC1 := hid (show Prs (w.alloc oA).drew (.slice (some ⟨w.heap.size, 2, none⟩) 2 2) [kv 98, kv 99] from HAd.out.sub (k := 1) (j := 2) (by decide))
  go_region_held3 (fun _ => True) (trivial)
    (first | (go_at_call 14; refine (cut_Size_any _ _ (by decide) (by decide) _).mono ?_; rintro e w1 ⟨rfl, rfl⟩; first | rw [sizeI21] | rw [sizeI22])
           | (go_at_call 16; refine (cut_Chunks_any _ _ (by decide) (by decide) (by decide) (by decide) _).mono ?_; rintro e w1 ⟨rfl, rfl⟩; rw [chunks52])
           | (go_at_call 11; refine (chunk_any _ al 2 1 (by decide) (by decide) _ HAd.out (by decide)).mono ?_; rintro e w1 ⟨u1, rfl, ho1, hb1⟩; rw [al_chunk] at ho1; have HO1 := hid ho1; have HB1 := hid hb1; clear ho1 hb1)
           | (go_at_call 12; refine (samePairs_any _ _ al w3 (Reads.own encP_len (by decide) HO3.out) (HAd.out.below HB3.out)).mono ?_; rintro e w4 ⟨rfl, n4, rfl⟩; have HB4 := hid (below_then HB3.out (below_drew w3 n4) HB3.out.size))
           | (go_at_call 12; refine (samePairs_any _ _ [kv 99] w1 (Reads.own encP_len (by decide) HO1.out) (HC2.out.below HB1.out)).mono ?_; rintro e w2 ⟨rfl, n2, rfl⟩; have HB2 := hid (below_then HB1.out (below_drew w1 n2) HB1.out.size))
           | (go_at_call 20; refine (join_any _ [[kv 97], [kv 98, kv 99]] _ (lis_two (HC0.out.below HB2.out) (HC1.out.below HB2.out)) (by decide)).mono ?_; rintro e w3 ⟨u3, rfl, ho3, hb3⟩; have HO3 := hid ho3; have HB3 := hid (below_then (below_then HB2.out (alloc_one _ _) HB2.out.size) hb3 (below_then HB2.out (alloc_one _ _) HB2.out.size).size); clear ho3 hb3))
  all_goals
    have HE := hid (below_then HBd.out HB4.out HBd.out.size)
    go_wp2
    go_ret
    exact ⟨rfl, HE.out⟩
end Go.Proofs.Ythjoomcannfnjaa
