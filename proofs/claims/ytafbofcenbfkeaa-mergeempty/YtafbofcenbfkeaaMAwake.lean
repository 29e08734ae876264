/- awake of chapter 11's statements: it is true. -/
import Derived.Test.YtafbofcenbfkeaaMRuns
namespace Go.Proofs.Ytafbofcenbfkeaa
open Go.RowKit
set_option linter.unusedVariables false

def kv (k v : UInt8) : KV := (⟨#[k]⟩, ⟨#[v]⟩)
def al : List KV := [kv 97 49, kv 99 50]
def bl : List KV := [kv 97 48, kv 98 51]
def cl : List KV := [kv 97 49, kv 97 48, kv 98 51, kv 99 50]
theorem al_bl : srt (al ++ bl) = cl := by decide
def oA : Obj := .cells #[.string ⟨#[97]⟩, .string ⟨#[49]⟩, .string ⟨#[99]⟩, .string ⟨#[50]⟩] 45
def oB : Obj := .cells #[.string ⟨#[97]⟩, .string ⟨#[48]⟩, .string ⟨#[98]⟩, .string ⟨#[51]⟩] 45
def oC : Obj := .cells #[.string ⟨#[97]⟩, .string ⟨#[49]⟩, .string ⟨#[97]⟩, .string ⟨#[48]⟩, .string ⟨#[98]⟩, .string ⟨#[51]⟩, .string ⟨#[99]⟩, .string ⟨#[50]⟩] 45
theorem al_made (w : World) : Prs (w.alloc oA) (.slice (some ⟨w.heap.size, 0, none⟩) 2 2) al := pairs_made al w (by decide)
theorem bl_made (w : World) : Prs (w.alloc oB) (.slice (some ⟨w.heap.size, 0, none⟩) 2 2) bl := pairs_made bl w (by decide)
theorem cl_made (w : World) : Prs (w.alloc oC) (.slice (some ⟨w.heap.size, 0, none⟩) 4 4) cl := pairs_made cl w (by decide)

set_option maxHeartbeats 4000000 in
theorem awake_calls (w : World) : Calls Try.prog 8 #[] w fun e w' => e = .returned (.bool true) ∧ Below w.heap.size w w' := by
  have HA := hid ((al_made w).below (alloc_one _ oB))
  have HBl := hid (show Prs ((w.alloc oA).alloc oB) (.slice (some ⟨w.heap.size + 1, 0, none⟩) 2 2) bl by have := bl_made (w.alloc oA); simpa using this)
  have HB0 := hid (below_then (alloc_one w oA) (alloc_one (w.alloc oA) oB) (alloc_one w oA).size)
  go_enter Try.func8, Try.ntmps8
  go_wp2_with fail
  refine (two_any _ _ al bl ((w.alloc oA).alloc oB) HA.out HBl.out (by decide)).mono ?_
  rintro e w1 ⟨u1, rfl, ho1, hb1⟩
  rw [al_bl] at ho1
  have HO1 := hid ho1
  have HB1 := hid (below_then HB0.out hb1 HB0.out.size)
  clear ho1 hb1 HB0 HA HBl
  go_wp2_with fail
  refine (samePairs_any _ _ cl (w1.alloc oC) (Reads.own encP_len (by decide) (HO1.out.alloc _)) (cl_made w1)).mono ?_
  rintro e w2 ⟨rfl, n2, rfl⟩
  have HB2 := hid (below_then HB1.out (below_then (alloc_one w1 oC) (below_drew _ n2) (alloc_one w1 oC).size) HB1.out.size)
  generalize (w1.alloc oC).drewN n2 = w2 at HB2 ⊢
  clear HO1 HB1
  go_wp2_with fail
  refine (runs_any _ [] w2 (Lis.nil w2) (by decide)).mono ?_
  rintro e w3 ⟨u3, rfl, ho3, hb3⟩
  obtain ⟨yo, yc, rfl⟩ := own_slice ho3
  have HB3 := hid (below_then HB2.out hb3 HB2.out.size)
  clear ho3 hb3 HB2
  have hl0 : (srt ([] : List (List KV)).flatten).length = 0 := rfl
  rw [hl0]
  go_wp2
  go_ret
  exact ⟨rfl, HB3.out⟩
end Go.Proofs.Ytafbofcenbfkeaa
