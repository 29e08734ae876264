/- awake of chapter 8's statements: it is true. -/
import Derived.Test.YtinfpjmnadaklaaQOnly
namespace Go.Proofs.Ytinfpjmnadaklaa
open Go.RowKit
set_option linter.unusedVariables false

def bA : ByteArray := ⟨#[97]⟩
def b0 : ByteArray := ⟨#[]⟩
theorem num_none : numK ⟨#[]⟩ = 7 := by decide
theorem num_a : numK ⟨#[97]⟩ = 314 := by decide
theorem of_a4 : ofK ⟨#[97]⟩ 4 = 2 := by decide
theorem of_a0 : ofK ⟨#[97]⟩ 0 = -1 := by decide
def al : List KV := [(bA, b0)]
theorem al_only : onlyL al 4 2 = al := by decide
def oA : Obj := .cells #[.string ⟨#[97]⟩, .string ⟨#[]⟩] 37
theorem al_made (w : World) : Prs (w.alloc oA) (.slice (some ⟨w.heap.size, 0, none⟩) 1 1) al := pairs_made al w (by decide)

set_option maxHeartbeats 2000000 in
theorem awake_calls (w : World) : Calls Try.prog 7 #[] w fun e w' => e = .returned (.bool true) ∧ Below w.heap.size w w' := by
  go_enter Try.func7, Try.ntmps7
  go_wp2_with fail
  refine (number_any _ (by decide) w).mono ?_
  rintro e w1 ⟨rfl, rfl⟩
  rw [num_none]
  go_wp2_with fail
  refine (number_any _ (by decide) _).mono ?_
  rintro e w2 ⟨rfl, rfl⟩
  rw [num_a]
  go_wp2_with fail
  refine (of_any _ (by decide) _ (by decide) (by decide) _).mono ?_
  rintro e w3 ⟨rfl, rfl⟩
  rw [of_a4]
  go_wp2_with fail
  refine (of_any _ (by decide) _ (by decide) (by decide) _).mono ?_
  rintro e w4 ⟨rfl, rfl⟩
  rw [of_a0]
  go_wp2_with fail
  rename World => w
  have HB0 := hid (alloc_one w oA)
  refine (only_any _ al 4 2 (by decide) (by decide) (w.alloc oA) (al_made w) (by decide) (by decide)).mono ?_
  rintro e w1 ⟨u1, rfl, ho1, hb1⟩
  rw [al_only] at ho1
  obtain ⟨ao, c, rfl⟩ := own_slice ho1
  have HB1 := hid (below_then HB0.out hb1 HB0.out.size)
  clear ho1 hb1 HB0
  unfold al
  go_wp2
  go_ret
  exact ⟨rfl, HB1.out⟩
end Go.Proofs.Ytinfpjmnadaklaa
