/- The statements' own first look passes in every world in which the library's variables hold what start-up lays. -/
import Derived.Test.YtenihkjghbmfjaaDoorVCut
namespace Go.Proofs.YtenihkjghbmfjaaDoor
open Go.RowKit Go.Lib
set_option linter.unusedVariables false

theorem itoa_m12 : itoa (-12) = [45, 49, 50] := by decide +kernel
theorem num_007 : vNum [48, 48, 55] = 0 := vNum_nought _
theorem num_m40 : vNum [45, 52, 48] = -40 := by
  have e : itoa (-40) = [45, 52, 48] := by decide +kernel
  rw [← e]
  exact vNum_itoa ⟨by decide, by decide⟩

set_option maxRecDepth 100000 in
theorem awake_calls (w : World) (T : Tabs w) :
    Calls Tryd.prog 7 #[] w fun e w' => e = .returned (.bool true) ∧ Below w.heap.size w w' := by
  go_enter Tryd.func7, Tryd.ntmps7
  go_wp2_with fail
  refine (digits_calls (-12) ⟨by decide, by decide⟩ _ T).mono ?_
  rintro e w1 ⟨rfl, hb1⟩
  have T1 := T.on hb1
  rw [itoa_m12]
  go_wp2_with fail
  refine (number_calls ⟨#[48, 48, 55]⟩ (by decide) _ T1).mono ?_
  rintro e w2 ⟨rfl, hb2⟩
  have T2 := T1.on hb2
  rw [show vNum (ByteArray.mk #[48, 48, 55]).data.toList = 0 from num_007]
  go_wp2_with fail
  refine (number_calls ⟨#[45, 52, 48]⟩ (by decide) _ T2).mono ?_
  rintro e w3 ⟨rfl, hb3⟩
  rw [show vNum (ByteArray.mk #[45, 52, 48]).data.toList = -40 from num_m40]
  go_wp2_with fail
  refine (value_At_calls ⟨#[97, 98]⟩ 1 (by decide) _).mono ?_
  rintro e w4 ⟨rfl, rfl⟩
  rw [show atOf (ByteArray.mk #[97, 98]) 1 = 98 by decide]
  go_wp2_with fail
  refine (value_Cut_calls ⟨#[97, 98, 99, 100]⟩ 1 9 (by decide) _).mono ?_
  rintro e w5 ⟨rfl, rfl⟩
  rw [show cutL (ByteArray.mk #[97, 98, 99, 100]).data.toList 1 9 = [98, 99, 100] by decide]
  go_wp2_with fail
  refine (int_calls 3 _).mono ?_
  rintro e w6 ⟨rfl, hb6⟩
  go_wp2_with fail
  refine (int_calls 3 _).mono ?_
  rintro e w7 ⟨rfl, hb7⟩
  go_wp2_with fail
  refine (value_Same_calls false false 3 3 ⟨#[]⟩ ⟨#[]⟩ _).mono ?_
  rintro e w8 ⟨rfl, hb8⟩
  rw [show sameOf false false 3 3 ⟨#[]⟩ ⟨#[]⟩ = true by decide]
  go_wp2
  go_ret
  exact ⟨rfl, below_next (below_next (below_next (below_next (below_next hb1 hb2) hb3) hb6) hb7) hb8⟩

end Go.Proofs.YtenihkjghbmfjaaDoor
