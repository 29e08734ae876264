/- great and first of chapter 6's statements. -/
import Derived.Test.YtpggfdnpbipckaaGreatDoorPBad
import Derived.Test.YtpggfdnpbipckaaGreatDoorTPairs
import Derived.Test.YtpggfdnpbipckaaGreatDoorRMath
namespace Go.Proofs.YtpggfdnpbipckaaGreatDoor
open Go.RowKit
set_option linter.unusedVariables false
set_option maxRecDepth 100000

/-- Is there more than is gone through? If not, there are no more than these. -/
def GreatVm (l : List Inst) (key : ByteArray) (vals : List ByteArray) (e : Ending) : Prop := ∃ g, e = .returned (.bool g) ∧ (g = false → l.length ≤ 60 ∧ key.size ≤ 100 ∧ vals.length ≤ 60)
set_option maxHeartbeats 1000000 in
theorem greatVm_any (v : Value) (l : List Inst) (key : ByteArray) (u : Value) (vals : List ByteArray) (w : World) (hv : Co w v l) (hu : Txs w u vals) :
    Calls Tryz.prog 9 #[v, .string key, u] w fun e w' => GreatVm l key vals e ∧ w' = w := by
  go_enter Tryz.func9, Tryz.ntmps9
  go_wp2_with fail
  refine (great_any v l w hv).mono ?_
  rintro e w0 ⟨⟨g, rfl, hg⟩, rfl⟩
  cases g
  · have H0 := hid (hg rfl)
    clear hg
    by_cases hk : 100 < key.size
    · have hd : decide ((100 : Int) < (key.size : Int)) = true := by simp; omega
      go_wp2
      go_ret
      exact ⟨⟨true, rfl, fun h => by cases h⟩, rfl⟩
    · have hd : decide ((100 : Int) < (key.size : Int)) = false := by simp; omega
      go_wp2_with fail
      refine (greatTexts_any u vals 60 _ hu).mono ?_
      rintro e w1 ⟨⟨g, rfl, hg2⟩, rfl⟩
      have H := hid hg2
      clear hg2
      go_wp2
      go_ret
      exact ⟨⟨g, rfl, fun h => ⟨H0.out, by omega, H.out h⟩⟩, rfl⟩
  · go_wp2
    go_ret
    exact ⟨⟨true, rfl, fun h => by cases h⟩, rfl⟩
end Go.Proofs.YtpggfdnpbipckaaGreatDoor
