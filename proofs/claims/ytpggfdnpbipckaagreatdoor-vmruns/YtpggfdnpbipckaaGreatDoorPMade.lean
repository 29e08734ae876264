/- Programs that were just written down. -/
import Derived.Test.YtpggfdnpbipckaaGreatDoorPCode
namespace Go.Proofs.YtpggfdnpbipckaaGreatDoor
open Go.RowKit
set_option linter.unusedVariables false
set_option maxRecDepth 100000
theorem Co.made (l : List Inst) (w : World) (hl : l.length ≤ 100) : Co (w.alloc (.cells (icl l).toArray 43)) (.slice (some ⟨w.heap.size, 0, none⟩) l.length l.length) l := by
  have h : (w.alloc (.cells (icl l).toArray 43)).ownsRow w.heap.size 43 3 (.slice (some ⟨w.heap.size, 0, none⟩) l.length l.length) l.length (icl l) :=
    ⟨icl_length l, .inr ⟨w.heap.size, l.length, (icl l).toArray, rfl, Nat.le_refl _, new_block _ _, Nat.le_refl _, by unfold maxLen; omega, by rw [List.size_toArray, icl_length], by rw [List.toList_toArray]; exact List.take_of_length_le (by rw [icl_length]; omega)⟩⟩
  exact Co.own h
theorem Co.nil (w : World) : Co w (.slice none 0 0) [] := ⟨none, 0, rfl, Nat.le_refl _, by unfold maxLen; omega, fun _ => ⟨rfl, rfl⟩, fun h => absurd rfl h⟩
end Go.Proofs.YtpggfdnpbipckaaGreatDoor
