/- does of chapter 6's own answer: OpEmit. -/
import Derived.Test.YtpggfdnpbipckaaGreatDoorRDoes4
import Derived.Test.YtpggfdnpbipckaaGreatDoorVOps3
namespace Go.Proofs.YtpggfdnpbipckaaGreatDoor
open Go.RowKit Go.Lib
set_option linter.unusedVariables false
set_option maxRecDepth 100000

/-- What does answers with a reason. -/
def Fails (w : World) (r : Int) (e : Ending) (w' : World) : Prop := ∃ vo, e = .returned (.tuple #[vo, .int .i64 r]) ∧ Below w.heap.size w w'

variable {w0 : World} {b : Nat} {key : ByteArray} {vv vs vt : Value} {m : St} {w : World}
set_option maxHeartbeats 4000000 in
set_option maxRecDepth 100000 in
theorem does_big (A : Int) (s : ByteArray) (v : Value) (k x : ByteArray) (hv : Vls w v [.text k, .text x]) (hk : 16 < k.size) :
    Calls Tryz.prog 65 #[.pointer (some ⟨b, 0, none⟩), .agg #[.int .i64 23, .int .i64 A, .string s], v] w (Fails w 4) := by
  obtain ⟨g, off, cap, rfl, h2, hlt, hc⟩ := hv.lie (by simp)
  have H1 := alloc1 w (Obj.cells #[.int .i64 23, .int .i64 A, .string s] 43)
  have c2 : (w.alloc (Obj.cells #[.int .i64 23, .int .i64 A, .string s] 43)).cell? ⟨g, off + 2, none⟩ = some (.string k) := (H1.cell (p := ⟨g, off + 2, none⟩) hlt).trans (by simpa using hc 0 _ rfl 2 _ rfl)
  have hd : decide ((16 : Int) < (k.size : Int)) = true := by simp; omega
  clear hc hv
  simp only [List.length_cons, List.length_nil, Nat.zero_add, Nat.reduceAdd] at h2
  go_enter Tryz.func65, Tryz.ntmps65
  go_wp2
  go_ret2
  exact ⟨_, rfl, H1⟩

set_option maxHeartbeats 4000000 in
set_option maxRecDepth 100000 in
theorem does_many (h : Mac w0 b key vv vs vt m w) (A : Int) (s : ByteArray) (v : Value) (k x : ByteArray) (hv : Vls w v [.text k, .text x]) (hk : k.size ≤ 16) (hm : 40 ≤ m.told.length) :
    Calls Tryz.prog 65 #[.pointer (some ⟨b, 0, none⟩), .agg #[.int .i64 23, .int .i64 A, .string s], v] w (Fails w 5) := by
  obtain ⟨g, off, cap, rfl, h2, hlt, hc⟩ := hv.lie (by simp)
  obtain ⟨o0, o2, rfl⟩ := own_slice h.tl
  have H1 := alloc1 w (Obj.cells #[.int .i64 23, .int .i64 A, .string s] 43)
  have c2 : (w.alloc (Obj.cells #[.int .i64 23, .int .i64 A, .string s] 43)).cell? ⟨g, off + 2, none⟩ = some (.string k) := (H1.cell (p := ⟨g, off + 2, none⟩) hlt).trans (by simpa using hc 0 _ rfl 2 _ rfl)
  have c28 : (w.alloc (Obj.cells #[.int .i64 23, .int .i64 A, .string s] 43)).cell? ⟨b, 28, none⟩ = some (.slice o0 m.told.length o2) := (h.on H1).cP
  have hd : decide ((16 : Int) < (k.size : Int)) = false := by simp; omega
  have hd2 : decide ((40 : Int) ≤ (m.told.length : Int)) = true := by simp; omega
  clear hc hv h
  simp only [List.length_cons, List.length_nil, Nat.zero_add, Nat.reduceAdd] at h2
  go_enter Tryz.func65, Tryz.ntmps65
  go_wp2
  go_ret2
  exact ⟨_, rfl, H1⟩
end Go.Proofs.YtpggfdnpbipckaaGreatDoor
