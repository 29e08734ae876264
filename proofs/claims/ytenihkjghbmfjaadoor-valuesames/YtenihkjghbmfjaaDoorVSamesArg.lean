/- ValueSames at arguments as they come in: a value's three cells. -/
import Derived.Test.YtenihkjghbmfjaaDoorVSames
import Derived.Test.YtenihkjghbmfjaaDoorRds
namespace Go.Proofs.YtenihkjghbmfjaaDoor
open Go.RowKit Go.Lib

abbrev rVal : Rd (Bool × (Int × ByteArray)) := rPair 1 rBool (rPair 1 (rInt .i64) rStr)

theorem opens_value : Opens Tryd.prog 28 3 rVal :=
  opens_struct Tryd.underlying28 (by kernel_rfl) (opensF_cons rfl (by kernel_rfl) (opens_bool Tryd.underlying4) (opensF_cons rfl (by kernel_rfl) (opens_int Tryd.underlying2) (opensF_last rfl (by kernel_rfl) rfl (opens_str Tryd.underlying9))))

theorem value_open {w : World} {cs : Array Value} {a : Bool × (Int × ByteArray)} (hs : cs.size = 3) (h : rVal w cs.toList a) : Value.agg cs = val a.1 a.2.1 a.2.2 := by
  obtain ⟨l⟩ := cs
  match l, hs with
  | [p, q, r], _ =>
    obtain ⟨h1, h2, h3⟩ := h
    have e1 : p = .bool a.1 := by simpa [rBool] using h1
    have e2 : q = .int .i64 a.2.1 := by simpa [rInt] using h2.1
    have e3 : r = .string a.2.2 := by simpa [rStr] using h3.1
    rw [e1, e2, e3]

theorem valueSames_walk (w : World) (T : Tabs w) (cs : Array Value) (a : Bool × (Int × ByteArray)) (hs : cs.size = 3) (h : rVal w cs.toList a) (ds : Array Value) (b : Bool × (Int × ByteArray)) (ht : ds.size = 3) (k : rVal w ds.toList b) :
    Calls Tryd.prog 4 #[.agg cs, .agg ds] w fun e w' => e = .returned (.bool true) ∧ Below w.heap.size w w' := by
  rw [value_open hs h, value_open ht k]
  exact valueSames_plain w T _ _ _ _ _ _

end Go.Proofs.YtenihkjghbmfjaaDoor
