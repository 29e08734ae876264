/- ValueTells' walk: each answer of the program beside the reference's, by their contracts. -/
import Derived.Test.YtenihkjghbmfjaaDoorVAwake
import Derived.Test.YtenihkjghbmfjaaDoorVRef
namespace Go.Proofs.YtenihkjghbmfjaaDoor
open Go.RowKit Go.Lib
set_option linter.unusedVariables false

theorem i64_of {n : Int} (wf : (Lit.int .i64 n).wf = true) : I64 n := by
  have e1 : IntKind.i64.min = -9223372036854775808 := rfl
  have e2 : IntKind.i64.max = 9223372036854775807 := rfl
  simp [Lit.wf, e1, e2] at wf
  exact ⟨by omega, by omega⟩

set_option maxRecDepth 100000 in
theorem valueTells_walk (w : World) (T : Tabs w) (n : Int) (wn : (Lit.int .i64 n).wf = true) (s : ByteArray) (hs : s.size ≤ maxLen) (i : Int) (wi : (Lit.int .i64 i).wf = true) (a : Int) (wa : (Lit.int .i64 a).wf = true) (b : Int) (wb : (Lit.int .i64 b).wf = true) :
    Calls Tryd.prog 3 #[.int .i64 n, .string s, .int .i64 i, .int .i64 a, .int .i64 b] w fun e w' => e = .returned (.bool true) ∧ Below w.heap.size w w' := by
  have hn := hid (i64_of wn)
  have hm : s.size ≤ 9223372036854775807 := by unfold maxLen at hs; omega
  clear wn wi wa wb hs
  by_cases hl : 200 < s.size
  · have hd : decide ((200 : Int) < (s.size : Int)) = true := by simp; omega
    go_enter Tryd.func3, Tryd.ntmps3
    go_wp2_with fail
    refine (awake_calls _ T).mono ?_
    rintro e w1 ⟨rfl, hb1⟩
    go_wp2
    go_ret
    exact ⟨rfl, hb1⟩
  obtain ⟨d, hd⟩ : ∃ d, tx (itoa n) = d := ⟨_, rfl⟩
  obtain ⟨v, hv⟩ : ∃ v, vNum s.data.toList = v := ⟨_, rfl⟩
  obtain ⟨p, hp⟩ : ∃ p, atOf s i = p := ⟨_, rfl⟩
  obtain ⟨c, hc⟩ : ∃ c, tx (cutL s.data.toList a b) = c := ⟨_, rfl⟩
  have HD := hid hd
  have HV := hid hv
  have HP := hid hp
  have HC := hid hc
  have hl' : (s.size : Int) ≤ 200 := by omega
  clear hd hv hp hc
  go_enter Tryd.func3, Tryd.ntmps3
  go_wp2_with fail
  refine (digits_calls n hn _ T).mono ?_
  rintro e w1 ⟨rfl, hb1⟩
  rw [show tx (itoa n) = d from HD]
  have T1 := T.on hb1
  go_wp2_with fail
  refine (ref_digits_calls n hn _).mono ?_
  rintro e w1' ⟨rfl, rfl⟩
  rw [show tx (itoa n) = d from HD]
  go_wp2_with fail
  refine (number_calls s hm _ T1).mono ?_
  rintro e w2 ⟨rfl, hb2⟩
  rw [show vNum s.data.toList = v from HV]
  have T2 := T1.on hb2
  go_wp2_with fail
  refine (ref_number_calls s hm _).mono ?_
  rintro e w2' ⟨rfl, rfl⟩
  rw [show vNum s.data.toList = v from HV]
  go_wp2_with fail
  refine (value_At_calls s i hm _).mono ?_
  rintro e w3 ⟨rfl, rfl⟩
  rw [show atOf s i = p from HP]
  go_wp2_with fail
  refine (staitheref4_At_calls s i hm _).mono ?_
  rintro e w3 ⟨rfl, rfl⟩
  rw [show atOf s i = p from HP]
  go_wp2_with fail
  refine (value_Cut_calls s a b hm _).mono ?_
  rintro e w4 ⟨rfl, rfl⟩
  rw [show tx (cutL s.data.toList a b) = c from HC]
  go_wp2_with fail
  refine (staitheref4_Cut_calls s a b hm _).mono ?_
  rintro e w4 ⟨rfl, rfl⟩
  rw [show tx (cutL s.data.toList a b) = c from HC]
  go_wp2_with fail
  refine (int_calls n _).mono ?_
  rintro e w5 ⟨rfl, hb5⟩
  have T5 := T2.on hb5
  go_wp2_with fail
  refine (bytes_calls s _).mono ?_
  rintro e w6 ⟨rfl, hb6⟩
  have T6 := T5.on hb6
  go_wp2_with fail
  refine (awake_calls _ T6).mono ?_
  rintro e w7 ⟨rfl, hb7⟩
  go_wp2
  go_ret
  exact ⟨rfl, below_next (below_next (below_next (below_next hb1 hb2) hb5) hb6) hb7⟩

end Go.Proofs.YtenihkjghbmfjaaDoor
