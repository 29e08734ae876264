/- Programs of the statements, run by hand: arithmetic, kinds, the stack, loops over the values. No program in this text. -/
import Derived.Test.YtpggfdnpbipckaaGreatDoorRBound
namespace Go.Proofs.YtpggfdnpbipckaaGreatDoor
open Go.RowKit Go.Lib
set_option linter.unusedVariables false
set_option maxRecDepth 100000

abbrev e0 : ByteArray := ⟨#[]⟩
theorem e0_bare : (e0 : ByteArray).toList.isEmpty = true := by rw [ByteArray.toList_eq]; rfl
theorem itoa_small {n : Int} (h : I64 n) : (txt (itoa n)).size ≤ 64 := by
  have := itoa_len h
  show (itoa n).toArray.size ≤ 64
  rw [List.size_toArray]
  omega
theorem txt_list (l : List UInt8) : (txt l).data.toList = l := by simp [txt]
/-- A program whose instructions may all be. -/
theorem may_all {p : List Inst} (hl : p.length ≤ 40) (h : ∀ x ∈ p, good x p.length = true) : bad p < 0 := by
  rw [may_iff]
  refine ⟨hl, fun i hi => ?_⟩
  rw [List.getD_eq_getElem?_getD, List.getElem?_eq_getElem hi]
  exact h _ (List.getElem_mem hi)

/-- The programs of VmArith. -/
def arith (a b : Int) (o : Int) : List Inst := [(6, 0, e0), (1, a, e0), (1, b, e0), (o, 0, e0), (17, 0, e0), (23, 0, e0)]
def arithOf (o : Int) (a b : Int) : Int := if o = 8 then wrap64 (a + b) else if o = 9 then wrap64 (a - b) else if o = 10 then wrap64 (a * b) else if a < b then 1 else 0
theorem arith_may (a b : Int) {o : Int} (ho : 8 ≤ o ∧ o ≤ 11) : bad (arith a b o) < 0 := by
  refine may_all (by simp [arith]) ?_
  intro x hx
  have : o = 8 ∨ o = 9 ∨ o = 10 ∨ o = 11 := by omega
  simp only [arith, List.mem_cons, List.mem_nil_iff, or_false] at hx
  rcases hx with rfl | rfl | rfl | rfl | rfl | rfl
  · simp [good]
  · simp [good]
  · simp [good]
  · rcases this with rfl | rfl | rfl | rfl <;> simp [good]
  · simp [good]
  · simp [good]
theorem arith_i64 (o a b : Int) : I64 (arithOf o a b) := by
  unfold arithOf
  split
  · exact i64_wrap _
  · split
    · exact i64_wrap _
    · split
      · exact i64_wrap _
      · split
        · exact i64_small (by omega) (by omega)
        · exact i64_small (by omega) (by omega)
theorem arith_run (a b : Int) {o : Int} (ho : 8 ≤ o ∧ o ≤ 11) (vals : List ByteArray) : run (arith a b o) e0 vals 6 = ([(e0, txt (itoa (arithOf o a b)))], 0, 6) := by
  have hs := itoa_small (arith_i64 o a b)
  unfold run
  rw [if_pos ⟨arith_may a b ho, by omega⟩]
  have : o = 8 ∨ o = 9 ∨ o = 10 ∨ o = 11 := by omega
  show go (arith a b o) e0 vals 6 0 st0 = _
  have hs' : ¬ 64 < (txt (itoa (arithOf o a b))).size := by omega
  have hz : e0.size = 0 := rfl
  have hk : ∀ c : Int, ¬ 64 < (txt (itoa c)).size → go (arith a b o) e0 vals 2 4 ⟨[.num c, .text e0], List.replicate 8 (.num 0), 0, []⟩ = ([(e0, txt (itoa c))], 0, 2) := by
    intro c hc
    simp [go, arith, step, push, any1, any2, isN, isT, emit, Val.big, addD, hc, hz]
  have h3 : go (arith a b o) e0 vals 6 0 st0 = addD 3 (go (arith a b o) e0 vals 3 3 ⟨[.num b, .num a, .text e0], List.replicate 8 (.num 0), 0, []⟩) := by
    rw [go_next (by simp [arith]) (by simp [arith]) (m' := ⟨[.text e0], List.replicate 8 (.num 0), 0, []⟩) (by simp [arith, step, push, st0, Val.big, hz]),
      go_next (by simp [arith]) (by simp [arith]) (m' := ⟨[.num a, .text e0], List.replicate 8 (.num 0), 0, []⟩) (by simp [arith, step, push, Val.big]),
      go_next (by simp [arith]) (by simp [arith]) (m' := ⟨[.num b, .num a, .text e0], List.replicate 8 (.num 0), 0, []⟩) (by simp [arith, step, push, Val.big])]
    rfl
  have h4 : go (arith a b o) e0 vals 3 3 ⟨[.num b, .num a, .text e0], List.replicate 8 (.num 0), 0, []⟩ = addD 1 (go (arith a b o) e0 vals 2 4 ⟨[.num (arithOf o a b), .text e0], List.replicate 8 (.num 0), 0, []⟩) := by
    refine go_next (by simp [arith]) (by simp [arith]; omega) ?_
    rcases this with rfl | rfl | rfl | rfl <;> simp [arith, step, push, Val.big, nn, any2, isN, arithOf, flag]
  rw [h3, h4, hk _ hs']
  rfl
/-- The text of a number, read and told again. -/
def backP : List Inst := [(6, 0, e0), (7, 0, e0), (4, 0, e0), (18, 0, e0), (17, 0, e0), (23, 0, e0)]
theorem back_run {n : Int} (h : I64 n) : run backP e0 [txt (itoa n)] 6 = ([(e0, txt (itoa n))], 0, 6) := by
  have hs := itoa_small h
  have hs' : ¬ 64 < (txt (itoa n)).size := by omega
  have hz : e0.size = 0 := rfl
  have hv : vNum (txt (itoa n)).data.toList = n := by rw [txt_list, vNum_itoa h]
  have hm : bad backP < 0 := may_all (by simp [backP]) (by
    intro x hx
    simp only [backP, List.mem_cons, List.mem_nil_iff, or_false] at hx
    rcases hx with rfl | rfl | rfl | rfl | rfl | rfl <;> simp [good])
  unfold run
  rw [if_pos ⟨hm, by omega⟩]
  show go backP e0 [txt (itoa n)] 6 0 st0 = _
  simp [go, backP, step, st0, push, any1, any2, isN, isT, emit, Val.big, addD, hs', hz, hv]
def digP (n : Int) : List Inst := [(6, 0, e0), (1, n, e0), (17, 0, e0), (23, 0, e0)]
theorem dig_run {n : Int} (h : I64 n) (vals : List ByteArray) : run (digP n) e0 vals 4 = ([(e0, txt (itoa n))], 0, 4) := by
  have hs := itoa_small h
  have hs' : ¬ 64 < (txt (itoa n)).size := by omega
  have hz : e0.size = 0 := rfl
  have hm : bad (digP n) < 0 := may_all (by simp [digP]) (by
    intro x hx
    simp only [digP, List.mem_cons, List.mem_nil_iff, or_false] at hx
    rcases hx with rfl | rfl | rfl | rfl <;> simp [good])
  unfold run
  rw [if_pos ⟨hm, by omega⟩]
  show go (digP n) e0 vals 4 0 st0 = _
  simp [go, digP, step, st0, push, any1, any2, isN, isT, emit, Val.big, addD, hs', hz]

/-! ### awake -/
def firstP : List Inst := [(6, 0, e0), (7, 0, e0), (4, 0, e0), (23, 0, e0)]
theorem first_run (k a b : ByteArray) (hk : k.size ≤ 16) (ha : a.size ≤ 64) : run firstP k [a, b] 9 = ([(k, a)], 0, 4) := by
  have hm : bad firstP < 0 := may_all (by simp [firstP]) (by
    intro x hx
    simp only [firstP, List.mem_cons, List.mem_nil_iff, or_false] at hx
    rcases hx with rfl | rfl | rfl | rfl <;> simp [good])
  have h1 : ¬ 64 < k.size := by omega
  have h2 : ¬ 64 < a.size := by omega
  have h3 : ¬ 16 < k.size := by omega
  unfold run
  rw [if_pos ⟨hm, by omega⟩]
  show go firstP k [a, b] 9 0 st0 = _
  simp [go, firstP, step, st0, push, any1, any2, isT, emit, Val.big, addD, h1, h2, h3]
theorem loop_run (k : ByteArray) (vals : List ByteArray) : run [(19, 0, e0)] k vals 5 = ([], 3, 5) := by
  have hm : bad [(19, 0, e0)] < 0 := may_all (by simp) (by
    intro x hx
    simp only [List.mem_cons, List.mem_nil_iff, or_false] at hx
    rcases hx with rfl <;> simp [good])
  unfold run
  rw [if_pos ⟨hm, by omega⟩]
  show go [(19, 0, e0)] k vals 5 0 st0 = _
  simp [go, step, addD]
end Go.Proofs.YtpggfdnpbipckaaGreatDoor
