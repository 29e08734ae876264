/- Which instructions may be, the first that may not, and where jumps go to: over lists, no program. -/
import Derived.WalkKit
import Derived.Lib.SlicesCompact
namespace Go.Proofs.Ytpkobobandcclaa
open Go.RowKit Go.Lib
set_option linter.unusedVariables false

/-- An instruction: its operation, its number, its bytes. -/
abbrev Inst := Int × Int × ByteArray
def zInst : Inst := (0, 0, ⟨#[]⟩)
def jumps (x : Inst) : Bool := decide (x.1 = 19) || decide (x.1 = 20)
/-- May x be, among n? -/
def good (x : Inst) (n : Int) : Bool :=
  if x.1 = 1 then x.2.2.toList.isEmpty
  else if x.1 = 2 then decide (x.2.1 = 0) && decide ((x.2.2.size : Int) ≤ 64)
  else if x.1 = 19 ∨ x.1 = 20 then x.2.2.toList.isEmpty && (decide (0 ≤ x.2.1) && decide (x.2.1 ≤ n))
  else if x.1 = 21 ∨ x.1 = 22 then x.2.2.toList.isEmpty && (decide (0 ≤ x.2.1) && decide (x.2.1 ≤ 7))
  else (decide (0 ≤ x.1) && decide (x.1 ≤ 23)) && (x.2.2.toList.isEmpty && decide (x.2.1 = 0))

/-- The first j instructions may be, among n. -/
def Fine (l : List Inst) (n : Int) (j : Nat) : Prop := ∀ i, i < j → good (l.getD i zInst) n = true
theorem fine_zero (l : List Inst) (n : Int) : Fine l n 0 := fun i h => by omega
theorem Fine.step {l : List Inst} {n : Int} {j : Nat} (h : Fine l n j) (hg : good (l.getD j zInst) n = true) : Fine l n (j + 1) := fun i hi => by
  rcases Nat.lt_or_ge i j with h1 | h1
  · exact h i h1
  · obtain rfl : i = j := by omega
    exact hg
theorem Fine.le {l : List Inst} {n : Int} {j k : Nat} (h : Fine l n j) (hk : k ≤ j) : Fine l n k := fun i hi => h i (by omega)

/-- The first place, of those below m, at which p does not hold; m, if there is none. -/
def upto (p : Nat → Bool) : Nat → Nat
  | 0 => 0
  | m + 1 => if p (upto p m) = true ∧ upto p m = m then m + 1 else upto p m
theorem upto_spec (p : Nat → Bool) (m : Nat) : upto p m ≤ m ∧ (∀ i, i < upto p m → p i = true) ∧ (upto p m < m → p (upto p m) = false) := by
  induction m with
  | zero => exact ⟨Nat.le_refl _, fun i h => by simp [upto] at h, fun h => by simp [upto] at h⟩
  | succ m ih =>
    obtain ⟨h1, h2, h3⟩ := ih
    by_cases hc : p (upto p m) = true ∧ upto p m = m
    · have e : upto p (m + 1) = m + 1 := by simp only [upto]; rw [if_pos hc]
      rw [e]
      refine ⟨Nat.le_refl _, fun i hi => ?_, fun h => by omega⟩
      rcases Nat.lt_or_ge i m with h | h
      · exact h2 i (by omega)
      · obtain rfl : i = m := by omega
        have := hc.1
        rwa [hc.2] at this
    · have e : upto p (m + 1) = upto p m := by simp only [upto]; rw [if_neg hc]
      rw [e]
      refine ⟨by omega, h2, fun h => ?_⟩
      rcases Nat.lt_or_ge (upto p m) m with h' | h'
      · exact h3 h'
      · have : upto p m = m := by omega
        cases hp : p (upto p m) with
        | false => rfl
        | true => exact absurd ⟨hp, this⟩ hc
theorem upto_is {p : Nat → Bool} {m k : Nat} (hk : k ≤ m) (h1 : ∀ i, i < k → p i = true) (h2 : k < m → p k = false) : upto p m = k := by
  obtain ⟨a, b, c⟩ := upto_spec p m
  rcases Nat.lt_trichotomy (upto p m) k with h | h | h
  · have := h1 _ h
    rw [c (by omega)] at this
    cases this
  · exact h
  · have := b _ h
    rw [h2 (by omega)] at this
    cases this

def firstBad (l : List Inst) : Nat := upto (fun i => good (l.getD i zInst) l.length) (min l.length 40)
/-- The place of the first instruction that may not be. -/
def bad (l : List Inst) : Int := if firstBad l < min l.length 40 then (firstBad l : Int) else if 40 < l.length then 40 else -1

theorem bad_at {l : List Inst} {k : Nat} (hk : k < l.length) (h40 : k < 40) (hF : Fine l l.length k) (hb : good (l.getD k zInst) l.length = false) : bad l = (k : Int) := by
  have : firstBad l = k := upto_is (by omega) (fun i hi => hF i hi) (fun _ => hb)
  unfold bad
  rw [this, if_pos (by omega)]
theorem bad_great {l : List Inst} (h : 40 < l.length) (hF : Fine l l.length 40) : bad l = 40 := by
  have : firstBad l = 40 := upto_is (by omega) (fun i hi => hF i hi) (fun h => by omega)
  unfold bad
  rw [this, if_neg (by omega), if_pos h]
theorem bad_none {l : List Inst} (h : l.length ≤ 40) (hF : Fine l l.length l.length) : bad l = -1 := by
  have : firstBad l = l.length := upto_is (by omega) (fun i hi => hF i hi) (fun h => by omega)
  unfold bad
  rw [this, if_neg (by omega), if_neg (by omega)]
/-- What bad tells, the other way round. -/
theorem bad_cases (l : List Inst) : (∃ k : Nat, bad l = (k : Int) ∧ k < l.length ∧ k < 40 ∧ Fine l l.length k ∧ good (l.getD k zInst) l.length = false) ∨ (bad l = 40 ∧ 40 < l.length ∧ Fine l l.length 40) ∨ (bad l = -1 ∧ l.length ≤ 40 ∧ Fine l l.length l.length) := by
  obtain ⟨h1, h2, h3⟩ := upto_spec (fun i => good (l.getD i zInst) l.length) (min l.length 40)
  by_cases hc : firstBad l < min l.length 40
  · refine .inl ⟨firstBad l, ?_, by omega, by omega, h2, h3 hc⟩
    unfold bad
    rw [if_pos hc]
  · have e : firstBad l = min l.length 40 := by
      have : firstBad l ≤ min l.length 40 := h1
      omega
    have hf : Fine l l.length (min l.length 40) := fun i hi => h2 i (by show i < firstBad l; omega)
    by_cases h40 : 40 < l.length
    · rw [Nat.min_eq_right (by omega)] at hf
      exact .inr (.inl ⟨bad_great h40 hf, h40, hf⟩)
    · rw [Nat.min_eq_left (by omega)] at hf
      exact .inr (.inr ⟨bad_none (by omega) hf, by omega, hf⟩)
theorem bad_bd (l : List Inst) : -1 ≤ bad l ∧ bad l ≤ 40 := by
  rcases bad_cases l with ⟨k, h, _, h2, _⟩ | ⟨h, _⟩ | ⟨h, _⟩ <;> rw [h] <;> omega
theorem may_iff (l : List Inst) : bad l < 0 ↔ l.length ≤ 40 ∧ Fine l l.length l.length := by
  constructor
  · intro h
    rcases bad_cases l with ⟨k, h', _⟩ | ⟨h', _⟩ | ⟨_, h1, h2⟩
    · omega
    · omega
    · exact ⟨h1, h2⟩
  · intro ⟨h1, h2⟩
    rw [bad_none h1 h2]
    omega

/-! ### Where jumps go to -/
def places (l : List Inst) : List Int := (l.filter jumps).map (·.2.1)
/-- Does an instruction of the first i go to t? -/
def hitsTo (l : List Inst) (t : Int) : Bool := l.any (fun x => jumps x && decide (x.2.1 = t))
/-- Rising, each once. -/
def targets (l : List Inst) : List Int := if bad l < 0 then compact ((places l).mergeSort fun x y => decide (x ≤ y)) else []
/-- The places below t, as they are gone through. -/
def seen (l : List Inst) (t : Nat) : List Int := (((List.range t).map (fun k : Nat => (k : Int))).filter (hitsTo l))

theorem seen_succ (l : List Inst) (t : Nat) : seen l (t + 1) = seen l t ++ (if hitsTo l t = true then [(t : Int)] else []) := by
  unfold seen
  rw [List.range_succ, List.map_append, List.filter_append]
  congr 1
  simp only [List.map_cons, List.map_nil, List.filter_cons, List.filter_nil]

/-- Two rising lists of the same numbers are one. -/
theorem rising_eq : ∀ (a b : List Int), a.Pairwise (· < ·) → b.Pairwise (· < ·) → (∀ x, x ∈ a ↔ x ∈ b) → a = b
  | [], [], _, _, _ => rfl
  | [], y :: ys, _, _, h => by have := (h y).2 (by simp); simp at this
  | x :: xs, [], _, _, h => by have := (h x).1 (by simp); simp at this
  | x :: xs, y :: ys, ha, hb, h => by
    have ha' := List.pairwise_cons.1 ha
    have hb' := List.pairwise_cons.1 hb
    have hxy : x = y := by
      have h1 : x ∈ y :: ys := (h x).1 (by simp)
      have h2 : y ∈ x :: xs := (h y).2 (by simp)
      rcases List.mem_cons.1 h1 with e | e
      · exact e
      · rcases List.mem_cons.1 h2 with f | f
        · exact f.symm
        · have := ha'.1 y f
          have := hb'.1 x e
          omega
    subst hxy
    congr 1
    apply rising_eq xs ys ha'.2 hb'.2
    intro z
    constructor
    · intro hz
      have h1 := ha'.1 z hz
      rcases List.mem_cons.1 ((h z).1 (List.mem_cons_of_mem _ hz)) with e | e
      · omega
      · exact e
    · intro hz
      have h1 := hb'.1 z hz
      rcases List.mem_cons.1 ((h z).2 (List.mem_cons_of_mem _ hz)) with e | e
      · omega
      · exact e

theorem get_pos {zs : List Int} {j : Nat} (h : j < zs.length) : zs.toArray[j]! = zs[j] := by
  simp [getElem!_pos, h]
theorem sorted_le {zs : List Int} (h : zs.Pairwise (· ≤ ·)) {i j : Nat} (hij : i ≤ j) (hj : j < zs.length) : zs.toArray[i]! ≤ zs.toArray[j]! := by
  rw [get_pos hj, get_pos (by omega)]
  rcases Nat.lt_or_ge i j with h1 | h1
  · exact List.pairwise_iff_getElem.1 h i j (by omega) hj h1
  · obtain rfl : i = j := by omega
    exact Int.le_refl _
theorem compact_rising {zs : List Int} (h : zs.Pairwise (· ≤ ·)) : (compact zs).Pairwise (· < ·) := by
  unfold compact compactUpTo
  rw [List.pairwise_map, List.pairwise_filter]
  rw [List.pairwise_iff_getElem]
  intro i j hi hj hij hki hkj
  simp only [List.length_range] at hi hj
  simp only [List.getElem_range] at *
  have h1 := sorted_le h (i := i) (j := j - 1) (by omega) (by omega)
  have h2 := sorted_le h (i := j - 1) (j := j) (by omega) hj
  have h3 : zs.toArray[j]! ≠ zs.toArray[j - 1]! := by
    have : decide (j = 0 ∨ zs.toArray[j]! ≠ zs.toArray[j - 1]!) = true := hkj
    rcases of_decide_eq_true this with e | e
    · omega
    · exact e
  omega
theorem compact_mem {zs : List Int} (x : Int) : x ∈ compact zs ↔ x ∈ zs := by
  constructor
  · intro h
    unfold compact compactUpTo at h
    obtain ⟨j, hj, rfl⟩ := List.mem_map.1 h
    have hj := List.mem_range.1 (List.mem_filter.1 hj).1
    rw [get_pos hj]
    exact List.getElem_mem hj
  · intro h
    obtain ⟨j, hj, rfl⟩ := List.mem_iff_getElem.1 h
    have main : ∀ m, ∀ (hm : m < zs.length), zs[m] ∈ compact zs := by
      intro m
      induction m with
      | zero =>
        intro hm
        unfold compact compactUpTo
        exact List.mem_map.2 ⟨0, List.mem_filter.2 ⟨List.mem_range.2 hm, by simp [keeps]⟩, get_pos hm⟩
      | succ m ih =>
        intro hm
        by_cases he : zs.toArray[m + 1]! = zs.toArray[m]!
        · rw [get_pos hm, get_pos (by omega)] at he
          rw [he]
          exact ih (by omega)
        · unfold compact compactUpTo
          exact List.mem_map.2 ⟨m + 1, List.mem_filter.2 ⟨List.mem_range.2 hm, keeps_pos (by simpa using he)⟩, get_pos hm⟩
    exact main j hj
theorem sorted_merge (zs : List Int) : (zs.mergeSort fun x y => decide (x ≤ y)).Pairwise (· ≤ ·) := by
  have := List.pairwise_mergeSort (le := fun x y : Int => decide (x ≤ y)) (by intro a b c; simp; omega) (by intro a b; simp; omega) zs
  exact this.imp (fun h => by simpa using h)

theorem hits_iff (l : List Inst) (t : Int) : hitsTo l t = true ↔ t ∈ places l := by
  unfold hitsTo places
  simp only [List.any_eq_true, Bool.and_eq_true, decide_eq_true_eq, List.mem_map, List.mem_filter]
  constructor
  · rintro ⟨x, h1, h2, h3⟩
    exact ⟨x, ⟨h1, h2⟩, h3⟩
  · rintro ⟨x, ⟨h1, h2⟩, h3⟩
    exact ⟨x, h1, h2, h3⟩
theorem good_jump {x : Inst} {n : Int} (hj : jumps x = true) (hg : good x n = true) : 0 ≤ x.2.1 ∧ x.2.1 ≤ n := by
  unfold jumps at hj
  have h : x.1 = 19 ∨ x.1 = 20 := by simpa using hj
  unfold good at hg
  rw [if_neg (by omega), if_neg (by omega), if_pos h] at hg
  simp only [Bool.and_eq_true, decide_eq_true_eq] at hg
  exact hg.2
/-- What is gone through, and what is sorted. -/
theorem seen_all {l : List Inst} (h : bad l < 0) : seen l (l.length + 1) = targets l := by
  unfold targets
  rw [if_pos h]
  apply rising_eq
  · unfold seen
    rw [List.pairwise_filter, List.pairwise_map]
    rw [List.pairwise_iff_getElem]
    intro i j hi hj hij _ _
    simp only [List.getElem_range]
    omega
  · exact compact_rising (sorted_merge _)
  · intro x
    rw [compact_mem, (List.mergeSort_perm _ _).mem_iff]
    unfold seen
    rw [List.mem_filter, hits_iff]
    constructor
    · exact fun h => h.2
    · intro hx
      refine ⟨?_, hx⟩
      have h2 := hx
      unfold places at h2
      obtain ⟨y, hy, rfl⟩ := List.mem_map.1 h2
      obtain ⟨hy1, hy2⟩ := List.mem_filter.1 hy
      obtain ⟨i, hi, rfl⟩ := List.mem_iff_getElem.1 hy1
      have hF := ((may_iff l).1 h).2 i hi
      have e : l.getD i zInst = l[i] := by simp [List.getD, List.getElem?_eq_getElem hi]
      rw [e] at hF
      have := good_jump hy2 hF
      exact List.mem_map.2 ⟨(l[i]).2.1.toNat, List.mem_range.2 (by omega), by omega⟩
end Go.Proofs.Ytpkobobandcclaa
