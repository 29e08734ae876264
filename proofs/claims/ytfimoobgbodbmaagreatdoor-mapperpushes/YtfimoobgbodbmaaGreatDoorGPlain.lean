/- Laid together: PMath SMath JMath VMath. -/
import Derived.WalkKit
import Derived.Lib.SlicesCompact
import Derived.Lib.ItoaMem
import Derived.Lib.ParseIntBTie
/-! Which instructions may be, the first that may not, and where jumps go to: over lists, no program. -/
namespace Go.Proofs.YtfimoobgbodbmaaGreatDoor
open Go.RowKit Go.Lib
set_option linter.unusedVariables false
set_option maxRecDepth 100000

/-- An instruction: its operation, its number, its bytes. -/
abbrev Inst := Int × Int × ByteArray
def zInst : Inst := (0, 0, ⟨#[]⟩)
def jumps (x : Inst) : Bool := decide (x.1 = 19) || decide (x.1 = 20)
/-- May x be, among n? -/
def good (x : Inst) (n : Int) : Bool :=
  if x.1 = 1 then x.2.2.toList.isEmpty
  else if x.1 = 2 then decide (x.2.1 = 0) && decide ((x.2.2.size : Int) ≤ 64)
  else if x.1 = 19 ∨ x.1 = 20 then x.2.2.toList.isEmpty && (decide (0 ≤ x.2.1) && decide (x.2.1 ≤ n))
  else if x.1 = 21 ∨ x.1 = 22 then x.2.2.toList.isEmpty && (decide (0 ≤ x.2.1) && decide (x.2.1 ≤ 7))
  else (decide (0 ≤ x.1) && decide (x.1 ≤ 23)) && (x.2.2.toList.isEmpty && decide (x.2.1 = 0))

/-- The first j instructions may be, among n. -/
def Fine (l : List Inst) (n : Int) (j : Nat) : Prop := ∀ i, i < j → good (l.getD i zInst) n = true
theorem fine_zero (l : List Inst) (n : Int) : Fine l n 0 := fun i h => by omega
theorem Fine.step {l : List Inst} {n : Int} {j : Nat} (h : Fine l n j) (hg : good (l.getD j zInst) n = true) : Fine l n (j + 1) := fun i hi => by
  rcases Nat.lt_or_ge i j with h1 | h1
  · exact h i h1
  · obtain rfl : i = j := by omega
    exact hg
theorem Fine.le {l : List Inst} {n : Int} {j k : Nat} (h : Fine l n j) (hk : k ≤ j) : Fine l n k := fun i hi => h i (by omega)

/-- The first place, of those below m, at which p does not hold; m, if there is none. -/
def upto (p : Nat → Bool) : Nat → Nat
  | 0 => 0
  | m + 1 => if p (upto p m) = true ∧ upto p m = m then m + 1 else upto p m
theorem upto_spec (p : Nat → Bool) (m : Nat) : upto p m ≤ m ∧ (∀ i, i < upto p m → p i = true) ∧ (upto p m < m → p (upto p m) = false) := by
  induction m with
  | zero => exact ⟨Nat.le_refl _, fun i h => by simp [upto] at h, fun h => by simp [upto] at h⟩
  | succ m ih =>
    obtain ⟨h1, h2, h3⟩ := ih
    by_cases hc : p (upto p m) = true ∧ upto p m = m
    · have e : upto p (m + 1) = m + 1 := by simp only [upto]; rw [if_pos hc]
      rw [e]
      refine ⟨Nat.le_refl _, fun i hi => ?_, fun h => by omega⟩
      rcases Nat.lt_or_ge i m with h | h
      · exact h2 i (by omega)
      · obtain rfl : i = m := by omega
        have := hc.1
        rwa [hc.2] at this
    · have e : upto p (m + 1) = upto p m := by simp only [upto]; rw [if_neg hc]
      rw [e]
      refine ⟨by omega, h2, fun h => ?_⟩
      rcases Nat.lt_or_ge (upto p m) m with h' | h'
      · exact h3 h'
      · have : upto p m = m := by omega
        cases hp : p (upto p m) with
        | false => rfl
        | true => exact absurd ⟨hp, this⟩ hc
theorem upto_is {p : Nat → Bool} {m k : Nat} (hk : k ≤ m) (h1 : ∀ i, i < k → p i = true) (h2 : k < m → p k = false) : upto p m = k := by
  obtain ⟨a, b, c⟩ := upto_spec p m
  rcases Nat.lt_trichotomy (upto p m) k with h | h | h
  · have := h1 _ h
    rw [c (by omega)] at this
    cases this
  · exact h
  · have := b _ h
    rw [h2 (by omega)] at this
    cases this

def firstBad (l : List Inst) : Nat := upto (fun i => good (l.getD i zInst) l.length) (min l.length 40)
/-- The place of the first instruction that may not be. -/
def bad (l : List Inst) : Int := if firstBad l < min l.length 40 then (firstBad l : Int) else if 40 < l.length then 40 else -1

theorem bad_at {l : List Inst} {k : Nat} (hk : k < l.length) (h40 : k < 40) (hF : Fine l l.length k) (hb : good (l.getD k zInst) l.length = false) : bad l = (k : Int) := by
  have : firstBad l = k := upto_is (by omega) (fun i hi => hF i hi) (fun _ => hb)
  unfold bad
  rw [this, if_pos (by omega)]
theorem bad_great {l : List Inst} (h : 40 < l.length) (hF : Fine l l.length 40) : bad l = 40 := by
  have : firstBad l = 40 := upto_is (by omega) (fun i hi => hF i hi) (fun h => by omega)
  unfold bad
  rw [this, if_neg (by omega), if_pos h]
theorem bad_none {l : List Inst} (h : l.length ≤ 40) (hF : Fine l l.length l.length) : bad l = -1 := by
  have : firstBad l = l.length := upto_is (by omega) (fun i hi => hF i hi) (fun h => by omega)
  unfold bad
  rw [this, if_neg (by omega), if_neg (by omega)]
/-- What bad tells, the other way round. -/
theorem bad_cases (l : List Inst) : (∃ k : Nat, bad l = (k : Int) ∧ k < l.length ∧ k < 40 ∧ Fine l l.length k ∧ good (l.getD k zInst) l.length = false) ∨ (bad l = 40 ∧ 40 < l.length ∧ Fine l l.length 40) ∨ (bad l = -1 ∧ l.length ≤ 40 ∧ Fine l l.length l.length) := by
  obtain ⟨h1, h2, h3⟩ := upto_spec (fun i => good (l.getD i zInst) l.length) (min l.length 40)
  by_cases hc : firstBad l < min l.length 40
  · refine .inl ⟨firstBad l, ?_, by omega, by omega, h2, h3 hc⟩
    unfold bad
    rw [if_pos hc]
  · have e : firstBad l = min l.length 40 := by
      have : firstBad l ≤ min l.length 40 := h1
      omega
    have hf : Fine l l.length (min l.length 40) := fun i hi => h2 i (by show i < firstBad l; omega)
    by_cases h40 : 40 < l.length
    · rw [Nat.min_eq_right (by omega)] at hf
      exact .inr (.inl ⟨bad_great h40 hf, h40, hf⟩)
    · rw [Nat.min_eq_left (by omega)] at hf
      exact .inr (.inr ⟨bad_none (by omega) hf, by omega, hf⟩)
theorem bad_bd (l : List Inst) : -1 ≤ bad l ∧ bad l ≤ 40 := by
  rcases bad_cases l with ⟨k, h, _, h2, _⟩ | ⟨h, _⟩ | ⟨h, _⟩ <;> rw [h] <;> omega
theorem may_iff (l : List Inst) : bad l < 0 ↔ l.length ≤ 40 ∧ Fine l l.length l.length := by
  constructor
  · intro h
    rcases bad_cases l with ⟨k, h', _⟩ | ⟨h', _⟩ | ⟨_, h1, h2⟩
    · omega
    · omega
    · exact ⟨h1, h2⟩
  · intro ⟨h1, h2⟩
    rw [bad_none h1 h2]
    omega

/-! ### Where jumps go to -/
def places (l : List Inst) : List Int := (l.filter jumps).map (·.2.1)
/-- Does an instruction of the first i go to t? -/
def hitsTo (l : List Inst) (t : Int) : Bool := l.any (fun x => jumps x && decide (x.2.1 = t))
/-- Rising, each once. -/
def targets (l : List Inst) : List Int := if bad l < 0 then compact ((places l).mergeSort fun x y => decide (x ≤ y)) else []
/-- The places below t, as they are gone through. -/
def seen (l : List Inst) (t : Nat) : List Int := (((List.range t).map (fun k : Nat => (k : Int))).filter (hitsTo l))

theorem seen_succ (l : List Inst) (t : Nat) : seen l (t + 1) = seen l t ++ (if hitsTo l t = true then [(t : Int)] else []) := by
  unfold seen
  rw [List.range_succ, List.map_append, List.filter_append]
  congr 1
  simp only [List.map_cons, List.map_nil, List.filter_cons, List.filter_nil]

/-- Two rising lists of the same numbers are one. -/
theorem rising_eq : ∀ (a b : List Int), a.Pairwise (· < ·) → b.Pairwise (· < ·) → (∀ x, x ∈ a ↔ x ∈ b) → a = b
  | [], [], _, _, _ => rfl
  | [], y :: ys, _, _, h => by have := (h y).2 (by simp); simp at this
  | x :: xs, [], _, _, h => by have := (h x).1 (by simp); simp at this
  | x :: xs, y :: ys, ha, hb, h => by
    have ha' := List.pairwise_cons.1 ha
    have hb' := List.pairwise_cons.1 hb
    have hxy : x = y := by
      have h1 : x ∈ y :: ys := (h x).1 (by simp)
      have h2 : y ∈ x :: xs := (h y).2 (by simp)
      rcases List.mem_cons.1 h1 with e | e
      · exact e
      · rcases List.mem_cons.1 h2 with f | f
        · exact f.symm
        · have := ha'.1 y f
          have := hb'.1 x e
          omega
    subst hxy
    congr 1
    apply rising_eq xs ys ha'.2 hb'.2
    intro z
    constructor
    · intro hz
      have h1 := ha'.1 z hz
      rcases List.mem_cons.1 ((h z).1 (List.mem_cons_of_mem _ hz)) with e | e
      · omega
      · exact e
    · intro hz
      have h1 := hb'.1 z hz
      rcases List.mem_cons.1 ((h z).2 (List.mem_cons_of_mem _ hz)) with e | e
      · omega
      · exact e

theorem get_pos {zs : List Int} {j : Nat} (h : j < zs.length) : zs.toArray[j]! = zs[j] := by
  simp [getElem!_pos, h]
theorem sorted_le {zs : List Int} (h : zs.Pairwise (· ≤ ·)) {i j : Nat} (hij : i ≤ j) (hj : j < zs.length) : zs.toArray[i]! ≤ zs.toArray[j]! := by
  rw [get_pos hj, get_pos (by omega)]
  rcases Nat.lt_or_ge i j with h1 | h1
  · exact List.pairwise_iff_getElem.1 h i j (by omega) hj h1
  · obtain rfl : i = j := by omega
    exact Int.le_refl _
theorem compact_rising {zs : List Int} (h : zs.Pairwise (· ≤ ·)) : (compact zs).Pairwise (· < ·) := by
  unfold compact compactUpTo
  rw [List.pairwise_map, List.pairwise_filter]
  rw [List.pairwise_iff_getElem]
  intro i j hi hj hij hki hkj
  simp only [List.length_range] at hi hj
  simp only [List.getElem_range] at *
  have h1 := sorted_le h (i := i) (j := j - 1) (by omega) (by omega)
  have h2 := sorted_le h (i := j - 1) (j := j) (by omega) hj
  have h3 : zs.toArray[j]! ≠ zs.toArray[j - 1]! := by
    have : decide (j = 0 ∨ zs.toArray[j]! ≠ zs.toArray[j - 1]!) = true := hkj
    rcases of_decide_eq_true this with e | e
    · omega
    · exact e
  omega
theorem compact_mem {zs : List Int} (x : Int) : x ∈ compact zs ↔ x ∈ zs := by
  constructor
  · intro h
    unfold compact compactUpTo at h
    obtain ⟨j, hj, rfl⟩ := List.mem_map.1 h
    have hj := List.mem_range.1 (List.mem_filter.1 hj).1
    rw [get_pos hj]
    exact List.getElem_mem hj
  · intro h
    obtain ⟨j, hj, rfl⟩ := List.mem_iff_getElem.1 h
    have main : ∀ m, ∀ (hm : m < zs.length), zs[m] ∈ compact zs := by
      intro m
      induction m with
      | zero =>
        intro hm
        unfold compact compactUpTo
        exact List.mem_map.2 ⟨0, List.mem_filter.2 ⟨List.mem_range.2 hm, by simp [keeps]⟩, get_pos hm⟩
      | succ m ih =>
        intro hm
        by_cases he : zs.toArray[m + 1]! = zs.toArray[m]!
        · rw [get_pos hm, get_pos (by omega)] at he
          rw [he]
          exact ih (by omega)
        · unfold compact compactUpTo
          exact List.mem_map.2 ⟨m + 1, List.mem_filter.2 ⟨List.mem_range.2 hm, keeps_pos (by simpa using he)⟩, get_pos hm⟩
    exact main j hj
theorem sorted_merge (zs : List Int) : (zs.mergeSort fun x y => decide (x ≤ y)).Pairwise (· ≤ ·) := by
  have := List.pairwise_mergeSort (le := fun x y : Int => decide (x ≤ y)) (by intro a b c; simp; omega) (by intro a b; simp; omega) zs
  exact this.imp (fun h => by simpa using h)

theorem hits_iff (l : List Inst) (t : Int) : hitsTo l t = true ↔ t ∈ places l := by
  unfold hitsTo places
  simp only [List.any_eq_true, Bool.and_eq_true, decide_eq_true_eq, List.mem_map, List.mem_filter]
  constructor
  · rintro ⟨x, h1, h2, h3⟩
    exact ⟨x, ⟨h1, h2⟩, h3⟩
  · rintro ⟨x, ⟨h1, h2⟩, h3⟩
    exact ⟨x, h1, h2, h3⟩
theorem good_jump {x : Inst} {n : Int} (hj : jumps x = true) (hg : good x n = true) : 0 ≤ x.2.1 ∧ x.2.1 ≤ n := by
  unfold jumps at hj
  have h : x.1 = 19 ∨ x.1 = 20 := by simpa using hj
  unfold good at hg
  rw [if_neg (by omega), if_neg (by omega), if_pos h] at hg
  simp only [Bool.and_eq_true, decide_eq_true_eq] at hg
  exact hg.2
/-- What is gone through, and what is sorted. -/
theorem seen_all {l : List Inst} (h : bad l < 0) : seen l (l.length + 1) = targets l := by
  unfold targets
  rw [if_pos h]
  apply rising_eq
  · unfold seen
    rw [List.pairwise_filter, List.pairwise_map]
    rw [List.pairwise_iff_getElem]
    intro i j hi hj hij _ _
    simp only [List.getElem_range]
    omega
  · exact compact_rising (sorted_merge _)
  · intro x
    rw [compact_mem, (List.mergeSort_perm _ _).mem_iff]
    unfold seen
    rw [List.mem_filter, hits_iff]
    constructor
    · exact fun h => h.2
    · intro hx
      refine ⟨?_, hx⟩
      have h2 := hx
      unfold places at h2
      obtain ⟨y, hy, rfl⟩ := List.mem_map.1 h2
      obtain ⟨hy1, hy2⟩ := List.mem_filter.1 hy
      obtain ⟨i, hi, rfl⟩ := List.mem_iff_getElem.1 hy1
      have hF := ((may_iff l).1 h).2 i hi
      have e : l.getD i zInst = l[i] := by simp [List.getD, List.getElem?_eq_getElem hi]
      rw [e] at hF
      have := good_jump hy2 hF
      exact List.mem_map.2 ⟨(l[i]).2.1.toNat, List.mem_range.2 (by omega), by omega⟩
end Go.Proofs.YtfimoobgbodbmaaGreatDoor
/-! Pairs in order, over lists: keys by bytes, a stable sort, what is told apart by it. No program in this text. -/
namespace Go.Proofs.YtfimoobgbodbmaaGreatDoor
set_option linter.unusedVariables false
set_option maxRecDepth 100000

/-! ### Bytes -/
theorem lessB_irrefl : ∀ x : List UInt8, Op.bytesLess x x = false
  | [] => rfl
  | a :: x => by simp [Op.bytesLess, lessB_irrefl x]
theorem lessB_trans : ∀ x y z : List UInt8, Op.bytesLess x y = true → Op.bytesLess y z = true → Op.bytesLess x z = true
  | _, [], _, h, _ => by cases ‹List UInt8› <;> simp [Op.bytesLess] at h
  | _, _ :: _, [], _, h => by simp [Op.bytesLess] at h
  | [], _ :: _, _ :: _, _, _ => rfl
  | a :: x, b :: y, c :: z, h, k => by
    simp only [Op.bytesLess, Bool.or_eq_true, Bool.and_eq_true, decide_eq_true_eq, beq_iff_eq] at h k ⊢
    rcases h with h | ⟨rfl, h⟩
    · rcases k with k | ⟨rfl, k⟩
      · exact .inl (UInt8.lt_trans h k)
      · exact .inl h
    · rcases k with k | ⟨rfl, k⟩
      · exact .inl k
      · exact .inr ⟨rfl, lessB_trans x y z h k⟩
theorem lessB_total : ∀ x y : List UInt8, Op.bytesLess x y = false → Op.bytesLess y x = false → x = y
  | [], [], _, _ => rfl
  | [], _ :: _, h, _ => by simp [Op.bytesLess] at h
  | _ :: _, [], _, h => by simp [Op.bytesLess] at h
  | a :: x, b :: y, h, k => by
    simp only [Op.bytesLess, Bool.or_eq_false_iff, Bool.and_eq_false_iff, decide_eq_false_iff_not] at h k
    have hab : a = b := by
      have h1 := UInt8.not_lt.1 h.1
      have h2 := UInt8.not_lt.1 k.1
      exact UInt8.le_antisymm h2 h1
    subst hab
    have h2 : Op.bytesLess x y = false := by simpa using h.2
    have k2 : Op.bytesLess y x = false := by simpa using k.2
    rw [lessB_total x y h2 k2]

/-! ### Keys -/
def kLt (a b : ByteArray) : Bool := Op.bytesLess a.data.toList b.data.toList
theorem kLt_irrefl (a : ByteArray) : kLt a a = false := lessB_irrefl _
theorem kLt_trans {a b c : ByteArray} (h : kLt a b = true) (k : kLt b c = true) : kLt a c = true := lessB_trans _ _ _ h k
theorem kLt_total {a b : ByteArray} (h : kLt a b = false) (k : kLt b a = false) : a = b := by
  have := lessB_total _ _ h k
  cases a; cases b
  simp only [ByteArray.mk.injEq]
  exact Array.toList_inj.1 this
theorem kLt_asymm {a b : ByteArray} (h : kLt a b = true) : kLt b a = false := by
  cases k : kLt b a with
  | false => rfl
  | true => have := kLt_trans h k; rw [kLt_irrefl] at this; cases this
/-- Not below, and not below, is not below. -/
theorem kLe_trans {a b c : ByteArray} (h : kLt b a = false) (k : kLt c b = false) : kLt c a = false := by
  cases e : kLt c a with
  | false => rfl
  | true =>
    cases hab : kLt a b with
    | true => have := kLt_trans e hab; rw [k] at this; cases this
    | false =>
      obtain rfl := kLt_total hab h
      rw [k] at e
      cases e
theorem kLt_of_le_ne {a b : ByteArray} (h : kLt b a = false) (hn : a ≠ b) : kLt a b = true := by
  cases e : kLt a b with
  | true => rfl
  | false => exact absurd (kLt_total e h) hn

abbrev KV := ByteArray × ByteArray
/-- No key is below the one ahead. -/
def Rising (l : List KV) : Prop := l.Pairwise fun x y => kLt y.1 x.1 = false
/-- Those of a key, in their order. -/
def those (k : ByteArray) (l : List KV) : List KV := l.filter fun x => decide (x.1 = k)
theorem those_cons (k : ByteArray) (x : KV) (l : List KV) : those k (x :: l) = if x.1 = k then x :: those k l else those k l := by
  unfold those
  by_cases h : x.1 = k
  · rw [if_pos h, List.filter_cons_of_pos (by simpa using h)]
  · rw [if_neg h, List.filter_cons_of_neg (by simpa using h)]
theorem those_append (k : ByteArray) (a b : List KV) : those k (a ++ b) = those k a ++ those k b := by simp [those]
theorem mem_those {k : ByteArray} {x : KV} {l : List KV} : x ∈ those k l ↔ x ∈ l ∧ x.1 = k := by simp [those]
theorem those_nil_of {k : ByteArray} {l : List KV} (h : ∀ x ∈ l, x.1 ≠ k) : those k l = [] := by
  unfold those
  rw [List.filter_eq_nil_iff]
  intro x hx
  simpa using h x hx

/-- Rising lists that have the same of each key are the same. -/
theorem rising_unique : ∀ (a b : List KV), Rising a → Rising b → (∀ k, those k a = those k b) → a = b
  | [], [], _, _, _ => rfl
  | [], y :: b, _, _, h => by
    have := h y.1
    rw [those_cons, if_pos rfl] at this
    cases this
  | x :: a, [], _, _, h => by
    have := h x.1
    rw [those_cons, if_pos rfl] at this
    cases this
  | x :: a, y :: b, ha, hb, h => by
    have ha' := List.pairwise_cons.1 ha
    have hb' := List.pairwise_cons.1 hb
    have hx := h x.1
    have hy := h y.1
    have hk : x.1 = y.1 := by
      have m1 : x ∈ those x.1 (y :: b) := by rw [← hx]; exact mem_those.2 ⟨List.mem_cons_self, rfl⟩
      have m2 : y ∈ those y.1 (x :: a) := by rw [hy]; exact mem_those.2 ⟨List.mem_cons_self, rfl⟩
      have l1 : kLt x.1 y.1 = false := by
        rcases List.mem_cons.1 (mem_those.1 m1).1 with e | e
        · rw [e]; exact kLt_irrefl _
        · exact hb'.1 x e
      have l2 : kLt y.1 x.1 = false := by
        rcases List.mem_cons.1 (mem_those.1 m2).1 with e | e
        · rw [e]; exact kLt_irrefl _
        · exact ha'.1 y e
      exact kLt_total l1 l2
    rw [those_cons, if_pos rfl, those_cons, if_pos hk.symm] at hx
    have hxy := (List.cons.inj hx).1
    subst hxy
    rw [rising_unique a b ha'.2 hb'.2 (fun k => ?_)]
    have := h k
    rw [those_cons, those_cons] at this
    by_cases e : x.1 = k
    · rw [if_pos e, if_pos e] at this
      exact (List.cons.inj this).2
    · rw [if_neg e, if_neg e] at this
      exact this

/-! ### A stable sort -/
def ins (x : KV) : List KV → List KV
  | [] => [x]
  | y :: l => if kLt x.1 y.1 = true then x :: y :: l else y :: ins x l
def srt (l : List KV) : List KV := l.foldl (fun acc x => ins x acc) []
theorem mem_ins {x z : KV} : ∀ {l : List KV}, z ∈ ins x l ↔ z = x ∨ z ∈ l
  | [] => by simp [ins]
  | y :: l => by
    unfold ins
    split
    · simp
    · rw [List.mem_cons, mem_ins, List.mem_cons]
      constructor
      · rintro (h | h | h)
        · exact .inr (.inl h)
        · exact .inl h
        · exact .inr (.inr h)
      · rintro (h | h | h)
        · exact .inr (.inl h)
        · exact .inl h
        · exact .inr (.inr h)
theorem rising_ins (x : KV) : ∀ {l : List KV}, Rising l → Rising (ins x l)
  | [], _ => List.pairwise_singleton _ _
  | y :: l, h => by
    have h' := List.pairwise_cons.1 h
    unfold ins
    split
    · rename_i hlt
      refine List.pairwise_cons.2 ⟨fun z hz => ?_, h⟩
      rcases List.mem_cons.1 hz with rfl | hz
      · exact kLt_asymm hlt
      · exact kLe_trans (kLt_asymm hlt) (h'.1 z hz)
    · rename_i hlt
      refine List.pairwise_cons.2 ⟨fun z hz => ?_, rising_ins x h'.2⟩
      rcases mem_ins.1 hz with rfl | hz
      · simpa using hlt
      · exact h'.1 z hz
theorem those_ins (k : ByteArray) (x : KV) : ∀ {l : List KV}, Rising l → those k (ins x l) = those k l ++ those k [x]
  | [], _ => by simp [ins, those]
  | y :: l, h => by
    have h' := List.pairwise_cons.1 h
    unfold ins
    split
    · rename_i hlt
      rw [those_cons k x]
      by_cases e : x.1 = k
      · have hn : those k (y :: l) = [] := those_nil_of (fun z hz ez => by
          have : kLt x.1 z.1 = true := by
            rcases List.mem_cons.1 hz with rfl | hz
            · exact hlt
            · cases e2 : kLt x.1 z.1 with
              | true => rfl
              | false =>
                have := kLe_trans (h'.1 z hz) e2
                rw [this] at hlt
                cases hlt
          rw [ez, e, kLt_irrefl] at this
          cases this)
        rw [if_pos e, hn, those_cons, if_pos e]
        rfl
      · rw [if_neg e, those_cons k x, if_neg e]
        simp [those]
    · rw [those_cons, those_ins k x h'.2, those_cons k y l]
      by_cases e : y.1 = k
      · rw [if_pos e, if_pos e]; rfl
      · rw [if_neg e, if_neg e]
theorem srt_acc : ∀ (l acc : List KV), Rising acc → Rising (l.foldl (fun acc x => ins x acc) acc) ∧ ∀ k, those k (l.foldl (fun acc x => ins x acc) acc) = those k acc ++ those k l
  | [], acc, h => ⟨h, fun k => by simp [those]⟩
  | x :: l, acc, h => by
    obtain ⟨h1, h2⟩ := srt_acc l (ins x acc) (rising_ins x h)
    refine ⟨h1, fun k => ?_⟩
    rw [List.foldl_cons, h2 k, those_ins k x h, List.append_assoc]
    congr 1
    rw [← those_append]
    rfl
theorem rising_srt (l : List KV) : Rising (srt l) := (srt_acc l [] List.Pairwise.nil).1
theorem those_srt (k : ByteArray) (l : List KV) : those k (srt l) = those k l := (srt_acc l [] List.Pairwise.nil).2 k
/-- What is rising, and has of each key what l has, is l in order. -/
theorem srt_eq {l a : List KV} (h : Rising a) (hk : ∀ k, those k a = those k l) : a = srt l := rising_unique _ _ h (rising_srt l) (fun k => by rw [hk, those_srt])
theorem srt_self {l : List KV} (h : Rising l) : srt l = l := (srt_eq h fun _ => rfl).symm
theorem srt_srt (l : List KV) : srt (srt l) = srt l := srt_self (rising_srt l)
theorem srt_parts (a b : List KV) : srt (srt a ++ srt b) = srt (a ++ b) :=
  srt_eq (rising_srt _) fun k => by rw [those_srt, those_append, those_append, those_srt, those_srt]
theorem srt_rising_iff (l : List KV) : srt l = l ↔ Rising l := ⟨fun h => h ▸ rising_srt l, srt_self⟩
theorem length_ins (x : KV) : ∀ l : List KV, (ins x l).length = l.length + 1
  | [] => rfl
  | y :: l => by
    unfold ins
    split
    · rfl
    · simp [length_ins x l]
theorem length_srt (l : List KV) : (srt l).length = l.length := by
  have : ∀ (l acc : List KV), (l.foldl (fun acc x => ins x acc) acc).length = acc.length + l.length := by
    intro l
    induction l with
    | nil => intro acc; simp
    | cons x l ih => intro acc; rw [List.foldl_cons, ih, length_ins, List.length_cons]; omega
  have h := this l []
  rw [List.length_nil, Nat.zero_add] at h
  exact h
theorem mem_srt {x : KV} {l : List KV} : x ∈ srt l ↔ x ∈ l := by
  have h : ∀ m : List KV, x ∈ m ↔ x ∈ those x.1 m := fun m => by rw [mem_those]; simp
  rw [h (srt l), h l, those_srt]

/-! ### Keys, each once, rising -/
def RisingK (l : List ByteArray) : Prop := l.Pairwise fun a b => kLt a b = true
def insK (k : ByteArray) : List ByteArray → List ByteArray
  | [] => [k]
  | y :: l => if kLt y k = true then y :: insK k l else if y = k then y :: l else k :: y :: l
def keysOf (l : List KV) : List ByteArray := l.foldl (fun acc x => insK x.1 acc) []
theorem mem_insK {k z : ByteArray} : ∀ {l : List ByteArray}, z ∈ insK k l ↔ z = k ∨ z ∈ l
  | [] => by simp [insK]
  | y :: l => by
    unfold insK
    split
    · rw [List.mem_cons, mem_insK, List.mem_cons]
      constructor
      · rintro (h | h | h)
        · exact .inr (.inl h)
        · exact .inl h
        · exact .inr (.inr h)
      · rintro (h | h | h)
        · exact .inr (.inl h)
        · exact .inl h
        · exact .inr (.inr h)
    · split
      · rename_i e
        subst e
        simp
      · simp
theorem rising_insK (k : ByteArray) : ∀ {l : List ByteArray}, RisingK l → RisingK (insK k l)
  | [], _ => List.pairwise_singleton _ _
  | y :: l, h => by
    have h' := List.pairwise_cons.1 h
    unfold insK
    split
    · rename_i hlt
      refine List.pairwise_cons.2 ⟨fun z hz => ?_, rising_insK k h'.2⟩
      rcases mem_insK.1 hz with rfl | hz
      · exact hlt
      · exact h'.1 z hz
    · rename_i hlt
      split
      · exact h
      · rename_i hne
        have hk : kLt k y = true := kLt_of_le_ne (by simpa using hlt) (fun e => hne e.symm)
        refine List.pairwise_cons.2 ⟨fun z hz => ?_, h⟩
        rcases List.mem_cons.1 hz with rfl | hz
        · exact hk
        · exact kLt_trans hk (h'.1 z hz)
theorem keys_acc : ∀ (l : List KV) (acc : List ByteArray), RisingK acc → RisingK (l.foldl (fun acc x => insK x.1 acc) acc) ∧ ∀ k, k ∈ l.foldl (fun acc x => insK x.1 acc) acc ↔ k ∈ acc ∨ ∃ x ∈ l, x.1 = k
  | [], acc, h => ⟨h, fun k => by simp⟩
  | x :: l, acc, h => by
    obtain ⟨h1, h2⟩ := keys_acc l (insK x.1 acc) (rising_insK x.1 h)
    refine ⟨h1, fun k => ?_⟩
    rw [List.foldl_cons, h2 k, mem_insK]
    constructor
    · rintro ((h | h) | ⟨y, hy, e⟩)
      · exact .inr ⟨x, List.mem_cons_self, h.symm⟩
      · exact .inl h
      · exact .inr ⟨y, List.mem_cons_of_mem _ hy, e⟩
    · rintro (h | ⟨y, hy, e⟩)
      · exact .inl (.inr h)
      · rcases List.mem_cons.1 hy with rfl | hy
        · exact .inl (.inl e.symm)
        · exact .inr ⟨y, hy, e⟩
theorem rising_keys (l : List KV) : RisingK (keysOf l) := (keys_acc l [] List.Pairwise.nil).1
theorem mem_keys {l : List KV} {k : ByteArray} : k ∈ keysOf l ↔ ∃ x ∈ l, x.1 = k := by
  rw [show keysOf l = l.foldl (fun acc x => insK x.1 acc) [] from rfl, (keys_acc l [] List.Pairwise.nil).2 k]
  simp
theorem risingK_unique : ∀ (a b : List ByteArray), RisingK a → RisingK b → (∀ k, k ∈ a ↔ k ∈ b) → a = b
  | [], [], _, _, _ => rfl
  | [], y :: b, _, _, h => by have := (h y).2 List.mem_cons_self; cases this
  | x :: a, [], _, _, h => by have := (h x).1 List.mem_cons_self; cases this
  | x :: a, y :: b, ha, hb, h => by
    have ha' := List.pairwise_cons.1 ha
    have hb' := List.pairwise_cons.1 hb
    have e : x = y := by
      rcases List.mem_cons.1 ((h x).1 List.mem_cons_self) with e | e
      · exact e
      · rcases List.mem_cons.1 ((h y).2 List.mem_cons_self) with e2 | e2
        · exact e2.symm
        · have := kLt_trans (hb'.1 x e) (ha'.1 y e2)
          rw [kLt_irrefl] at this
          cases this
    subst e
    rw [risingK_unique a b ha'.2 hb'.2 fun k => ?_]
    constructor
    · intro hk
      rcases List.mem_cons.1 ((h k).1 (List.mem_cons_of_mem _ hk)) with e | e
      · subst e
        have := ha'.1 k hk
        rw [kLt_irrefl] at this
        cases this
      · exact e
    · intro hk
      rcases List.mem_cons.1 ((h k).2 (List.mem_cons_of_mem _ hk)) with e | e
      · subst e
        have := hb'.1 k hk
        rw [kLt_irrefl] at this
        cases this
      · exact e
/-- What rises, and has just l's keys, is l's keys. -/
theorem keys_eq {l : List KV} {a : List ByteArray} (h : RisingK a) (hk : ∀ k, k ∈ a ↔ ∃ x ∈ l, x.1 = k) : a = keysOf l := risingK_unique _ _ h (rising_keys l) fun k => by rw [hk, mem_keys]

/-! ### The values of a key -/
def valsOf (k : ByteArray) (l : List KV) : List ByteArray := (those k l).map (·.2)
theorem valsOf_append (k : ByteArray) (a b : List KV) : valsOf k (a ++ b) = valsOf k a ++ valsOf k b := by simp [valsOf, those_append]
theorem valsOf_srt (k : ByteArray) (l : List KV) : valsOf k (srt l) = valsOf k l := by rw [valsOf, those_srt]; rfl
theorem those_vals (k : ByteArray) (l : List KV) : (valsOf k l).map (fun v => (k, v)) = those k l := by
  unfold valsOf
  rw [List.map_map]
  conv => rhs; rw [← List.map_id (those k l)]
  apply List.map_congr_left
  intro x hx
  have := (mem_those.1 hx).2
  subst this
  rfl
/-- In order: key by key, the values of each in their order. -/
def byKeys (ks : List ByteArray) (l : List KV) : List KV := ks.flatMap fun k => those k l
theorem rising_byKeys (l : List KV) : ∀ {ks : List ByteArray}, RisingK ks → Rising (byKeys ks l)
  | [], _ => List.Pairwise.nil
  | k :: ks, h => by
    have h' := List.pairwise_cons.1 h
    show Rising (those k l ++ byKeys ks l)
    refine List.pairwise_append.2 ⟨?_, rising_byKeys l h'.2, ?_⟩
    · refine List.Pairwise.imp_of_mem (R := fun _ _ => True) (fun {a b} ha hb _ => ?_) (List.pairwise_of_forall (fun _ _ => trivial))
      rw [(mem_those.1 ha).2, (mem_those.1 hb).2]
      exact kLt_irrefl _
    · intro x hx y hy
      obtain ⟨k2, hk2, hy2⟩ := List.mem_flatMap.1 hy
      rw [(mem_those.1 hx).2, (mem_those.1 hy2).2]
      exact kLt_asymm (h'.1 k2 hk2)
theorem those_those (k j : ByteArray) (l : List KV) : those k (those j l) = if j = k then those k l else [] := by
  by_cases e : j = k
  · subst e
    rw [if_pos rfl]
    simp [those, List.filter_filter]
  · rw [if_neg e]
    exact those_nil_of fun x hx => by rw [(mem_those.1 hx).2]; exact e
theorem those_byKeys (k : ByteArray) (l : List KV) : ∀ {ks : List ByteArray}, RisingK ks → (k ∈ ks → those k (byKeys ks l) = those k l) ∧ (k ∉ ks → those k (byKeys ks l) = [])
  | [], _ => ⟨fun h => absurd h (by simp), fun _ => rfl⟩
  | j :: ks, h => by
    have h' := List.pairwise_cons.1 h
    obtain ⟨i1, i2⟩ := those_byKeys k l h'.2
    have hs : those k (byKeys (j :: ks) l) = those k (those j l) ++ those k (byKeys ks l) := those_append k _ _
    rw [hs, those_those]
    by_cases e : j = k
    · subst e
      have hn : j ∉ ks := fun hm => by have := h'.1 j hm; rw [kLt_irrefl] at this; cases this
      refine ⟨fun _ => by rw [if_pos rfl, i2 hn, List.append_nil], fun hm => absurd List.mem_cons_self hm⟩
    · rw [if_neg e, List.nil_append]
      refine ⟨fun hm => ?_, fun hm => i2 fun h => hm (List.mem_cons_of_mem _ h)⟩
      rcases List.mem_cons.1 hm with e2 | e2
      · exact absurd e2.symm e
      · exact i1 e2
theorem byKeys_srt (l : List KV) : byKeys (keysOf l) l = srt l :=
  srt_eq (rising_byKeys l (rising_keys l)) fun k => by
    obtain ⟨i1, i2⟩ := those_byKeys k l (rising_keys l)
    by_cases h : k ∈ keysOf l
    · exact i1 h
    · rw [i2 h]
      exact (those_nil_of fun x hx e => h (mem_keys.2 ⟨x, hx, e⟩)).symm
end Go.Proofs.YtfimoobgbodbmaaGreatDoor
/-! Jobs and configurations as plain data: which may be, who keeps a part, whose turn it is. No program in this text. -/
namespace Go.Proofs.YtfimoobgbodbmaaGreatDoor
set_option linter.unusedVariables false
set_option maxRecDepth 100000

structure JobV where
  splits : List (List KV)
  parts : Int
  mp : List Inst
  cb : List Inst
  rd : List Inst
  chunk : Int
  window : Int
  fuel : Int
  marks : List Int
structure CfgV where
  job : JobV
  workers : Int
  tries : Int
  timeout : Int
def inI (n lo hi : Int) : Bool := decide (lo ≤ n) && decide (n ≤ hi)
theorem inI_iff {n lo hi : Int} : inI n lo hi = true ↔ lo ≤ n ∧ n ≤ hi := by simp [inI]
/-- A pair that may be; pairs that may be. -/
def okJ (x : KV) : Bool := decide (x.1.size ≤ 16) && decide (x.2.size ≤ 64)
def splitJ (l : List KV) : Bool := decide (l.length ≤ 8) && l.all okJ
/-- Rising, each once. -/
def risesI : List Int → Bool
  | [] => true
  | [_] => true
  | a :: b :: l => decide (a < b) && risesI (b :: l)
def marksJ (n : Int) (ms : List Int) : Bool := ms.all (fun m => inI m 1 n) && risesI ms
/-- The first k marks are well. -/
def MarksTo (n : Int) (ms : List Int) (k : Nat) : Prop := ∀ (i : Nat) (x : Int), i < k → ms[i]? = some x → inI x 1 n = true ∧ ∀ y, 0 < i → ms[i - 1]? = some y → y < x
theorem rises_iff : ∀ (ms : List Int), risesI ms = true ↔ ∀ (i : Nat) (x y : Int), ms[i]? = some y → ms[i + 1]? = some x → y < x
  | [] => by simp [risesI]
  | [a] => by simp [risesI]
  | a :: b :: l => by
    unfold risesI
    rw [Bool.and_eq_true, decide_eq_true_eq, rises_iff (b :: l)]
    constructor
    · rintro ⟨h1, h2⟩ i x y hy hx
      cases i with
      | zero =>
        simp at hx hy
        omega
      | succ i => exact h2 i x y (by simpa using hy) (by simpa using hx)
    · intro h
      exact ⟨h 0 b a rfl rfl, fun i x y hy hx => h (i + 1) x y (by simpa using hy) (by simpa using hx)⟩
theorem marksJ_iff (n : Int) (ms : List Int) : marksJ n ms = true ↔ MarksTo n ms ms.length := by
  unfold marksJ MarksTo
  rw [Bool.and_eq_true, List.all_eq_true, rises_iff]
  constructor
  · rintro ⟨h1, h2⟩ i x hi hx
    refine ⟨h1 x (List.mem_of_getElem? hx), fun y h0 hy => ?_⟩
    exact h2 (i - 1) x y hy (by rw [show i - 1 + 1 = i by omega]; exact hx)
  · intro h
    refine ⟨fun x hx => ?_, fun i x y hy hx => ?_⟩
    · obtain ⟨i, hi, rfl⟩ := List.getElem_of_mem hx
      exact (h i _ hi (List.getElem?_eq_getElem hi)).1
    · exact (h (i + 1) x (List.getElem?_eq_some_iff.1 hx).1 hx).2 y (by omega) (by simpa using hy)
theorem MarksTo.zero (n : Int) (ms : List Int) : MarksTo n ms 0 := fun i x h => by omega
theorem MarksTo.step {n : Int} {ms : List Int} {k : Nat} {x : Int} (h : MarksTo n ms k) (hx : ms[k]? = some x) (h1 : inI x 1 n = true) (h2 : ∀ y, 0 < k → ms[k - 1]? = some y → y < x) : MarksTo n ms (k + 1) := by
  intro i z hi hz
  rcases Nat.lt_or_ge i k with h3 | h3
  · exact h i z h3 hz
  · obtain rfl : i = k := by omega
    rw [hx] at hz
    cases hz
    exact ⟨h1, h2⟩
/-- A mark that is not well. -/
theorem marksJ_not {n : Int} {ms : List Int} {k : Nat} {x : Int} (hx : ms[k]? = some x) (h : inI x 1 n = false ∨ ∃ y, 0 < k ∧ ms[k - 1]? = some y ∧ ¬ y < x) : marksJ n ms = false := by
  cases e : marksJ n ms with
  | false => rfl
  | true =>
    obtain ⟨h1, h2⟩ := (marksJ_iff n ms).1 e k x (List.getElem?_eq_some_iff.1 hx).1 hx
    rcases h with h | ⟨y, h0, hy, h3⟩
    · rw [h] at h1; cases h1
    · exact absurd (h2 y h0 hy) h3
/-- Splits: the first k are well. -/
theorem splits_step {ls : List (List KV)} {k : Nat} {l : List KV} (h : (ls.take k).all splitJ = true) (hl : ls[k]? = some l) (h1 : splitJ l = true) : (ls.take (k + 1)).all splitJ = true := by
  rw [List.take_add_one, hl, List.all_append, h]
  simp [h1]
theorem splits_not {ls : List (List KV)} {k : Nat} {l : List KV} (hl : ls[k]? = some l) (h1 : splitJ l = false) : ls.all splitJ = false := by
  rw [List.all_eq_false]
  exact ⟨l, List.mem_of_getElem? hl, by simp [h1]⟩
/-- May a job be? -/
def mayJ (j : JobV) : Bool :=
  inI j.splits.length 1 6 && inI j.parts 1 4 && decide (j.mp ≠ []) && decide (j.rd ≠ []) && decide (bad j.mp < 0) && decide (bad j.cb < 0) && decide (bad j.rd < 0) && j.splits.all splitJ &&
    inI j.chunk 1 7 && inI j.window 1 4 && inI j.fuel 1 2000 && decide (j.marks.length ≤ 4) && marksJ j.splits.length j.marks
def mayC (c : CfgV) : Bool := mayJ c.job && inI c.workers 1 4 && inI c.tries 1 3 && inI c.timeout 1 50
end Go.Proofs.YtfimoobgbodbmaaGreatDoor
/-! The decimal digits of a number and the number that digits spell: what reads back, and what no number's digits are. No program in this text. -/
namespace Go.Proofs.YtfimoobgbodbmaaGreatDoor
open Go.Lib

/-! ### Digits -/

theorem dig_nat {x : Nat} (h : x < 10) : (UInt8.ofNat (48 + x)).toNat = 48 + x := by
  simp only [UInt8.toNat_ofNat']
  omega

theorem dec_dig (u : Nat) : ∀ c ∈ decDigits u, 48 ≤ c.toNat ∧ c.toNat ≤ 57 := by
  induction u using Nat.strongRecOn with
  | _ u ih =>
    intro c hc
    rw [decDigits] at hc
    split at hc
    · rename_i h
      rw [List.mem_singleton] at hc
      rw [hc, dig_nat h]
      omega
    · rw [List.mem_append, List.mem_singleton] at hc
      rcases hc with hc | hc
      · exact ih (u / 10) (by omega) c hc
      · rw [hc, dig_nat (by omega)]
        omega

theorem dec_head (u : Nat) (h : 0 < u) : ∃ c r, decDigits u = c :: r ∧ 49 ≤ c.toNat ∧ c.toNat ≤ 57 := by
  induction u using Nat.strongRecOn with
  | _ u ih =>
    rw [decDigits]
    split
    · rename_i h1
      exact ⟨_, [], rfl, by rw [dig_nat h1]; omega, by rw [dig_nat h1]; omega⟩
    · obtain ⟨c, r, e, h1, h2⟩ := ih (u / 10) (by omega) (by omega)
      exact ⟨c, r ++ [UInt8.ofNat (48 + u % 10)], by rw [e]; rfl, h1, h2⟩

theorem dec_zero : decDigits 0 = [48] := by rw [decDigits, dif_pos (by omega)]; rfl

theorem dec_some (u : Nat) : ∃ c r, decDigits u = c :: r ∧ 48 ≤ c.toNat ∧ c.toNat ≤ 57 := by
  rcases Nat.eq_zero_or_pos u with h | h
  · exact ⟨48, [], by rw [h, dec_zero], by decide, by decide⟩
  · obtain ⟨c, r, e, h1, h2⟩ := dec_head u h
    exact ⟨c, r, e, by omega, h2⟩

theorem nDigits_le : ∀ (k u : Nat), u < 10 ^ (k + 1) → nDigits u ≤ k + 1
  | 0, u, h => by rw [nDigits_small (by simpa using h)]; exact Nat.le_refl _
  | k + 1, u, h => by
    by_cases h1 : u < 10
    · rw [nDigits_small h1]; omega
    · rw [nDigits_big h1]
      have := nDigits_le k (u / 10) (by rw [Nat.pow_succ] at h; omega)
      omega

/-- What digits spell (other bytes are passed over). -/
def dval (a : Nat) : List UInt8 → Nat
  | [] => a
  | c :: r => if 48 ≤ c.toNat ∧ c.toNat ≤ 57 then dval (a * 10 + (c.toNat - 48)) r else dval a r

theorem dval_app (a : Nat) (l r : List UInt8) : dval a (l ++ r) = dval (dval a l) r := by
  induction l generalizing a with
  | nil => rfl
  | cons c l ih =>
    simp only [List.cons_append, dval]
    split <;> exact ih _

theorem dval_snoc (a : Nat) (l : List UInt8) (c : UInt8) : dval a (l ++ [c]) = if 48 ≤ c.toNat ∧ c.toNat ≤ 57 then dval a l * 10 + (c.toNat - 48) else dval a l := by
  rw [dval_app]
  simp only [dval]

theorem dval_dec (u : Nat) : dval 0 (decDigits u) = u := by
  induction u using Nat.strongRecOn with
  | _ u ih =>
    rw [decDigits]
    split
    · rename_i h
      simp only [dval, dig_nat h]
      rw [if_pos (by omega)]
      omega
    · rw [dval_snoc, ih (u / 10) (by omega), dig_nat (by omega), if_pos (by omega)]
      omega

theorem dval_ge (l : List UInt8) : ∀ a, a ≤ dval a l := by
  induction l with
  | nil => intro a; exact Nat.le_refl _
  | cons c l ih =>
    intro a
    simp only [dval]
    split
    · have := ih (a * 10 + (c.toNat - 48)); omega
    · exact ih a

theorem parse_dval (l : List UInt8) : ∀ a, (∀ c ∈ l, 48 ≤ c.toNat ∧ c.toNat ≤ 57) → dval a l < 18446744073709551616 → parseUint10 a l = .ok (dval a l) := by
  induction l with
  | nil => intro a _ _; rfl
  | cons c l ih =>
    intro a hd hl
    have hc := hd c (List.mem_cons_self ..)
    simp only [dval, if_pos hc] at hl ⊢
    have hg := dval_ge l (a * 10 + (c.toNat - 48))
    simp only [parseUint10, if_pos hc]
    rw [if_neg (by omega), if_neg (by omega)]
    exact ih _ (fun x hx => hd x (List.mem_cons_of_mem _ hx)) hl

/-- A number of 64 bits. -/
def I64 (n : Int) : Prop := -9223372036854775808 ≤ n ∧ n ≤ 9223372036854775807

/-- A NUMBER's DIGITS ARE READ AGAIN AS THAT NUMBER. -/
theorem atoi_itoa {n : Int} (h : I64 n) : atoiAll (itoa n) = .ok n := by
  obtain ⟨h0, h1⟩ := h
  unfold itoa
  have mag : ∀ u : Nat, u < 18446744073709551616 → parseMag (decDigits u) = .ok u := fun u hu => by
    unfold parseMag
    obtain ⟨c, r, e, _, _⟩ := dec_some u
    rw [if_neg (by rw [e]; simp), parse_dval _ _ (dec_dig u) (by rw [dval_dec]; exact hu), dval_dec]
  split
  · have m := mag n.natAbs (by omega)
    simp only [atoiAll]
    rw [if_pos (Or.inr (by decide)), m]
    simp only []
    rw [if_neg (by intro hh; exact hh.1 (by decide)), if_neg (by omega), if_pos (by decide)]
    congr 1
    omega
  · have m := mag n.toNat (by omega)
    obtain ⟨c, r, e, c1, c2⟩ := dec_some n.toNat
    rw [e] at m ⊢
    simp only [atoiAll]
    rw [if_neg (by omega), m]
    simp only []
    rw [if_neg (by omega), if_neg (by omega), if_neg (by omega)]
    congr 1
    omega

theorem itoa_inj {n m : Int} (hn : I64 n) (hm : I64 m) (h : itoa n = itoa m) : n = m := by
  have a := atoi_itoa hn
  rw [h, atoi_itoa hm] at a
  injection a with a
  exact a.symm

theorem itoa_len {n : Int} (h : I64 n) : (itoa n).length ≤ 20 := by
  obtain ⟨h0, h1⟩ := h
  unfold itoa
  split
  · have := nDigits_le 18 n.natAbs (by have : (10 : Nat) ^ (18 + 1) = 10000000000000000000 := by decide
                                       omega)
    rw [List.length_cons, decDigits_length]
    omega
  · have := nDigits_le 18 n.toNat (by have : (10 : Nat) ^ (18 + 1) = 10000000000000000000 := by decide
                                      omega)
    rw [decDigits_length]
    omega

/-! ### The number that a text is the digits of -/

/-- value.Number, over bytes. -/
def vNum (l : List UInt8) : Int :=
  if 20 < l.length then 0
  else match atoiAll l with
    | .ok v => if itoa v = l then v else 0
    | .syntax => 0
    | .range => 0

theorem vNum_itoa {n : Int} (h : I64 n) : vNum (itoa n) = n := by
  have hl := itoa_len h
  unfold vNum
  rw [if_neg (by omega), atoi_itoa h]
  simp

theorem vNum_or (l : List UInt8) : vNum l = 0 ∨ (I64 (vNum l) ∧ itoa (vNum l) = l) := by
  unfold vNum
  split
  · exact Or.inl rfl
  · cases h : atoiAll l with
    | «syntax» => exact Or.inl rfl
    | range => exact Or.inl rfl
    | ok v =>
      simp only []
      by_cases e : itoa v = l
      · rw [if_pos e]
        have b := parseIntB_bounds (B := 64) (by rw [parseIntB_64]; exact h)
        have e63 : ((2 ^ (64 - 1) : Nat) : Int) = 9223372036854775808 := by decide
        rw [e63] at b
        exact Or.inr ⟨⟨b.1, by omega⟩, e⟩
      · rw [if_neg e]; exact Or.inl rfl

theorem vNum_none {l : List UInt8} (h : ∀ n, I64 n → n ≠ 0 → itoa n ≠ l) : vNum l = 0 := by
  rcases vNum_or l with e | ⟨h1, h2⟩
  · exact e
  · by_cases z : vNum l = 0
    · exact z
    · exact absurd h2 (h _ h1 z)

theorem vNum_i64 (l : List UInt8) : I64 (vNum l) := by
  rcases vNum_or l with e | ⟨h1, _⟩
  · rw [e]; exact ⟨by decide, by decide⟩
  · exact h1

/-- The first byte of the digits of a number that is not 0. -/
theorem itoa_head {n : Int} (h : n ≠ 0) : ∃ c r, itoa n = c :: r ∧ (c.toNat = 45 ∨ (49 ≤ c.toNat ∧ c.toNat ≤ 57)) := by
  unfold itoa
  split
  · exact ⟨45, _, rfl, Or.inl (by decide)⟩
  · obtain ⟨c, r, e, h1, h2⟩ := dec_head n.toNat (by omega)
    exact ⟨c, r, e, Or.inr ⟨h1, h2⟩⟩

theorem itoa_byte {n : Int} {c : UInt8} (h : c ∈ itoa n) : c.toNat = 45 ∨ (48 ≤ c.toNat ∧ c.toNat ≤ 57) := by
  unfold itoa at h
  split at h
  · rcases List.mem_cons.1 h with h | h
    · exact Or.inl (by rw [h]; decide)
    · exact Or.inr (dec_dig _ c h)
  · exact Or.inr (dec_dig _ c h)

theorem vNum_nought (l : List UInt8) : vNum (48 :: l) = 0 := vNum_none fun n _ hn e => by
  obtain ⟨c, r, e1, h⟩ := itoa_head hn
  rw [e1] at e
  injection e with e _
  rw [e] at h
  revert h
  decide

theorem vNum_plus (l : List UInt8) : vNum (43 :: l) = 0 := vNum_none fun n _ hn e => by
  obtain ⟨c, r, e1, h⟩ := itoa_head hn
  rw [e1] at e
  injection e with e _
  rw [e] at h
  revert h
  decide

theorem vNum_blank (l : List UInt8) : vNum (l ++ [32]) = 0 := vNum_none fun n _ hn e => by
  have h := itoa_byte (n := n) (c := 32) (by rw [e]; simp)
  revert h
  decide

/-- What a minus ahead of a number's digits tells. -/
theorem vNum_minus {n : Int} (h : I64 n) : vNum (45 :: itoa n) = if 0 < n then -n else 0 := by
  obtain ⟨h0, h1⟩ := h
  split
  · rename_i hp
    have e : 45 :: itoa n = itoa (-n) := by
      unfold itoa
      rw [if_neg (by omega), if_pos (by omega), show (-n).natAbs = n.toNat by omega]
    rw [e]
    exact vNum_itoa ⟨by omega, by omega⟩
  · refine vNum_none fun m _ hm e => ?_
    unfold itoa at e
    split at e
    · injection e with _ e
      split at e
      · obtain ⟨c, r, e1, c1, c2⟩ := dec_some m.natAbs
        rw [e1] at e
        injection e with e _
        rw [e] at c1
        revert c1
        decide
      · obtain ⟨c, r, e1, c1, c2⟩ := dec_head m.natAbs (by omega)
        rw [e1, show n.toNat = 0 by omega, dec_zero] at e
        injection e with e _
        rw [e] at c1
        revert c1
        decide
    · obtain ⟨c, r, e1, c1, c2⟩ := dec_some m.toNat
      rw [e1] at e
      injection e with e _
      rw [e] at c1
      revert c1
      decide

/-! ### The reference's own number -/

/-- A number cut to 64 bits. -/
def cut64 (x : Int) : Int := (x + 9223372036854775808) % 18446744073709551616 - 9223372036854775808

theorem cut64_i64 (x : Int) : I64 (cut64 x) := by unfold cut64 I64; omega
theorem cut64_id {x : Int} (h : I64 x) : cut64 x = x := by obtain ⟨h0, h1⟩ := h; unfold cut64; omega

/-- What the reference tells of the number n that it read off the bytes. -/
def rTell (l : List UInt8) (n : Int) : Int := if itoa n = l then n else if itoa (cut64 (-n)) = l then cut64 (-n) else 0

theorem rTell_vNum (l : List UInt8) (n : Int) (hn : n = if l.length ≤ 20 then cut64 (dval 0 l) else 0) : rTell l n = vNum l := by
  have hi : I64 n := by
    rw [hn]; split
    · exact cut64_i64 _
    · exact ⟨by decide, by decide⟩
  unfold rTell
  by_cases e1 : itoa n = l
  · rw [if_pos e1, ← e1, vNum_itoa hi]
  rw [if_neg e1]
  by_cases e2 : itoa (cut64 (-n)) = l
  · rw [if_pos e2]
    have := vNum_itoa (cut64_i64 (-n))
    rw [e2] at this
    exact this.symm
  rw [if_neg e2]
  refine (vNum_none fun m hm _ e => ?_).symm
  have hl := itoa_len hm
  rw [e] at hl
  rw [if_pos hl] at hn
  have hd : dval 0 l = m.natAbs := by
    rw [← e]
    unfold itoa
    split
    · simp only [dval]
      rw [if_neg (by decide), dval_dec]
    · rw [dval_dec]; omega
  rw [hd] at hn
  obtain ⟨m0, m1⟩ := hm
  by_cases hp : 0 ≤ m
  · apply e1
    rw [hn, cut64_id ⟨by omega, by omega⟩, show ((m.natAbs : Nat) : Int) = m by omega]
    exact e
  · by_cases hq : m = -9223372036854775808
    · apply e1
      rw [hn, ← e, hq]
      exact congrArg itoa (by decide)
    · apply e2
      rw [hn, cut64_id (x := ((m.natAbs : Nat) : Int)) ⟨by omega, by omega⟩, cut64_id ⟨by omega, by omega⟩, show (-((m.natAbs : Nat) : Int)) = m by omega]
      exact e

end Go.Proofs.YtfimoobgbodbmaaGreatDoor
