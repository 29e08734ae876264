/- Jobs and configurations as plain data: which may be, who keeps a part, whose turn it is. No program in this text. -/
import Derived.Test.YtpkobobandcclaaPMath
import Derived.Test.YtpkobobandcclaaSMath
namespace Go.Proofs.Ytpkobobandcclaa
set_option linter.unusedVariables false

structure JobV where
  splits : List (List KV)
  parts : Int
  mp : List Inst
  cb : List Inst
  rd : List Inst
  chunk : Int
  window : Int
  fuel : Int
  marks : List Int
structure CfgV where
  job : JobV
  workers : Int
  tries : Int
  timeout : Int
def inI (n lo hi : Int) : Bool := decide (lo ≤ n) && decide (n ≤ hi)
theorem inI_iff {n lo hi : Int} : inI n lo hi = true ↔ lo ≤ n ∧ n ≤ hi := by simp [inI]
/-- A pair that may be; pairs that may be. -/
def okJ (x : KV) : Bool := decide (x.1.size ≤ 16) && decide (x.2.size ≤ 64)
def splitJ (l : List KV) : Bool := decide (l.length ≤ 8) && l.all okJ
/-- Rising, each once. -/
def risesI : List Int → Bool
  | [] => true
  | [_] => true
  | a :: b :: l => decide (a < b) && risesI (b :: l)
def marksJ (n : Int) (ms : List Int) : Bool := ms.all (fun m => inI m 1 n) && risesI ms
/-- The first k marks are well. -/
def MarksTo (n : Int) (ms : List Int) (k : Nat) : Prop := ∀ (i : Nat) (x : Int), i < k → ms[i]? = some x → inI x 1 n = true ∧ ∀ y, 0 < i → ms[i - 1]? = some y → y < x
theorem rises_iff : ∀ (ms : List Int), risesI ms = true ↔ ∀ (i : Nat) (x y : Int), ms[i]? = some y → ms[i + 1]? = some x → y < x
  | [] => by simp [risesI]
  | [a] => by simp [risesI]
  | a :: b :: l => by
    unfold risesI
    rw [Bool.and_eq_true, decide_eq_true_eq, rises_iff (b :: l)]
    constructor
    · rintro ⟨h1, h2⟩ i x y hy hx
      cases i with
      | zero =>
        simp at hx hy
        omega
      | succ i => exact h2 i x y (by simpa using hy) (by simpa using hx)
    · intro h
      exact ⟨h 0 b a rfl rfl, fun i x y hy hx => h (i + 1) x y (by simpa using hy) (by simpa using hx)⟩
theorem marksJ_iff (n : Int) (ms : List Int) : marksJ n ms = true ↔ MarksTo n ms ms.length := by
  unfold marksJ MarksTo
  rw [Bool.and_eq_true, List.all_eq_true, rises_iff]
  constructor
  · rintro ⟨h1, h2⟩ i x hi hx
    refine ⟨h1 x (List.mem_of_getElem? hx), fun y h0 hy => ?_⟩
    exact h2 (i - 1) x y hy (by rw [show i - 1 + 1 = i by omega]; exact hx)
  · intro h
    refine ⟨fun x hx => ?_, fun i x y hy hx => ?_⟩
    · obtain ⟨i, hi, rfl⟩ := List.getElem_of_mem hx
      exact (h i _ hi (List.getElem?_eq_getElem hi)).1
    · exact (h (i + 1) x (List.getElem?_eq_some_iff.1 hx).1 hx).2 y (by omega) (by simpa using hy)
theorem MarksTo.zero (n : Int) (ms : List Int) : MarksTo n ms 0 := fun i x h => by omega
theorem MarksTo.step {n : Int} {ms : List Int} {k : Nat} {x : Int} (h : MarksTo n ms k) (hx : ms[k]? = some x) (h1 : inI x 1 n = true) (h2 : ∀ y, 0 < k → ms[k - 1]? = some y → y < x) : MarksTo n ms (k + 1) := by
  intro i z hi hz
  rcases Nat.lt_or_ge i k with h3 | h3
  · exact h i z h3 hz
  · obtain rfl : i = k := by omega
    rw [hx] at hz
    cases hz
    exact ⟨h1, h2⟩
/-- A mark that is not well. -/
theorem marksJ_not {n : Int} {ms : List Int} {k : Nat} {x : Int} (hx : ms[k]? = some x) (h : inI x 1 n = false ∨ ∃ y, 0 < k ∧ ms[k - 1]? = some y ∧ ¬ y < x) : marksJ n ms = false := by
  cases e : marksJ n ms with
  | false => rfl
  | true =>
    obtain ⟨h1, h2⟩ := (marksJ_iff n ms).1 e k x (List.getElem?_eq_some_iff.1 hx).1 hx
    rcases h with h | ⟨y, h0, hy, h3⟩
    · rw [h] at h1; cases h1
    · exact absurd (h2 y h0 hy) h3
/-- Splits: the first k are well. -/
theorem splits_step {ls : List (List KV)} {k : Nat} {l : List KV} (h : (ls.take k).all splitJ = true) (hl : ls[k]? = some l) (h1 : splitJ l = true) : (ls.take (k + 1)).all splitJ = true := by
  rw [List.take_add_one, hl, List.all_append, h]
  simp [h1]
theorem splits_not {ls : List (List KV)} {k : Nat} {l : List KV} (hl : ls[k]? = some l) (h1 : splitJ l = false) : ls.all splitJ = false := by
  rw [List.all_eq_false]
  exact ⟨l, List.mem_of_getElem? hl, by simp [h1]⟩
/-- May a job be? -/
def mayJ (j : JobV) : Bool :=
  inI j.splits.length 1 6 && inI j.parts 1 4 && decide (j.mp ≠ []) && decide (j.rd ≠ []) && decide (bad j.mp < 0) && decide (bad j.cb < 0) && decide (bad j.rd < 0) && j.splits.all splitJ &&
    inI j.chunk 1 7 && inI j.window 1 4 && inI j.fuel 1 2000 && decide (j.marks.length ≤ 4) && marksJ j.splits.length j.marks
def mayC (c : CfgV) : Bool := mayJ c.job && inI c.workers 1 4 && inI c.tries 1 3 && inI c.timeout 1 50
end Go.Proofs.Ytpkobobandcclaa
