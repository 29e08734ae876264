/- Kinds, the stack, and the two loops over the values, run by hand. No program in this text. -/
import Derived.Test.YtpggfdnpbipckaaGreatDoorRLaws
namespace Go.Proofs.YtpggfdnpbipckaaGreatDoor
open Go.RowKit Go.Lib
set_option linter.unusedVariables false
set_option maxRecDepth 100000

variable {key : ByteArray} {vals : List ByteArray}

/-! ### Kinds -/
def numsP (o : Int) : List Inst := [(1, 0, e0), (1, 0, e0), (1, 0, e0), (o, 0, e0)]
def keysP (o : Int) : List Inst := [(6, 0, e0), (6, 0, e0), (6, 0, e0), (o, 0, e0)]
theorem numsP_run {o : Int} (ho : o = 13 ∨ o = 14 ∨ o = 15 ∨ o = 16 ∨ o = 18 ∨ o = 23) : run (numsP o) key vals 9 = ([], 2, 4) := by
  have hm : bad (numsP o) < 0 := may_all (by simp [numsP]) (by
    intro x hx
    simp only [numsP, List.mem_cons, List.mem_nil_iff, or_false] at hx
    rcases hx with rfl | rfl | rfl | rfl
    · simp [good]
    · simp [good]
    · simp [good]
    · rcases ho with rfl | rfl | rfl | rfl | rfl | rfl <;> simp [good])
  unfold run
  rw [if_pos ⟨hm, by omega⟩]
  show go (numsP o) key vals 9 0 st0 = _
  rcases ho with rfl | rfl | rfl | rfl | rfl | rfl <;> simp [go, numsP, step, st0, push, any1, any2, any3, isT, Val.big, addD]
theorem keysP_run {o : Int} (hk : key.size ≤ 64) (ho : o = 8 ∨ o = 9 ∨ o = 10 ∨ o = 11 ∨ o = 15 ∨ o = 16 ∨ o = 17 ∨ o = 20) : run (keysP o) key vals 9 = ([], 2, 4) := by
  have hm : bad (keysP o) < 0 := may_all (by simp [keysP]) (by
    intro x hx
    simp only [keysP, List.mem_cons, List.mem_nil_iff, or_false] at hx
    rcases hx with rfl | rfl | rfl | rfl
    · simp [good]
    · simp [good]
    · simp [good]
    · rcases ho with rfl | rfl | rfl | rfl | rfl | rfl | rfl | rfl <;> simp [good, keysP])
  have h1 : ¬ 64 < key.size := by omega
  unfold run
  rw [if_pos ⟨hm, by omega⟩]
  show go (keysP o) key vals 9 0 st0 = _
  rcases ho with rfl | rfl | rfl | rfl | rfl | rfl | rfl | rfl <;> simp [go, keysP, step, st0, push, nn, any1, any2, any3, isN, isT, Val.big, addD, h1]

/-! ### The stack -/
def under (o : Int) : Prop := o = 3 ∨ o = 4 ∨ o = 5 ∨ o = 8 ∨ o = 9 ∨ o = 10 ∨ o = 11 ∨ o = 12 ∨ o = 13 ∨ o = 14 ∨ o = 15 ∨ o = 16 ∨ o = 17 ∨ o = 18 ∨ o = 20 ∨ o = 22 ∨ o = 23
theorem under_run {o : Int} (ho : under o) : run [(o, 0, e0)] key vals 100 = ([], 1, 1) := by
  have hm : bad [(o, 0, e0)] < 0 := may_all (by simp) (by
    intro x hx
    simp only [List.mem_cons, List.mem_nil_iff, or_false] at hx
    rcases hx with rfl
    rcases ho with rfl | rfl | rfl | rfl | rfl | rfl | rfl | rfl | rfl | rfl | rfl | rfl | rfl | rfl | rfl | rfl | rfl <;> simp [good])
  unfold run
  rw [if_pos ⟨hm, by omega⟩]
  show go [(o, 0, e0)] key vals 100 0 st0 = _
  rcases ho with rfl | rfl | rfl | rfl | rfl | rfl | rfl | rfl | rfl | rfl | rfl | rfl | rfl | rfl | rfl | rfl | rfl <;> simp [go, step, st0, nn, any1, any2, any3]
def stackP (n : Nat) : List Inst := (List.range n).map fun (i : Nat) => ((1, (i : Int), e0) : Inst)
theorem stackP_length (n : Nat) : (stackP n).length = n := by simp [stackP]
theorem stackP_at {n i : Nat} (h : i < n) : (stackP n).getD i zInst = (1, (i : Int), e0) := by
  simp [stackP, List.getD, h]
theorem stackP_succ (n : Nat) : stackP (n + 1) = stackP n ++ [(1, (n : Int), e0)] := by simp [stackP, List.range_succ]
theorem stack_go (n : Nat) (r : Nat) : ∀ (j N : Nat) (m : St), n = j + r → j ≤ 16 → m.stack.length = j → m.told = [] → r ≤ N → go (stackP n) key vals N j m = if n ≤ 16 then ([], 0, r) else ([], 1, 17 - j) := by
  induction r with
  | zero =>
    intro j N m hn hj hs ht hN
    rw [go_end (by rw [stackP_length]; omega), ht, if_pos (by omega)]
  | succ r ih =>
    intro j N m hn hj hs ht hN
    obtain ⟨N, rfl⟩ : ∃ N', N = N' + 1 := ⟨N - 1, by omega⟩
    have hlt : j < (stackP n).length := by rw [stackP_length]; omega
    have hat := stackP_at (n := n) (i := j) (by omega)
    by_cases h16 : j = 16
    · rw [go_stop hlt (by rw [hat]; simp) (r := 1) (by rw [hat]; simp [step, push, Val.big, hs, h16])]
      rw [if_neg (by omega), h16]
    · rw [go_next hlt (by rw [hat]; simp) (m' := { m with stack := .num j :: m.stack }) (by rw [hat]; simp [step, push, Val.big, hs]; omega)]
      rw [ih (j + 1) N { m with stack := .num j :: m.stack } (by omega) (by omega) (by simp [hs]) ht (by omega)]
      by_cases hn16 : n ≤ 16
      · rw [if_pos hn16, if_pos hn16]; rfl
      · rw [if_neg hn16, if_neg hn16]
        show (([] : List Pr), (1 : Int), 17 - (j + 1) + 1) = _
        rw [show 17 - (j + 1) + 1 = 17 - j by omega]
theorem stack_run {n : Nat} (hn : n ≤ 40) : run (stackP n) key vals 100 = if n ≤ 16 then ([], 0, n) else ([], 1, 17) := by
  have hm : bad (stackP n) < 0 := may_all (by rw [stackP_length]; exact hn) (by
    intro x hx
    simp only [stackP, List.mem_map, List.mem_range] at hx
    obtain ⟨i, _, rfl⟩ := hx
    simp [good])
  unfold run
  rw [if_pos ⟨hm, by omega⟩]
  show go (stackP n) key vals 100 0 st0 = _
  rw [stack_go n n 0 100 st0 (by omega) (by omega) rfl rfl (by omega)]

/-! ### OpNext -/
theorem next_some {m : St} {a : Int} {s v : ByteArray} (ht : m.taken < vals.length) (hv : vals.getD m.taken ⟨#[]⟩ = v) (hs : v.size ≤ 64) (hl : m.stack.length ≤ 14) : step key vals (7, a, s) m = .next { m with taken := m.taken + 1, stack := .num 1 :: .text v :: m.stack } := by
  show (if m.taken < vals.length then push { m with taken := m.taken + 1 } m.stack [.text (vals.getD m.taken ⟨#[]⟩), .num 1] else push m m.stack [.num 0]) = _
  rw [if_pos ht, hv]
  have h1 : ¬ 64 < v.size := by omega
  have h2 : ¬ 16 < m.stack.length + 2 := by omega
  simp [push, Val.big, h1, h2]
theorem next_none {m : St} {a : Int} {s : ByteArray} (ht : vals.length ≤ m.taken) (hl : m.stack.length ≤ 15) : step key vals (7, a, s) m = .next { m with stack := .num 0 :: m.stack } := by
  show (if m.taken < vals.length then push { m with taken := m.taken + 1 } m.stack [.text (vals.getD m.taken ⟨#[]⟩), .num 1] else push m m.stack [.num 0]) = _
  rw [if_neg (by omega)]
  have h2 : ¬ 16 < m.stack.length + 1 := by omega
  simp [push, Val.big, h2]

/-! ### A loop that tells every value -/
def tellP : List Inst := [(7, 0, e0), (20, 3, e0), (0, 0, e0), (22, 0, e0), (6, 0, e0), (21, 0, e0), (23, 0, e0), (19, 0, e0)]
theorem tell_may : bad tellP < 0 := may_all (by simp [tellP]) (by
  intro x hx
  simp only [tellP, List.mem_cons, List.mem_nil_iff, or_false] at hx
  rcases hx with rfl | rfl | rfl | rfl | rfl | rfl | rfl | rfl <;> simp [good, tellP])
theorem reg_set {R : List Val} (h : R.length = 8) (i : Nat) (hi : i < 8) (v : Val) : (R.set i v).getD i (.num 0) = v := by
  simp [List.getD, h, hi]
theorem tell_round {R : List Val} (hR : R.length = 8) {t : Nat} {T : List Pr} {v : ByteArray} (ht : t < vals.length) (hv : vals.getD t ⟨#[]⟩ = v) (hvs : v.size ≤ 64) (hk : key.size ≤ 16) (hT : T.length < 40) (N : Nat) :
    go tellP key vals (N + 7) 0 ⟨[], R, t, T⟩ = addD 7 (go tellP key vals N 0 ⟨[], R.set 0 (.text v), t + 1, T ++ [(key, v)]⟩) := by
  have h1 : ¬ 64 < v.size := by omega
  have h2 : ¬ 64 < key.size := by omega
  have h3 : ¬ 16 < key.size := by omega
  have h4 : ¬ 40 ≤ T.length := by omega
  have hg := reg_set hR 0 (by omega) (.text v)
  rw [go_next (by simp [tellP]) (by simp [tellP]) (m' := ⟨[.num 1, .text v], R, t + 1, T⟩) (next_some ht hv hvs (by simp)),
    go_goto (by simp [tellP]) (by simp [tellP]) (t := 3) (m' := ⟨[.text v], R, t + 1, T⟩) (by simp [tellP, step, any1, isN]),
    go_next (by simp [tellP]) (by simp [tellP]) (m' := ⟨[], R.set 0 (.text v), t + 1, T⟩) (by simp [tellP, step, any1]),
    go_next (by simp [tellP]) (by simp [tellP]) (m' := ⟨[.text key], R.set 0 (.text v), t + 1, T⟩) (by simp [tellP, step, push, Val.big, h2]),
    go_next (by simp [tellP]) (by simp [tellP]) (m' := ⟨[.text v, .text key], R.set 0 (.text v), t + 1, T⟩) (by
      show push _ _ [(R.set 0 (.text v)).getD 0 (.num 0)] = _
      rw [hg]
      simp [push, Val.big, h1]),
    go_next (by simp [tellP]) (by simp [tellP]) (m' := ⟨[], R.set 0 (.text v), t + 1, T ++ [(key, v)]⟩) (by simp [tellP, step, any2, isT, emit, h3, h4]),
    go_goto (by simp [tellP]) (by simp [tellP]) (t := 0) (m' := ⟨[], R.set 0 (.text v), t + 1, T ++ [(key, v)]⟩) (by simp [tellP, step])]
  simp [addD, Nat.add_assoc]
theorem tell_many {R : List Val} (hR : R.length = 8) {t : Nat} {T : List Pr} {v : ByteArray} (ht : t < vals.length) (hv : vals.getD t ⟨#[]⟩ = v) (hvs : v.size ≤ 64) (hk : key.size ≤ 16) (hT : 40 ≤ T.length) (N : Nat) :
    go tellP key vals (N + 6) 0 ⟨[], R, t, T⟩ = ([], 5, 6) := by
  have h1 : ¬ 64 < v.size := by omega
  have h2 : ¬ 64 < key.size := by omega
  have h3 : ¬ 16 < key.size := by omega
  have hg := reg_set hR 0 (by omega) (.text v)
  rw [go_next (by simp [tellP]) (by simp [tellP]) (m' := ⟨[.num 1, .text v], R, t + 1, T⟩) (next_some ht hv hvs (by simp)),
    go_goto (by simp [tellP]) (by simp [tellP]) (t := 3) (m' := ⟨[.text v], R, t + 1, T⟩) (by simp [tellP, step, any1, isN]),
    go_next (by simp [tellP]) (by simp [tellP]) (m' := ⟨[], R.set 0 (.text v), t + 1, T⟩) (by simp [tellP, step, any1]),
    go_next (by simp [tellP]) (by simp [tellP]) (m' := ⟨[.text key], R.set 0 (.text v), t + 1, T⟩) (by simp [tellP, step, push, Val.big, h2]),
    go_next (by simp [tellP]) (by simp [tellP]) (m' := ⟨[.text v, .text key], R.set 0 (.text v), t + 1, T⟩) (by
      show push _ _ [(R.set 0 (.text v)).getD 0 (.num 0)] = _
      rw [hg]
      simp [push, Val.big, h1]),
    go_stop (by simp [tellP]) (by simp [tellP]) (r := 5) (by simp [tellP, step, any2, isT, emit, h3, hT])]
  rfl
theorem tell_end {R : List Val} {t : Nat} {T : List Pr} (ht : vals.length ≤ t) (N : Nat) : go tellP key vals (N + 3) 0 ⟨[], R, t, T⟩ = (T, 0, 3) := by
  rw [go_next (by simp [tellP]) (by simp [tellP]) (m' := ⟨[.num 0], R, t, T⟩) (next_none ht (by simp)),
    go_next (by simp [tellP]) (by simp [tellP]) (m' := ⟨[], R, t, T⟩) (by simp [tellP, step, any1, isN]),
    go_halt (by simp [tellP]) (by simp [tellP])]
  rfl
theorem tell_go (hv : ∀ v ∈ vals, v.size ≤ 64) (hk : key.size ≤ 16) (r : Nat) : ∀ (t N : Nat) (R : List Val) (T : List Pr), R.length = 8 → T = (vals.take t).map (fun v => (key, v)) → t + r = vals.length → t ≤ 40 → 7 * r + 7 ≤ N →
    go tellP key vals N 0 ⟨[], R, t, T⟩ = if vals.length ≤ 40 then (vals.map (fun v => (key, v)), 0, 7 * r + 3) else ([], 5, 7 * (40 - t) + 6) := by
  induction r with
  | zero =>
    intro t N R T hR hT ht h40 hN
    obtain ⟨N, rfl⟩ : ∃ N', N = N' + 3 := ⟨N - 3, by omega⟩
    rw [tell_end (by omega), if_pos (by omega), hT, List.take_of_length_le (by omega)]
  | succ r ih =>
    intro t N R T hR hT ht h40 hN
    have hlt : t < vals.length := by omega
    have hTl : T.length = t := by rw [hT]; simp; omega
    have hg : vals.getD t ⟨#[]⟩ = vals[t] := by simp [List.getD, List.getElem?_eq_getElem hlt]
    have hs := hv _ (List.getElem_mem hlt)
    by_cases h : t = 40
    · obtain ⟨N, rfl⟩ : ∃ N', N = N' + 6 := ⟨N - 6, by omega⟩
      rw [tell_many hR hlt hg hs hk (by omega), if_neg (by omega), h]
    · obtain ⟨N, rfl⟩ : ∃ N', N = N' + 7 := ⟨N - 7, by omega⟩
      rw [tell_round hR hlt hg hs hk (by omega), ih (t + 1) N _ _ (by simpa using hR) (by rw [hT, List.take_succ_eq_append_getElem hlt, List.map_append]; rfl) (by omega) (by omega) (by omega)]
      by_cases hn : vals.length ≤ 40
      · rw [if_pos hn, if_pos hn]
        show (_, (0 : Int), 7 * r + 3 + 7) = _
        rw [show 7 * r + 3 + 7 = 7 * (r + 1) + 3 by omega]
      · rw [if_neg hn, if_neg hn]
        show (_, (5 : Int), 7 * (40 - (t + 1)) + 6 + 7) = _
        rw [show 7 * (40 - (t + 1)) + 6 + 7 = 7 * (40 - t) + 6 by omega]
theorem tell_run (hv : ∀ v ∈ vals, v.size ≤ 64) (hk : key.size ≤ 16) (hl : vals.length ≤ 50) :
    run tellP key vals 2000 = if vals.length ≤ 40 then (vals.map (fun v => (key, v)), 0, 7 * vals.length + 3) else ([], 5, 286) := by
  unfold run
  rw [if_pos ⟨tell_may, by omega⟩]
  show go tellP key vals 2000 0 st0 = _
  have := tell_go hv hk vals.length 0 2000 (List.replicate 8 (.num 0)) [] (by simp) (by simp) (by omega) (by omega) (by omega)
  exact this

/-! ### A loop that adds up -/
def sumP : List Inst := [(7, 0, e0), (20, 6, e0), (6, 0, e0), (21, 3, e0), (17, 0, e0), (19, 11, e0), (18, 0, e0), (21, 3, e0), (8, 0, e0), (22, 3, e0), (19, 0, e0), (23, 0, e0)]
theorem sum_may : bad sumP < 0 := may_all (by simp [sumP]) (by
  intro x hx
  simp only [sumP, List.mem_cons, List.mem_nil_iff, or_false] at hx
  rcases hx with rfl | rfl | rfl | rfl | rfl | rfl | rfl | rfl | rfl | rfl | rfl | rfl <;> simp [good, sumP])
/-- The sum of what the texts say, going round. -/
def sumOf (c : Int) : List ByteArray → Int
  | [] => c
  | v :: r => sumOf (wrap64 (vNum v.data.toList + c)) r
theorem sum_i64 {c : Int} (h : I64 c) : ∀ l : List ByteArray, I64 (sumOf c l)
  | [] => h
  | v :: r => sum_i64 (i64_wrap _) r
theorem sum_round {R : List Val} (hR : R.length = 8) {t : Nat} {c : Int} {v : ByteArray} (hc : R.getD 3 (.num 0) = .num c) (ht : t < vals.length) (hv : vals.getD t ⟨#[]⟩ = v) (hvs : v.size ≤ 64) (N : Nat) :
    go sumP key vals (N + 7) 0 ⟨[], R, t, []⟩ = addD 7 (go sumP key vals N 0 ⟨[], R.set 3 (.num (wrap64 (vNum v.data.toList + c))), t + 1, []⟩) := by
  have h1 : ¬ 64 < v.size := by omega
  rw [go_next (by simp [sumP]) (by simp [sumP]) (m' := ⟨[.num 1, .text v], R, t + 1, []⟩) (next_some ht hv hvs (by simp)),
    go_goto (by simp [sumP]) (by simp [sumP]) (t := 6) (m' := ⟨[.text v], R, t + 1, []⟩) (by simp [sumP, step, any1, isN]),
    go_next (by simp [sumP]) (by simp [sumP]) (m' := ⟨[.num (vNum v.data.toList)], R, t + 1, []⟩) (by simp [sumP, step, any1, isT, push, Val.big]),
    go_next (by simp [sumP]) (by simp [sumP]) (m' := ⟨[.num c, .num (vNum v.data.toList)], R, t + 1, []⟩) (by
      show push _ _ [R.getD 3 (.num 0)] = _
      rw [hc]
      simp [push, Val.big]),
    go_next (by simp [sumP]) (by simp [sumP]) (m' := ⟨[.num (wrap64 (vNum v.data.toList + c))], R, t + 1, []⟩) (by simp [sumP, step, nn, any2, isN, push, Val.big]),
    go_next (by simp [sumP]) (by simp [sumP]) (m' := ⟨[], R.set 3 (.num (wrap64 (vNum v.data.toList + c))), t + 1, []⟩) (by simp [sumP, step, any1]),
    go_goto (by simp [sumP]) (by simp [sumP]) (t := 0) (m' := ⟨[], R.set 3 (.num (wrap64 (vNum v.data.toList + c))), t + 1, []⟩) (by simp [sumP, step])]
  simp [addD, Nat.add_assoc]
theorem sum_end {R : List Val} {t : Nat} {c : Int} (hc : R.getD 3 (.num 0) = .num c) (hi : I64 c) (ht : vals.length ≤ t) (hk : key.size ≤ 16) (N : Nat) : go sumP key vals (N + 7) 0 ⟨[], R, t, []⟩ = ([(key, txt (itoa c))], 0, 7) := by
  have h1 : ¬ 64 < (txt (itoa c)).size := by have := itoa_small hi; omega
  have h2 : ¬ 64 < key.size := by omega
  have h3 : ¬ 16 < key.size := by omega
  rw [go_next (by simp [sumP]) (by simp [sumP]) (m' := ⟨[.num 0], R, t, []⟩) (next_none ht (by simp)),
    go_next (by simp [sumP]) (by simp [sumP]) (m' := ⟨[], R, t, []⟩) (by simp [sumP, step, any1, isN]),
    go_next (by simp [sumP]) (by simp [sumP]) (m' := ⟨[.text key], R, t, []⟩) (by simp [sumP, step, push, Val.big, h2]),
    go_next (by simp [sumP]) (by simp [sumP]) (m' := ⟨[.num c, .text key], R, t, []⟩) (by
      show push _ _ [R.getD 3 (.num 0)] = _
      rw [hc]
      simp [push, Val.big]),
    go_next (by simp [sumP]) (by simp [sumP]) (m' := ⟨[.text (txt (itoa c)), .text key], R, t, []⟩) (by simp [sumP, step, any1, isN, push, Val.big, h1]),
    go_goto (by simp [sumP]) (by simp [sumP]) (t := 11) (m' := ⟨[.text (txt (itoa c)), .text key], R, t, []⟩) (by simp [sumP, step]),
    go_next (by simp [sumP]) (by simp [sumP]) (m' := ⟨[], R, t, [(key, txt (itoa c))]⟩) (by simp [sumP, step, any2, isT, emit, h3]),
    go_end (by simp [sumP])]
  rfl
theorem sum_go (hv : ∀ v ∈ vals, v.size ≤ 64) (hk : key.size ≤ 16) (r : Nat) : ∀ (t N : Nat) (R : List Val) (c : Int), R.length = 8 → R.getD 3 (.num 0) = .num c → I64 c → t + r = vals.length → 7 * r + 7 ≤ N →
    go sumP key vals N 0 ⟨[], R, t, []⟩ = ([(key, txt (itoa (sumOf c (vals.drop t))))], 0, 7 * r + 7) := by
  induction r with
  | zero =>
    intro t N R c hR hc hi ht hN
    obtain ⟨N, rfl⟩ : ∃ N', N = N' + 7 := ⟨N - 7, by omega⟩
    rw [sum_end hc hi (by omega) hk, List.drop_of_length_le (by omega)]
    rfl
  | succ r ih =>
    intro t N R c hR hc hi ht hN
    have hlt : t < vals.length := by omega
    have hg : vals.getD t ⟨#[]⟩ = vals[t] := by simp [List.getD, List.getElem?_eq_getElem hlt]
    have hs := hv _ (List.getElem_mem hlt)
    obtain ⟨N, rfl⟩ : ∃ N', N = N' + 7 := ⟨N - 7, by omega⟩
    rw [sum_round hR hc hlt hg hs, ih (t + 1) N _ (wrap64 (vNum vals[t].data.toList + c)) (by simpa using hR) (reg_set hR 3 (by omega) _) (i64_wrap _) (by omega) (by omega)]
    rw [List.drop_eq_getElem_cons hlt]
    show (_, (0 : Int), 7 * r + 7 + 7) = _
    rw [show 7 * r + 7 + 7 = 7 * (r + 1) + 7 by omega]
    rfl
theorem sum_run (hv : ∀ v ∈ vals, v.size ≤ 64) (hk : key.size ≤ 16) (hl : vals.length ≤ 60) :
    run sumP key vals 2000 = ([(key, txt (itoa (sumOf 0 vals)))], 0, 7 * vals.length + 7) := by
  unfold run
  rw [if_pos ⟨sum_may, by omega⟩]
  show go sumP key vals 2000 0 st0 = _
  exact sum_go hv hk vals.length 0 2000 (List.replicate 8 (.num 0)) 0 (by simp) (by simp [List.getD]) (i64_small (by omega) (by omega)) (by omega) (by omega)
end Go.Proofs.YtpggfdnpbipckaaGreatDoor
