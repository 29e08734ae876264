/- Laid together: MpPush MpMath CMath MpSt MpIs. -/
import Derived.Test.YtfimoobgbodbmaaGreatDoorGWn
import Derived.WalkKit
import Derived.Test.YtfimoobgbodbmaaGreatDoorGD
import Derived.Test.YtfimoobgbodbmaaGreatDoorGOa
import Derived.Test.YtfimoobgbodbmaaGreatDoorLis
/-! What is pushed of all parts, rising, and how many of a part stand ahead of a place. No program in this text. -/
namespace Go.Proofs.YtfimoobgbodbmaaGreatDoor
set_option linter.unusedVariables false
set_option maxRecDepth 100000

/-- From part p on: each part's open chunks. -/
def pushFrom : Nat → List WinV → List (Nat × Int)
  | _, [] => []
  | p, w :: ws => (openW w).map (fun s => (p, s)) ++ pushFrom (p + 1) ws
/-- How many of a list are part p's. -/
def manyL (l : List (Nat × Int)) (p : Nat) : Nat := (l.filter (fun x => decide (x.1 = p))).length
theorem manyL_append (a b : List (Nat × Int)) (p : Nat) : manyL (a ++ b) p = manyL a p + manyL b p := by simp [manyL]
theorem manyL_step {l : List (Nat × Int)} {k : Nat} (hk : k < l.length) (p : Nat) : manyL (l.take (k + 1)) p = manyL (l.take k) p + (if l[k].1 = p then 1 else 0) := by
  rw [List.take_succ_eq_append_getElem hk, manyL_append]
  congr 1
  unfold manyL
  by_cases e : l[k].1 = p
  · simp [e]
  · simp [e]
theorem manyL_own {p : Nat} : ∀ (l : List Int), manyL (l.map (fun s => (p, s))) p = l.length
  | [] => rfl
  | x :: l => by
    have ih := manyL_own (p := p) l
    unfold manyL at ih ⊢
    simp only [List.map_cons, List.filter_cons, decide_true, if_true, List.length_cons]
    rw [ih]
theorem manyL_other {p q : Nat} (h : p ≠ q) : ∀ (l : List Int), manyL (l.map (fun s => (p, s))) q = 0
  | [] => rfl
  | x :: l => by
    have ih := manyL_other h l
    unfold manyL at ih ⊢
    simp only [List.map_cons, List.filter_cons, decide_eq_false h]
    exact ih
/-- What stands at a place: which part's, and how many of that part stand ahead of it. -/
theorem push_at : ∀ {ws : List WinV} {p0 k p : Nat} {s : Int}, (pushFrom p0 ws)[k]? = some (p, s) → ∃ j w i, p = p0 + j ∧ ws[j]? = some w ∧ i < openN w ∧ s = w.next + (i : Int) ∧ manyL ((pushFrom p0 ws).take k) p = i
  | [], p0, k, p, s, h => by simp [pushFrom] at h
  | w :: ws, p0, k, p, s, h => by
    unfold pushFrom at h ⊢
    have hl : ((openW w).map (fun s => (p0, s))).length = openN w := by simp [openW_len]
    by_cases hk : k < openN w
    · rw [List.getElem?_append_left (by rw [hl]; exact hk), List.getElem?_map, openW_at hk] at h
      simp only [Option.map_some, Option.some.injEq, Prod.mk.injEq] at h
      obtain ⟨rfl, rfl⟩ := h
      refine ⟨0, w, k, rfl, rfl, hk, rfl, ?_⟩
      rw [List.take_append_of_le_length (by rw [hl]; omega), ← List.map_take, manyL_own, List.length_take, openW_len]
      omega
    · rw [List.getElem?_append_right (by rw [hl]; omega), hl] at h
      obtain ⟨j, w', i, rfl, hw, hi, hs, hm⟩ := push_at h
      refine ⟨j + 1, w', i, by omega, by simpa using hw, hi, hs, ?_⟩
      have e : ((openW w).map (fun s => (p0, s)) ++ pushFrom (p0 + 1) ws).take k = (openW w).map (fun s => (p0, s)) ++ (pushFrom (p0 + 1) ws).take (k - openN w) := by
        rw [List.take_append, hl, List.take_of_length_le (by rw [hl]; omega)]
      rw [e, manyL_append, manyL_other (by omega), hm]
      omega
/-- All of them: no more than four of each part. -/
theorem push_len : ∀ {ws : List WinV} (p0 : Nat), (∀ w ∈ ws, WinOk w) → (pushFrom p0 ws).length ≤ ws.length * 4
  | [], p0, _ => by simp [pushFrom]
  | w :: ws, p0, h => by
    unfold pushFrom
    have h1 := openN_le (h w List.mem_cons_self)
    have h2 := push_len (p0 + 1) (fun x hx => h x (List.mem_cons_of_mem _ hx))
    rw [List.length_append, List.length_map, openW_len, List.length_cons]
    omega
/-- The first j parts' and one more. -/
theorem push_take {ws : List WinV} {p0 : Nat} : ∀ {j : Nat} {w : WinV}, ws[j]? = some w → pushFrom p0 (ws.take (j + 1)) = pushFrom p0 (ws.take j) ++ (openW w).map (fun s => (p0 + j, s)) := by
  induction ws generalizing p0 with
  | nil => intro j w h; simp at h
  | cons x ws ih =>
    intro j w h
    cases j with
    | zero =>
      simp at h
      subst h
      simp [pushFrom]
    | succ j =>
      simp only [List.getElem?_cons_succ] at h
      simp only [List.take_succ_cons, pushFrom]
      rw [ih h, List.append_assoc]
      rw [show p0 + 1 + j = p0 + (j + 1) by omega]
/-- All windows are done: nothing is pushed. -/
theorem push_done {ws : List WinV} (h : ∀ w ∈ ws, WinOk w) (p0 : Nat) : pushFrom p0 ws = [] ↔ ∀ w ∈ ws, doneW w = true := by
  induction ws generalizing p0 with
  | nil => simp [pushFrom]
  | cons x ws ih =>
    have h1 := doneW_iff (h x List.mem_cons_self)
    have h2 := ih (fun w hw => h w (List.mem_cons_of_mem _ hw)) (p0 + 1)
    unfold pushFrom
    rw [List.append_eq_nil_iff, h2, List.map_eq_nil_iff, ← List.length_eq_zero_iff, openW_len, ← h1]
    simp
end Go.Proofs.YtfimoobgbodbmaaGreatDoor
/-! What an ack makes of a window's epoch and of what is wanted next, as a reckoner beside it does. No program in this text. -/
namespace Go.Proofs.YtfimoobgbodbmaaGreatDoor
set_option linter.unusedVariables false
set_option maxRecDepth 100000
/-- Of an epoch from 1 on, and not below the window's own. -/
theorem ackW_beside {w : WinV} {e n : Int} (h1 : 1 ≤ e) (h2 : w.epoch ≤ e) : (ackW w e n).epoch = e ∧ (ackW w e n).next = max (if w.epoch < e then clipW w n else w.next) (clipW w n) := by
  by_cases h : w.epoch < e
  · have := (ackB_new (w := w) (n := n) h1 h).2
    rw [this, if_pos h]
    exact ⟨rfl, by show clipW w n = _; omega⟩
  · have he : w.epoch = e := by omega
    have := (ackB_same (w := w) (n := n) h1 he).2
    rw [this, if_neg h]
    by_cases hn : w.next < clipW w n
    · rw [if_pos hn]
      exact ⟨he, by show clipW w n = _; omega⟩
    · rw [if_neg hn]
      exact ⟨he, by omega⟩
/-- Of any other nothing turns. -/
theorem ackW_else {w : WinV} {e n : Int} (h : ¬ (1 ≤ e ∧ w.epoch ≤ e)) : ackW w e n = w := (ackB_old (by omega)).2
end Go.Proofs.YtfimoobgbodbmaaGreatDoor
/-! Chunks, over numbers and lists: no program in this text. -/
namespace Go.Proofs.YtfimoobgbodbmaaGreatDoor
open Go.RowKit
set_option linter.unusedVariables false
set_option maxRecDepth 100000

/-- n by s, up. -/
def chunksI (n s : Int) : Int := if n < 1 ∨ s < 1 then 0 else (n - 1) / s + 1
/-- An attempt's size. -/
def sizeI (c a : Int) : Int := if a % 2 = 0 then c else c + 1
theorem chunksI_pos {n s : Int} (hn : 1 ≤ n) (hs : 1 ≤ s) : chunksI n s = (n - 1) / s + 1 := by
  unfold chunksI
  rw [if_neg (by omega)]
theorem chunksI_none {n s : Int} (h : n < 1 ∨ s < 1) : chunksI n s = 0 := by
  unfold chunksI
  rw [if_pos h]
theorem chunksI_bd (n s : Int) (hn : 0 ≤ n) : 0 ≤ chunksI n s ∧ chunksI n s ≤ n := by
  unfold chunksI
  split
  · omega
  · have h1 : (n - 1) / s ≤ n - 1 := Int.ediv_le_self s (by omega)
    have h2 : 0 ≤ (n - 1) / s := Int.ediv_nonneg (by omega) (by omega)
    omega
theorem chunksI_bd' (n s : Int) : 0 ≤ chunksI n s ∧ (chunksI n s ≤ n ∨ chunksI n s = 0) := by
  by_cases h : 0 ≤ n
  · exact ⟨(chunksI_bd n s h).1, .inl (chunksI_bd n s h).2⟩
  · rw [chunksI_none (.inl (by omega))]
    omega
/-- A chunk that there is begins inside. -/
theorem seq_lt {n s q : Int} (h0 : 0 ≤ q) (h : q < chunksI n s) : 1 ≤ n ∧ 1 ≤ s ∧ q * s < n := by
  by_cases hc : n < 1 ∨ s < 1
  · rw [chunksI_none hc] at h
    omega
  · rw [chunksI_pos (by omega) (by omega)] at h
    have h1 : q ≤ (n - 1) / s := by omega
    have h2 := (Int.le_ediv_iff_mul_le (by omega : (0 : Int) < s)).1 h1
    exact ⟨by omega, by omega, by omega⟩
/-- And behind the last one there is nothing left. -/
theorem chunksI_mul {n s : Int} (hs : 1 ≤ s) : n ≤ chunksI n s * s := by
  by_cases hn : n < 1
  · rw [chunksI_none (.inl hn)]
    omega
  · rw [chunksI_pos (by omega) hs]
    have h1 := Int.lt_ediv_add_one_mul_self (n - 1) (by omega : (0 : Int) < s)
    omega
theorem chunksI_le {n s k : Int} (hs : 1 ≤ s) (hk : 0 ≤ k) (h : n ≤ k * s) : chunksI n s ≤ k := by
  by_cases hc : k < chunksI n s
  · have := seq_lt hk hc
    omega
  · omega
theorem chunksI_more {n s m : Int} (hs : 1 ≤ s) (hm : 0 ≤ m) : chunksI n (s + m) ≤ chunksI n s := by
  have h := chunksI_mul (n := n) hs
  have h0 := (chunksI_bd' n s).1
  refine chunksI_le (by omega) h0 ?_
  have : 0 ≤ chunksI n s * m := Int.mul_nonneg h0 hm
  rw [Int.mul_add]
  omega
theorem chunksI_grows {n s m : Int} (hs : 1 ≤ s) (hm : 0 ≤ m) : chunksI n s ≤ chunksI (n + m) s := by
  have h := chunksI_mul (n := n + m) hs
  exact chunksI_le hs (chunksI_bd' _ _).1 (by omega)

theorem sizeI_even {c a : Int} (h : a % 2 = 0) : sizeI c a = c := if_pos h
theorem sizeI_odd {c a : Int} (h : ¬ a % 2 = 0) : sizeI c a = c + 1 := if_neg h
theorem tmod_two (a : Int) : a.tmod 2 = 0 ↔ a % 2 = 0 := by
  rw [Int.tmod_eq_emod]
  split <;> omega

/-- Chunk q of l. -/
def chunkL {α : Type} (l : List α) (s q : Int) : List α := if 0 ≤ q ∧ q < chunksI l.length s then (l.drop (q * s).toNat).take s.toNat else []
theorem chunkL_len {α : Type} (l : List α) (s q : Int) : (chunkL l s q).length ≤ l.length := by
  unfold chunkL
  split
  · rw [List.length_take, List.length_drop]
    omega
  · simp
theorem chunkL_none {α : Type} {l : List α} {s q : Int} (h : ¬ (0 ≤ q ∧ q < chunksI l.length s)) : chunkL l s q = [] := by
  unfold chunkL
  rw [if_neg h]
theorem chunkL_some {α : Type} {l : List α} {s q : Nat} (h : (q : Int) < chunksI l.length s) : chunkL l s q = (l.drop (q * s)).take s := by
  unfold chunkL
  rw [if_pos ⟨by omega, h⟩, ← Int.natCast_mul, Int.toNat_natCast, Int.toNat_natCast]
end Go.Proofs.YtfimoobgbodbmaaGreatDoor
/-! What an attempt at a split comes to, as plain data, and its windows. No program in this text. -/
namespace Go.Proofs.YtfimoobgbodbmaaGreatDoor
set_option linter.unusedVariables false
set_option maxRecDepth 100000

/-- An attempt: its split and number, how many pairs a chunk has, what the split comes to, how many parts there are, how many chunks may be on their way. -/
structure AtV where
  split : Nat
  att : Int
  size : Int
  R : List KV × Int
  parts : Nat
  win : Int
structure AtOk (A : AtV) : Prop where
  s1 : 1 ≤ A.size
  s8 : A.size ≤ 8
  few : A.R.1.length ≤ 40
  small : ∀ x ∈ A.R.1, smallKV x
  p1 : 1 ≤ A.parts
  p4 : A.parts ≤ 4
  w1 : 1 ≤ A.win
  w4 : A.win ≤ 4
def AtV.num (A : AtV) : Nat := if A.R.2 = 0 then A.parts else 0
def AtV.list (A : AtV) (p : Nat) : List KV := onlyL A.R.1 A.parts (p : Int)
def AtV.cnt (A : AtV) (p : Nat) : Int := chunksI (A.list p).length A.size
def AtV.ws0 (A : AtV) : List WinV := (List.range A.num).map fun p => newW (A.cnt p) A.win
def AtV.counts (A : AtV) : List Int := (List.range A.num).map A.cnt
theorem AtV.num_fine {A : AtV} (h : A.R.2 = 0) : A.num = A.parts := if_pos h
theorem AtV.num_not {A : AtV} (h : ¬ A.R.2 = 0) : A.num = 0 := if_neg h
theorem AtOk.num_le {A : AtV} (h : AtOk A) : A.num ≤ 4 := by
  have := h.p4
  unfold AtV.num
  split <;> omega
theorem only_len (l : List KV) (p q : Int) : (onlyL l p q).length ≤ l.length := List.length_filter_le _ _
theorem AtOk.list_le {A : AtV} (h : AtOk A) (p : Nat) : (A.list p).length ≤ 40 := Nat.le_trans (only_len _ _ _) h.few
theorem AtOk.list_small {A : AtV} (h : AtOk A) (p : Nat) : ∀ x ∈ A.list p, smallKV x := onlyL_small h.small
theorem AtOk.cnt_bd {A : AtV} (h : AtOk A) (p : Nat) : 0 ≤ A.cnt p ∧ A.cnt p ≤ 40 := by
  have h1 := chunksI_bd (A.list p).length A.size (by omega)
  have h2 := h.list_le p
  unfold AtV.cnt
  omega
theorem AtOk.mayW {A : AtV} (h : AtOk A) (p : Nat) : mayW (A.cnt p) A.win = true := by
  have h1 := h.cnt_bd p
  have h2 := h.w1
  have h3 := h.w4
  unfold Go.Proofs.YtfimoobgbodbmaaGreatDoor.mayW
  simp only [Bool.and_eq_true, decide_eq_true_eq]
  omega
theorem counts_len (A : AtV) : A.counts.length = A.num := by simp [AtV.counts]
theorem counts_at {A : AtV} {p : Nat} (h : p < A.num) : A.counts[p]? = some (A.cnt p) := by simp [AtV.counts, h]
/-- Windows of an attempt, as acks left them. -/
structure WsOk (A : AtV) (ws : List WinV) : Prop where
  len : ws.length = A.num
  ok : ∀ x ∈ ws, WinOk x
  at_ : ∀ (p : Nat) x, ws[p]? = some x → x.count = A.cnt p ∧ x.size = A.win
theorem ws0_at {A : AtV} {p : Nat} (h : p < A.num) : A.ws0[p]? = some (newW (A.cnt p) A.win) := by simp [AtV.ws0, h]
theorem ws0_ok {A : AtV} (h : AtOk A) : WsOk A A.ws0 := by
  refine ⟨by simp [AtV.ws0], fun x hx => ?_, fun p x hx => ?_⟩
  · unfold AtV.ws0 at hx
    obtain ⟨p, _, rfl⟩ := List.mem_map.1 hx
    exact newW_ok (h.mayW p)
  · have hp : p < A.num := by have := (List.getElem?_eq_some_iff.1 hx).1; simpa [AtV.ws0] using this
    rw [ws0_at hp] at hx
    cases hx
    exact ⟨rfl, rfl⟩
theorem WsOk.at_ok {A : AtV} {ws : List WinV} (h : WsOk A ws) {p : Nat} {x : WinV} (hx : ws[p]? = some x) : WinOk x := h.ok x (List.mem_of_getElem? hx)
theorem WsOk.ack {A : AtV} {ws : List WinV} (h : WsOk A ws) {p : Nat} {x : WinV} (hx : ws[p]? = some x) (e n : Int) : WsOk A (ws.set p (ackW x e n)) := by
  refine ⟨by rw [List.length_set]; exact h.len, fun y hy => ?_, fun q y hy => ?_⟩
  · rcases List.mem_or_eq_of_mem_set hy with hy | rfl
    · exact h.ok y hy
    · exact ackW_ok (h.at_ok hx) e n
  · by_cases hq : p = q
    · subst hq
      rw [List.getElem?_set_self (List.getElem?_eq_some_iff.1 hx).1] at hy
      cases hy
      rw [ackW_count, ackW_size]
      exact h.at_ p x hx
    · rw [List.getElem?_set_ne hq] at hy
      exact h.at_ q y hy
/-- The acks that are heeded, of whatever part. -/
def ackWs (ws : List WinV) (p e n : Int) : List WinV := if 0 ≤ p ∧ p < ws.length then ws.modify p.toNat (fun x => ackW x e n) else ws
def doneA (ws : List WinV) : Bool := ws.all doneW
theorem push_lenA {A : AtV} (hA : AtOk A) {ws : List WinV} (h : WsOk A ws) : (pushFrom 0 ws).length ≤ 16 := by
  have h1 := push_len 0 h.ok
  have h2 := h.len
  have h3 := hA.num_le
  omega
/-- What stands at a place of all that is pushed. -/
theorem push_bd {A : AtV} {ws : List WinV} (h : WsOk A ws) {k p : Nat} {s : Int} (hk : (pushFrom 0 ws)[k]? = some (p, s)) : p < A.num ∧ 0 ≤ s ∧ s < A.cnt p ∧ ∃ x, ws[p]? = some x ∧ s = x.next + (manyL ((pushFrom 0 ws).take k) p : Nat) ∧ ((manyL ((pushFrom 0 ws).take k) p : Nat) : Int) < A.win := by
  obtain ⟨j, x, i, rfl, hx, hi, hs, hm⟩ := push_at hk
  rw [Nat.zero_add] at hm ⊢
  have hl := (List.getElem?_eq_some_iff.1 hx).1
  rw [h.len] at hl
  have ho := openN_eq (h.at_ok hx)
  have hc := h.at_ j x hx
  have h0 := (h.at_ok hx).n0
  rw [hc.1, hc.2] at ho
  refine ⟨hl, by omega, by omega, x, hx, by rw [hm]; exact hs, by rw [hm]; omega⟩
/-- Where the windows are done nothing is pushed. -/
theorem no_streams {A : AtV} {ws : List WinV} (h : WsOk A ws) (hn : ¬ A.R.2 = 0) : ws = [] := by
  have := h.len
  rw [AtV.num_not hn] at this
  exact List.eq_nil_of_length_eq_zero this
/-- The job with one split alone, and no marks. -/
def aloneJ (j : JobV) (l : List KV) : JobV := { j with splits := [l], marks := [] }
theorem alone_may {j : JobV} (h : mayJ j = true) {l : List KV} (hl : l ∈ j.splits) : mayJ (aloneJ j l) = true := by
  unfold mayJ at h ⊢
  simp only [Bool.and_eq_true] at h ⊢
  obtain ⟨⟨⟨⟨⟨⟨⟨⟨⟨⟨⟨⟨h1, h2⟩, h3⟩, h4⟩, h5⟩, h6⟩, h7⟩, h8⟩, h9⟩, h10⟩, h11⟩, h12⟩, h13⟩ := h
  refine ⟨⟨⟨⟨⟨⟨⟨⟨⟨⟨⟨⟨(show inI 1 1 6 = true by decide), h2⟩, h3⟩, h4⟩, h5⟩, h6⟩, h7⟩, ?_⟩, h9⟩, h10⟩, h11⟩, (show decide (([] : List Int).length ≤ 4) = true from rfl)⟩, (show marksJ 1 [] = true by decide)⟩
  have := List.all_eq_true.1 h8 l hl
  simp [aloneJ, this]
/-- Attempt a at split k of c's job. -/
def attV (c : CfgV) (k : Nat) (a : Int) : AtV := ⟨k, a, sizeI c.job.chunk a, splitL c.job.mp c.job.cb c.job.fuel (c.job.splits.getD k []), c.job.parts.toNat, c.job.window⟩
theorem mayC_job {c : CfgV} (h : mayC c = true) : mayJ c.job = true := by
  unfold mayC at h
  simp only [Bool.and_eq_true] at h
  exact h.1.1.1
theorem mayC_tries {c : CfgV} (h : mayC c = true) : 1 ≤ c.tries ∧ c.tries ≤ 3 := by
  unfold mayC at h
  simp only [Bool.and_eq_true, inI_iff] at h
  exact h.1.2
theorem mayJ_nums {j : JobV} (h : mayJ j = true) : (1 ≤ j.parts ∧ j.parts ≤ 4) ∧ (1 ≤ j.chunk ∧ j.chunk ≤ 7) ∧ (1 ≤ j.window ∧ j.window ≤ 4) ∧ 1 ≤ j.splits.length ∧ j.splits.length ≤ 6 := by
  unfold mayJ at h
  simp only [Bool.and_eq_true, inI_iff] at h
  obtain ⟨⟨⟨⟨⟨⟨⟨⟨⟨⟨⟨⟨h1, h2⟩, h3⟩, h4⟩, h5⟩, h6⟩, h7⟩, h8⟩, h9⟩, h10⟩, h11⟩, h12⟩, h13⟩ := h
  omega
theorem atV_ok {c : CfgV} (h : mayC c = true) (h2 : ∀ x ∈ c.job.mp, I64 x.2.1) (h3 : ∀ x ∈ c.job.cb, I64 x.2.1) (k : Nat) (a : Int) : AtOk (attV c k a) := by
  obtain ⟨⟨p1, p4⟩, ⟨c1, c7⟩, ⟨w1, w4⟩, _⟩ := mayJ_nums (mayC_job h)
  refine ⟨?_, ?_, splitL_few _ _ _ _, splitL_ok h2 h3 _ _, ?_, ?_, w1, w4⟩
  · show 1 ≤ sizeI c.job.chunk a
    unfold sizeI
    split <;> omega
  · show sizeI c.job.chunk a ≤ 8
    unfold sizeI
    split <;> omega
  · show 1 ≤ c.job.parts.toNat
    omega
  · show c.job.parts.toNat ≤ 4
    omega
end Go.Proofs.YtfimoobgbodbmaaGreatDoor
/-! package mapper: its object, an attempt whose output is not made yet, or made; what belongs to it. -/
namespace Go.Proofs.YtfimoobgbodbmaaGreatDoor
open Go.RowKit Go.Lib
set_option linter.unusedVariables false
set_option maxRecDepth 100000

/-- The object: its split and number, its once, what is made alone, what was made. -/
abbrev mpObj (k : Nat) (a d l : Int) (j0 : Value) (j1 : Int) (j2 j3 j4 : Value) (j5 j6 j7 : Int) (why : Int) (st : Value) : Obj := .cells #[.int .i64 k, .int .i64 a, .int .u32 d, .int .i32 l, .int .u32 0, j0, .int .i64 j1, j2, j3, j4, .int .i64 j5, .int .i64 j6, .int .i64 j7, .slice none 0 0, .int .i64 why, st] 90 (0, 0)
/-- What is asked of a block where a slice lies. -/
def InB (I : Nat → Prop) (v : Value) : Prop := ∀ g, v.ownBlock = some g → I g
/-- What was there, and what has been made since. -/
def Grow (I : Nat → Prop) (w w' : World) (g : Nat) : Prop := I g ∨ (w.heap.size ≤ g ∧ g < w'.heap.size)
theorem Grow.old {I : Nat → Prop} {w w' : World} {g : Nat} (h : I g) : Grow I w w' g := .inl h
theorem Is.noneK (w : World) : Is w (.slice none 0 0) [] := ⟨none, 0, rfl, Nat.le_refl _, by unfold maxLen; omega, fun _ => ⟨rfl, rfl⟩, fun h => absurd rfl h⟩
/-- A job of one split: its lists, each owned. -/
structure FrJ (B : Nat) (s : SlJ) (j : JobV) (l : List KV) (I : Nat → Prop) (w : World) : Prop where
  sp : ∃ x, w.ownsRow B 51 1 (.slice s.so 1 s.sc) 1 [x] ∧ w.ownsRow B 105 2 x l.length (fl encP l) ∧ InB I (.slice s.so 1 s.sc) ∧ InB I x
  mp : w.ownsRow B 118 3 (.slice s.mo j.mp.length s.mc) j.mp.length (icl j.mp) ∧ InB I (.slice s.mo j.mp.length s.mc)
  cb : w.ownsRow B 118 3 (.slice s.co j.cb.length s.cc) j.cb.length (icl j.cb) ∧ InB I (.slice s.co j.cb.length s.cc)
  rd : w.ownsRow B 118 3 (.slice s.ro j.rd.length s.rc) j.rd.length (icl j.rd) ∧ InB I (.slice s.ro j.rd.length s.rc)
  ko : s.ko = none
  kc : s.kc = 0
section
variable {B : Nat} {s : SlJ} {j : JobV} {l : List KV} {I : Nat → Prop} {w w' : World}
theorem FrJ.sav {S : Nat → Prop} (h : FrJ B s j l I w) (hs : Sav S w w') (hn : ∀ g, I g → ¬ S g) : FrJ B s j l I w' := by
  obtain ⟨⟨x, h1, h2, h3, h4⟩, ⟨m1, m2⟩, ⟨c1, c2⟩, ⟨r1, r2⟩, k1, k2⟩ := h
  exact ⟨⟨x, owns_sav h1 hs fun g hg => hn g (h3 g hg), owns_sav h2 hs fun g hg => hn g (h4 g hg), h3, h4⟩, ⟨owns_sav m1 hs fun g hg => hn g (m2 g hg), m2⟩, ⟨owns_sav c1 hs fun g hg => hn g (c2 g hg), c2⟩, ⟨owns_sav r1 hs fun g hg => hn g (r2 g hg), r2⟩, k1, k2⟩
theorem FrJ.mono {J : Nat → Prop} (h : FrJ B s j l I w) (hj : ∀ g, I g → J g) : FrJ B s j l J w := by
  obtain ⟨⟨x, h1, h2, h3, h4⟩, ⟨m1, m2⟩, ⟨c1, c2⟩, ⟨r1, r2⟩, k1, k2⟩ := h
  exact ⟨⟨x, h1, h2, fun g hg => hj g (h3 g hg), fun g hg => hj g (h4 g hg)⟩, ⟨m1, fun g hg => hj g (m2 g hg)⟩, ⟨c1, fun g hg => hj g (c2 g hg)⟩, ⟨r1, fun g hg => hj g (r2 g hg)⟩, k1, k2⟩
theorem FrJ.job (h : FrJ B s j l I w) : JobIs w s.so s.mo s.co s.ro s.ko s.sc s.mc s.cc s.rc s.kc (aloneJ j l) := by
  obtain ⟨⟨x, h1, h2, h3, h4⟩, ⟨m1, m2⟩, ⟨c1, c2⟩, ⟨r1, r2⟩, k1, k2⟩ := h
  refine ⟨⟨[x], Reads.own encL_len (by decide) (by rw [fl_encL]; exact h1), rfl, fun i m hi => ?_⟩, Co.own m1, Co.own c1, Co.own r1, ?_⟩
  · match i, hi with
    | 0, hi =>
      cases hi
      exact ⟨x, rfl, Reads.own encP_len (by decide) h2⟩
    | i + 1, hi => cases hi
  · rw [k1, k2]
    exact Is.noneK w
end
/-- A configuration, a split and an attempt that may be, over the world that came in. -/
structure Base (W : World) (c : CfgV) (k : Nat) (a : Int) : Prop where
  may : mayC c = true
  fit : JobFit c.job
  tabs : Tabs W
  lt : k < c.job.splits.length
  a1 : 1 ≤ a
  a3 : a ≤ c.tries
theorem Base.at {W : World} {c : CfgV} {k : Nat} {a : Int} (h : Base W c k a) : AtOk (attV c k a) := atV_ok h.may h.fit.mp h.fit.cb k a
/-- Not made yet: an object in block b, made behind W; d and l are its once's cells. -/
structure Fr (W : World) (c : CfgV) (k : Nat) (a : Int) (b : Nat) (s : SlJ) (lk : Int) (I : Nat → Prop) (w : World) : Prop where
  bel : Below W.heap.size W w
  obj : w.heap[b]? = some (mpObj k a 0 lk (.slice s.so 1 s.sc) c.job.parts (.slice s.mo c.job.mp.length s.mc) (.slice s.co c.job.cb.length s.cc) (.slice s.ro c.job.rd.length s.rc) c.job.chunk c.job.window c.job.fuel 0 (.slice none 0 0))
  job : FrJ W.heap.size s c.job (c.job.splits.getD k []) I w
  inb : I b
  nb : InB (fun g => g ≠ b) (.slice s.so 1 s.sc)
  bd : ∀ g, I g → W.heap.size ≤ g ∧ g < w.heap.size
/-- A stream: where its pairs lie, its window's block. -/
structure SX where
  u : Value
  b : Nat
def encS (sz : Int) (z : SX) : List Value := [z.u, .int .i64 sz, pt z.b]
theorem encS_len (sz : Int) : ∀ z, (encS sz z).length = 3 := fun _ => rfl
/-- Streams of the first parts, in a row v. -/
structure Sts (B : Nat) (A : AtV) (ws : List WinV) (Z : List SX) (v : Value) (w : World) : Prop where
  row : w.ownsRow B 98 3 v Z.length (fl (encS A.size) Z)
  len : Z.length = ws.length
  prs : ∀ (p : Nat) z, Z[p]? = some z → w.ownsRow B 105 2 z.u (A.list p).length (fl encP (A.list p))
  win : ∀ (p : Nat) z x, Z[p]? = some z → ws[p]? = some x → Wn 125 z.b x w
  low : ∀ (p : Nat) z, Z[p]? = some z → B ≤ z.b
  ne : ∀ (p q : Nat) z y, Z[p]? = some z → Z[q]? = some y → z.b = y.b → p = q
/-- What belongs to streams. -/
def InS (Z : List SX) (v : Value) (g : Nat) : Prop := v.ownBlock = some g ∨ ∃ z ∈ Z, z.u.ownBlock = some g ∨ z.b = g
section
variable {B : Nat} {A : AtV} {ws : List WinV} {Z : List SX} {v : Value} {w w' : World}
theorem Sts.at (h : Sts B A ws Z v w) {p : Nat} (hp : p < Z.length) : ∃ z x, Z[p]? = some z ∧ ws[p]? = some x :=
  ⟨Z[p], ws[p]'(by rw [← h.len]; exact hp), List.getElem?_eq_getElem hp, List.getElem?_eq_getElem _⟩
theorem Sts.lt (h : Sts B A ws Z v w) {g : Nat} (hg : InS Z v g) : B ≤ g ∧ g < w.heap.size := by
  rcases hg with hg | ⟨z, hz, hg⟩
  · exact h.row.lt g hg
  · obtain ⟨p, hp, rfl⟩ := List.getElem_of_mem hz
    obtain ⟨z, x, hz, hx⟩ := h.at hp
    rw [List.getElem?_eq_getElem hp] at hz
    cases hz
    rcases hg with hg | rfl
    · exact (h.prs p _ (List.getElem?_eq_getElem hp)).lt g hg
    · exact ⟨h.low p _ (List.getElem?_eq_getElem hp), (h.win p _ x (List.getElem?_eq_getElem hp) hx).lt⟩
theorem Sts.sav {S : Nat → Prop} (h : Sts B A ws Z v w) (hs : Sav S w w') (hn : ∀ g, InS Z v g → ¬ S g) : Sts B A ws Z v w' :=
  ⟨owns_sav h.row hs fun g hg => hn g (.inl hg), h.len, fun p z hz => owns_sav (h.prs p z hz) hs fun g hg => hn g (.inr ⟨z, List.mem_of_getElem? hz, .inl hg⟩), fun p z x hz hx => (h.win p z x hz hx).sav hs (hn _ (.inr ⟨z, List.mem_of_getElem? hz, .inr rfl⟩)), h.low, h.ne⟩
theorem Sts.below (h : Sts B A ws Z v w) (hb : Below w.heap.size w w') : Sts B A ws Z v w' := h.sav (Sav.of_below (S := Non) hb) fun _ _ h => h
theorem Sts.mono {C : Nat} (h : Sts B A ws Z v w) (hc : C ≤ B) : Sts C A ws Z v w :=
  ⟨owns_mono h.row hc, h.len, fun p z hz => owns_mono (h.prs p z hz) hc, h.win, fun p z hz => Nat.le_trans hc (h.low p z hz), h.ne⟩
theorem Sts.nil (B : Nat) (A : AtV) (w : World) : Sts B A [] [] (.slice none 0 0) w :=
  ⟨World.ownsRow_nil _ _ _ _, rfl, (fun p z h => by simp at h), (fun p z x h => by simp at h), (fun p z h => by simp at h), (fun p q z y h => by simp at h)⟩
/-- One stream more. -/
theorem Sts.more {v' : Value} {z : SX} {x : WinV} (h : Sts B A ws Z v w) (hz : w.ownsRow B 105 2 z.u (A.list Z.length).length (fl encP (A.list Z.length))) (hx : Wn 125 z.b x w) (hB : B ≤ z.b) (hn : ∀ y ∈ Z, y.b ≠ z.b)
    (h' : w'.ownsRow B 98 3 v' (Z.length + 1) (fl (encS A.size) Z ++ encS A.size z)) (hg : w.grownBy w' v.ownBlock) : Sts B A (ws ++ [x]) (Z ++ [z]) v' w' := by
  have hwn : ∀ {y : Nat} {q : WinV}, Wn 125 y q w → Wn 125 y q w' := fun {y q} hy => (hg.block y (lt_of_block hy) (owns_ne h.row hy (by decide))).trans hy
  have hl := h.len
  refine ⟨?_, by simp [hl], fun p y hy => ?_, fun p y q hy hq => ?_, fun p y hy => ?_, fun p q y t hy ht e => ?_⟩
  · rw [List.length_append, fl_append]
    simpa [fl] using h'
  · rcases Nat.lt_or_ge p Z.length with hp | hp
    · rw [List.getElem?_append_left hp] at hy
      exact owns_grown (h.prs p y hy) h.row (by decide) hg
    · rw [List.getElem?_append_right hp] at hy
      have hp0 : p - Z.length = 0 := by have := (List.getElem?_eq_some_iff.1 hy).1; simpa using this
      rw [hp0] at hy
      cases hy
      obtain rfl : p = Z.length := by omega
      exact owns_grown hz h.row (by decide) hg
  · rcases Nat.lt_or_ge p Z.length with hp | hp
    · rw [List.getElem?_append_left hp] at hy
      rw [List.getElem?_append_left (by omega)] at hq
      exact hwn (h.win p y q hy hq)
    · rw [List.getElem?_append_right hp] at hy
      rw [List.getElem?_append_right (by omega)] at hq
      have hp0 : p - Z.length = 0 := by have := (List.getElem?_eq_some_iff.1 hy).1; simpa using this
      rw [hp0] at hy
      rw [← hl, hp0] at hq
      cases hy
      cases hq
      exact hwn hx
  · rcases Nat.lt_or_ge p Z.length with hp | hp
    · rw [List.getElem?_append_left hp] at hy
      exact h.low p y hy
    · rw [List.getElem?_append_right hp] at hy
      have hp0 : p - Z.length = 0 := by have := (List.getElem?_eq_some_iff.1 hy).1; simpa using this
      rw [hp0] at hy
      cases hy
      exact hB
  · rcases Nat.lt_or_ge p Z.length with hp | hp
    · rw [List.getElem?_append_left hp] at hy
      rcases Nat.lt_or_ge q Z.length with hq | hq
      · rw [List.getElem?_append_left hq] at ht
        exact h.ne p q y t hy ht e
      · rw [List.getElem?_append_right hq] at ht
        have hq0 : q - Z.length = 0 := by have := (List.getElem?_eq_some_iff.1 ht).1; simpa using this
        rw [hq0] at ht
        cases ht
        exact absurd e (hn y (List.mem_of_getElem? hy))
    · rw [List.getElem?_append_right hp] at hy
      have hp0 : p - Z.length = 0 := by have := (List.getElem?_eq_some_iff.1 hy).1; simpa using this
      rw [hp0] at hy
      cases hy
      rcases Nat.lt_or_ge q Z.length with hq | hq
      · rw [List.getElem?_append_left hq] at ht
        exact absurd e.symm (hn t (List.mem_of_getElem? ht))
      · have hq1 := (List.getElem?_eq_some_iff.1 ht).1
        rw [List.length_append] at hq1
        simp at hq1
        omega
/-- A stream, as it lies in the row. -/
theorem Sts.cells {ao : Option Addr} {m cap : Nat} (h : Sts B A ws Z (.slice ao m cap) w) {p : Nat} (hp : p < Z.length) :
    ∃ g off z x xo xc, Z[p]? = some z ∧ ws[p]? = some x ∧ z.u = .slice xo (A.list p).length xc ∧ ao = some ⟨g, off, none⟩ ∧ g < w.heap.size ∧ w.cell? ⟨g, off + p * 3, none⟩ = some (.slice xo (A.list p).length xc) ∧ w.cell? ⟨g, off + p * 3 + 1, none⟩ = some (.int .i64 A.size) ∧ w.cell? ⟨g, off + p * 3 + 2, none⟩ = some (pt z.b) := by
  have hr : Reads 3 (encS A.size) w (.slice ao m cap) Z := Reads.own (encS_len _) (by decide) h.row
  obtain ⟨g, off, e, hlt, hc⟩ := hr.cells (j := p) hp
  obtain ⟨z, x, hz, hx⟩ := h.at hp
  rw [List.getElem?_eq_getElem hp] at hz
  cases hz
  obtain ⟨xo, xc, hu⟩ := own_slice (h.prs p _ (List.getElem?_eq_getElem hp))
  exact ⟨g, off, Z[p], x, xo, xc, List.getElem?_eq_getElem hp, hx, hu, e, hlt, (hc 0 _ rfl).trans (congrArg some hu), hc 1 _ rfl, hc 2 _ rfl⟩
/-- A window has turned. -/
theorem Sts.turn {p : Nat} {z : SX} {y : WinV} (h : Sts B A ws Z v w) (hz : Z[p]? = some z) (hw : Wn 125 z.b y w') (hs : Sav (Just z.b) w w') : Sts B A (ws.set p y) Z v w' := by
  obtain ⟨x, hx⟩ : ∃ x, ws[p]? = some x := by
    have := (List.getElem?_eq_some_iff.1 hz).1
    rw [h.len] at this
    exact ⟨_, List.getElem?_eq_getElem this⟩
  have hb := h.win p z x hz hx
  have ho : ∀ {base e s n : Nat} {u : Value} {xs : List Value}, w.ownsRow base e s u n xs → 125 ≠ e → w'.ownsRow base e s u n xs := fun {base e s n u xs} ho he => owns_sav ho hs fun g hg e1 => owns_ne ho hb he (by rw [hg, show g = z.b from e1])
  refine ⟨ho h.row (by decide), by rw [List.length_set]; exact h.len, fun q t ht => ho (h.prs q t ht) (by decide), fun q t r ht hr => ?_, h.low, h.ne⟩
  by_cases e : p = q
  · subst e
    rw [hz] at ht
    cases ht
    rw [List.getElem?_set_self (List.getElem?_eq_some_iff.1 hx).1] at hr
    cases hr
    exact hw
  · rw [List.getElem?_set_ne e] at hr
    exact (h.win q t r ht hr).sav hs fun e1 => e (h.ne p q z t hz ht (show t.b = z.b from e1).symm)
end
/-- Made: an object in block b, made behind W, its windows as acks left them; d and l are its once's cells. -/
structure MdG (W : World) (A : AtV) (b : Nat) (d l : Int) (ws : List WinV) (Z : List SX) (v : Value) (I : Nat → Prop) (w : World) : Prop where
  bel : Below W.heap.size W w
  obj : w.heap[b]? = some (mpObj A.split A.att d l (.slice none 0 0) 0 (.slice none 0 0) (.slice none 0 0) (.slice none 0 0) 0 0 0 A.R.2 v)
  sts : Sts W.heap.size A ws Z v w
  ok : WsOk A ws
  inb : I b
  ins : ∀ g, InS Z v g → I g
  nb : ¬ InS Z v b
  bd : ∀ g, I g → W.heap.size ≤ g ∧ g < w.heap.size
abbrev Md (W : World) (A : AtV) (b : Nat) (ws : List WinV) (Z : List SX) (v : Value) (I : Nat → Prop) (w : World) : Prop := MdG W A b 1 0 ws Z v I w
section
variable {d l : Int} {W : World} {c : CfgV} {A : AtV} {k b : Nat} {a lk : Int} {s : SlJ} {ws : List WinV} {Z : List SX} {v : Value} {I : Nat → Prop} {w w' : World}
theorem Fr.low (h : Fr W c k a b s lk I w) : W.heap.size ≤ b := (h.bd b h.inb).1
theorem Fr.sav {S : Nat → Prop} (h : Fr W c k a b s lk I w) (hs : Sav S w w') (hn : ∀ g, I g → ¬ S g) (hb : Below W.heap.size W w') : Fr W c k a b s lk I w' :=
  ⟨hb, hs.at h.obj (hn b h.inb), h.job.sav hs hn, h.inb, h.nb, fun g hg => ⟨(h.bd g hg).1, Nat.lt_of_lt_of_le (h.bd g hg).2 hs.size⟩⟩
theorem Fr.below (h : Fr W c k a b s lk I w) (hb : Below w.heap.size w w') : Fr W c k a b s lk I w' :=
  h.sav (Sav.of_below (S := Non) hb) (fun _ _ h => h) (below_then h.bel hb h.bel.size)
theorem MdG.sav {S : Nat → Prop} (h : MdG W A b d l ws Z v I w) (hs : Sav S w w') (hn : ∀ g, I g → ¬ S g) (hb : Below W.heap.size W w') : MdG W A b d l ws Z v I w' :=
  ⟨hb, hs.at h.obj (hn b h.inb), h.sts.sav hs (fun g hg => hn g (h.ins g hg)), h.ok, h.inb, h.ins, h.nb, fun g hg => ⟨(h.bd g hg).1, Nat.lt_of_lt_of_le (h.bd g hg).2 hs.size⟩⟩
theorem MdG.below (h : MdG W A b d l ws Z v I w) (hb : Below w.heap.size w w') : MdG W A b d l ws Z v I w' :=
  h.sav (Sav.of_below (S := Non) hb) (fun _ _ h => h) (below_then h.bel hb h.bel.size)
/-- An ack has turned a window. -/
theorem MdG.turn {p : Nat} {z : SX} {x : WinV} (h : MdG W A b d l ws Z v I w) (hz : Z[p]? = some z) (hx : ws[p]? = some x) (e n : Int) (hw : Wn 125 z.b (ackW x e n) w') (hs : Sav (Just z.b) w w') : MdG W A b d l (ws.set p (ackW x e n)) Z v I w' :=
  ⟨h.bel.trans (hs.below (B := W.heap.size) (fun g hg => by rw [show g = z.b from hg]; exact h.sts.low p z hz) h.bel.size), hs.at h.obj (fun e1 => h.nb (.inr ⟨z, List.mem_of_getElem? hz, .inr (show b = z.b from e1).symm⟩)), h.sts.turn hz hw hs, h.ok.ack hx e n, h.inb, h.ins, h.nb, fun g hg => ⟨(h.bd g hg).1, Nat.lt_of_lt_of_le (h.bd g hg).2 hs.size⟩⟩
end
end Go.Proofs.YtfimoobgbodbmaaGreatDoor
