/- Chunks, over numbers and lists: no program in this text. -/
import Derived.WalkKit
namespace Go.Proofs.Ythjoomcannfnjaa
open Go.RowKit
set_option linter.unusedVariables false

/-- n by s, up. -/
def chunksI (n s : Int) : Int := if n < 1 ∨ s < 1 then 0 else (n - 1) / s + 1
/-- An attempt's size. -/
def sizeI (c a : Int) : Int := if a % 2 = 0 then c else c + 1
theorem chunksI_pos {n s : Int} (hn : 1 ≤ n) (hs : 1 ≤ s) : chunksI n s = (n - 1) / s + 1 := by
  unfold chunksI
  rw [if_neg (by omega)]
theorem chunksI_none {n s : Int} (h : n < 1 ∨ s < 1) : chunksI n s = 0 := by
  unfold chunksI
  rw [if_pos h]
theorem chunksI_bd (n s : Int) (hn : 0 ≤ n) : 0 ≤ chunksI n s ∧ chunksI n s ≤ n := by
  unfold chunksI
  split
  · omega
  · have h1 : (n - 1) / s ≤ n - 1 := Int.ediv_le_self s (by omega)
    have h2 : 0 ≤ (n - 1) / s := Int.ediv_nonneg (by omega) (by omega)
    omega
theorem chunksI_bd' (n s : Int) : 0 ≤ chunksI n s ∧ (chunksI n s ≤ n ∨ chunksI n s = 0) := by
  by_cases h : 0 ≤ n
  · exact ⟨(chunksI_bd n s h).1, .inl (chunksI_bd n s h).2⟩
  · rw [chunksI_none (.inl (by omega))]
    omega
/-- A chunk that there is begins inside. -/
theorem seq_lt {n s q : Int} (h0 : 0 ≤ q) (h : q < chunksI n s) : 1 ≤ n ∧ 1 ≤ s ∧ q * s < n := by
  by_cases hc : n < 1 ∨ s < 1
  · rw [chunksI_none hc] at h
    omega
  · rw [chunksI_pos (by omega) (by omega)] at h
    have h1 : q ≤ (n - 1) / s := by omega
    have h2 := (Int.le_ediv_iff_mul_le (by omega : (0 : Int) < s)).1 h1
    exact ⟨by omega, by omega, by omega⟩
/-- And behind the last one there is nothing left. -/
theorem chunksI_mul {n s : Int} (hs : 1 ≤ s) : n ≤ chunksI n s * s := by
  by_cases hn : n < 1
  · rw [chunksI_none (.inl hn)]
    omega
  · rw [chunksI_pos (by omega) hs]
    have h1 := Int.lt_ediv_add_one_mul_self (n - 1) (by omega : (0 : Int) < s)
    omega
theorem chunksI_le {n s k : Int} (hs : 1 ≤ s) (hk : 0 ≤ k) (h : n ≤ k * s) : chunksI n s ≤ k := by
  by_cases hc : k < chunksI n s
  · have := seq_lt hk hc
    omega
  · omega
theorem chunksI_more {n s m : Int} (hs : 1 ≤ s) (hm : 0 ≤ m) : chunksI n (s + m) ≤ chunksI n s := by
  have h := chunksI_mul (n := n) hs
  have h0 := (chunksI_bd' n s).1
  refine chunksI_le (by omega) h0 ?_
  have : 0 ≤ chunksI n s * m := Int.mul_nonneg h0 hm
  rw [Int.mul_add]
  omega
theorem chunksI_grows {n s m : Int} (hs : 1 ≤ s) (hm : 0 ≤ m) : chunksI n s ≤ chunksI (n + m) s := by
  have h := chunksI_mul (n := n + m) hs
  exact chunksI_le hs (chunksI_bd' _ _).1 (by omega)

theorem sizeI_even {c a : Int} (h : a % 2 = 0) : sizeI c a = c := if_pos h
theorem sizeI_odd {c a : Int} (h : ¬ a % 2 = 0) : sizeI c a = c + 1 := if_neg h
theorem tmod_two (a : Int) : a.tmod 2 = 0 ↔ a % 2 = 0 := by
  rw [Int.tmod_eq_emod]
  split <;> omega

/-- Chunk q of l. -/
def chunkL {α : Type} (l : List α) (s q : Int) : List α := if 0 ≤ q ∧ q < chunksI l.length s then (l.drop (q * s).toNat).take s.toNat else []
theorem chunkL_len {α : Type} (l : List α) (s q : Int) : (chunkL l s q).length ≤ l.length := by
  unfold chunkL
  split
  · rw [List.length_take, List.length_drop]
    omega
  · simp
theorem chunkL_none {α : Type} {l : List α} {s q : Int} (h : ¬ (0 ≤ q ∧ q < chunksI l.length s)) : chunkL l s q = [] := by
  unfold chunkL
  rw [if_neg h]
theorem chunkL_some {α : Type} {l : List α} {s q : Nat} (h : (q : Int) < chunksI l.length s) : chunkL l s q = (l.drop (q * s)).take s := by
  unfold chunkL
  rw [if_pos ⟨by omega, h⟩, ← Int.natCast_mul, Int.toNat_natCast, Int.toNat_natCast]
end Go.Proofs.Ythjoomcannfnjaa
