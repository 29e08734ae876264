/- The plain mathematics of numbers as eight bytes, the highest first, and of bytes as cells: nothing of the program is in it. -/
import Derived.WalkKit
import Derived.Lib.AppendStr
import Derived.Laws.BytesArg
import Derived.Laws.BitsAllLaws
namespace Go.Proofs.Ytpkobobandcclaa
open Go.RowKit

/-- Byte m (0: the highest) of the number n as 64 bits. -/
def byt (n : Int) (m : Nat) : Int := IntKind.u64.wrap n / 2 ^ (56 - 8 * m) % 256
/-- The eight bytes of n, the highest first. -/
def be8 (n : Int) : List Int := (List.range 8).map (byt n)
/-- Bytes as cells. -/
def cel (l : List Int) : List Value := l.map (Value.int .u8)

theorem cel_length (l : List Int) : (cel l).length = l.length := by simp [cel]
theorem cel_append (a b : List Int) : cel (a ++ b) = cel a ++ cel b := by simp [cel]
theorem cel_one (x : Int) : cel [x] = [Value.int .u8 x] := rfl
theorem be8_length (n : Int) : (be8 n).length = 8 := by simp [be8]
theorem be8_take (n : Int) (m : Nat) (h : m < 8) : (be8 n).take (m + 1) = (be8 n).take m ++ [byt n m] := by
  rw [List.take_succ_eq_append_getElem (by rw [be8_length]; exact h)]
  simp [be8]
theorem be8_take8 (n : Int) : (be8 n).take 8 = be8 n := by rw [List.take_of_length_le (by rw [be8_length]; omega)]

theorem uwrap_eq (n : Int) : IntKind.u64.wrap n = n % 18446744073709551616 := by
  simp [IntKind.wrap, IntKind.bits, IntKind.signed]
theorem uwrap_bd (n : Int) : 0 ≤ IntKind.u64.wrap n ∧ IntKind.u64.wrap n < 18446744073709551616 := by
  rw [uwrap_eq]; omega
theorem byt_bd (n : Int) (m : Nat) : 0 ≤ byt n m ∧ byt n m < 256 := by unfold byt; omega

/-- x, from 0 to below n. -/
def low (x n : Int) : Int := IntKind.u64.wrap x % n
theorem low_bd (x n : Int) (h : 1 ≤ n) : 0 ≤ low x n ∧ low x n < n := by
  unfold low; exact ⟨Int.emod_nonneg _ (by omega), Int.emod_lt_of_pos _ (by omega)⟩
theorem low_eq (x n : Int) (h1 : 1 ≤ n) (h2 : n ≤ 4611686018427387904) : wrap64 ((IntKind.u64.wrap x).tmod n) = low x n := by
  have hb := low_bd x n h1
  rw [Int.tmod_eq_emod_of_nonneg (uwrap_bd x).1]
  exact IntWalk.wrap64_in _ ⟨by unfold low at hb; omega, by unfold low at hb; omega⟩

/-- v is a slice of bytes that reads as l in the world w. -/
def Bs (w : World) (v : Value) (l : List Int) : Prop :=
  ∃ ao cap, v = .slice ao l.length cap ∧ l.length ≤ cap ∧ cap ≤ maxLen ∧ (ao = none → l = [] ∧ cap = 0) ∧
    (l ≠ [] → ∃ b off, ao = some ⟨b, off, none⟩ ∧ b < w.heap.size ∧ ∀ j, j < l.length → w.cell? ⟨b, off + j, none⟩ = some (.int .u8 (l.getD j 0)))

theorem Bs.nil (w : World) : Bs w (.slice none 0 0) [] := ⟨none, 0, rfl, Nat.le_refl _, by unfold maxLen; omega, fun _ => ⟨rfl, rfl⟩, fun h => absurd rfl h⟩

theorem Bs.below {w w' : World} {v : Value} {l : List Int} (h : Bs w v l) (hb : Below w.heap.size w w') : Bs w' v l := by
  obtain ⟨ao, cap, rfl, h1, h2, h3, h4⟩ := h
  refine ⟨ao, cap, rfl, h1, h2, h3, fun hl => ?_⟩
  obtain ⟨b, off, rfl, hlt, hc⟩ := h4 hl
  exact ⟨b, off, rfl, Nat.lt_of_lt_of_le hlt hb.size, fun j hj => (hb.cell (p := ⟨b, off + j, none⟩) hlt).trans (hc j hj)⟩

theorem Bs.drew {w : World} {v : Value} {l : List Int} (h : Bs w v l) : Bs w.drew v l := h.below ((Below.refl _ _).drew)

theorem add_plain (b off j : Nat) : (⟨b, off, none⟩ : Addr).add j = ⟨b, off + j, none⟩ := by unfold Addr.add; split <;> simp_all

theorem cel_get {l : List Int} {j : Nat} {u : Value} (h : (cel l)[j]? = some u) : j < l.length ∧ u = .int .u8 (l.getD j 0) := by
  have hj : j < l.length := by
    rcases Nat.lt_or_ge j l.length with h' | h'
    · exact h'
    · rw [List.getElem?_eq_none (by rw [cel_length]; exact h')] at h; cases h
  refine ⟨hj, ?_⟩
  simp [cel, List.getElem?_eq_getElem hj] at h
  simp [List.getD, List.getElem?_eq_getElem hj, h]

theorem cel_at {l : List Int} {j : Nat} (h : j < l.length) : (cel l)[j]? = some (.int .u8 (l.getD j 0)) := by
  simp [cel, List.getElem?_eq_getElem h, List.getD]

theorem cel_oneCell (l : List Int) : ∀ u ∈ cel l, u.oneCell' = true := by
  intro u hu
  simp only [cel, List.mem_map] at hu
  obtain ⟨x, _, rfl⟩ := hu
  rfl

/-- What a slice that reads as l holds, cell by cell, as append asks it, in a later world. -/
theorem Bs.news {w w1 : World} {ao : Option Addr} {n cap : Nat} {l : List Int} (h : Bs w (.slice ao n cap) l) (hb : Below w.heap.size w w1) :
    ∀ ad, ao = some ad → ∀ j u, (cel l)[j]? = some u → w1.cell? (ad.add j) = some u := by
  intro ad had j u hu
  obtain ⟨hj, rfl⟩ := cel_get hu
  obtain ⟨ao', cap', hv, h1, h2, h3, h4⟩ := h.below hb
  obtain ⟨b, off, hao, hlt, hc⟩ := h4 (by intro e; rw [e] at hj; simp at hj)
  simp only [Value.slice.injEq] at hv
  obtain ⟨rfl, _, _⟩ := hv
  rw [had] at hao
  cases hao
  rw [add_plain]
  exact hc j hj

/-- What the call owns reads as it must. -/
theorem Bs.own {w : World} {base g n cap : Nat} {l : List Int} (h : w.ownsRow base 5 1 (.slice (some ⟨g, 0, none⟩) n cap) n (cel l)) : Bs w (.slice (some ⟨g, 0, none⟩) n cap) l := by
  have hn : l.length = n := by have := h.1; rw [cel_length] at this; omega
  subst hn
  have hcell := fun j (hj : j < l.length) => (h.cellAt j (by omega)).trans (cel_at hj)
  rcases h.2 with ⟨h', _⟩ | ⟨g', cap', cur, h', hb, hg, hnc, hm, _, _⟩
  · cases h'
  · simp only [Value.slice.injEq, Option.some.injEq, Addr.mk.injEq, and_true, true_and] at h'
    obtain ⟨rfl, rfl⟩ := h'
    exact ⟨some ⟨g, 0, none⟩, cap, rfl, hnc, hm, fun e => (by cases e), fun _ => ⟨g, 0, rfl, (Array.getElem?_eq_some_iff.1 hg).1, fun j hj => by rw [Nat.zero_add]; exact hcell j hj⟩⟩

theorem Bs.take {w : World} {ao : Option Addr} {n cap : Nat} {l : List Int} (h : Bs w (.slice ao n cap) l) (k : Nat) (hk : k ≤ n) : Bs w (.slice ao k cap) (l.take k) := by
  obtain ⟨ao', ca, hv, a1, a2, a3, a4⟩ := h
  cases hv
  have hl : (l.take k).length = k := by rw [List.length_take]; omega
  refine ⟨ao, cap, by rw [hl], by rw [hl]; omega, a2, fun e => ⟨by rw [(a3 e).1]; simp, (a3 e).2⟩, fun hne => ?_⟩
  obtain ⟨b, off, rfl, hb, hc⟩ := a4 (by intro e; rw [e] at hne; simp at hne)
  refine ⟨b, off, rfl, hb, fun j hj => ?_⟩
  rw [hl] at hj
  rw [hc j (by omega)]
  simp [List.getD, hj]

/-- The number that bytes tell, the highest first, as 64 bits. -/
def acc (l : List Int) : Int := l.foldl (fun a b => a * 256 + b) 0
def num8 (l : List Int) : Int := wrap64 (acc l)
/-- Each is a byte. -/
def Byt (l : List Int) : Prop := ∀ x ∈ l, 0 ≤ x ∧ x < 256

theorem Byt.append {a b : List Int} (ha : Byt a) (hb : Byt b) : Byt (a ++ b) := fun x hx => by
  rcases List.mem_append.1 hx with h | h
  · exact ha x h
  · exact hb x h
theorem Byt.be8 (n : Int) : Byt (be8 n) := fun x hx => by
  unfold Ytpkobobandcclaa.be8 at hx
  obtain ⟨m, _, rfl⟩ := List.mem_map.1 hx
  exact byt_bd n m
theorem Byt.nil : Byt [] := fun x hx => by simp at hx
theorem Byt.take {l : List Int} (h : Byt l) (k : Nat) : Byt (l.take k) := fun x hx => h x (List.mem_of_mem_take hx)
theorem Byt.drop {l : List Int} (h : Byt l) (k : Nat) : Byt (l.drop k) := fun x hx => h x (List.mem_of_mem_drop hx)
theorem Byt.getD {l : List Int} (h : Byt l) (k : Nat) : 0 ≤ l.getD k 0 ∧ l.getD k 0 < 256 := by
  rcases Nat.lt_or_ge k l.length with hk | hk
  · have := h l[k] (List.getElem_mem hk)
    simp [List.getD, List.getElem?_eq_getElem hk]; omega
  · simp [List.getD, List.getElem?_eq_none hk]

theorem acc_snoc (l : List Int) (x : Int) : acc (l ++ [x]) = acc l * 256 + x := by simp [acc]
theorem fold_bd : ∀ (l : List Int) (a : Int), Byt l → 0 ≤ a → 0 ≤ l.foldl (fun a b => a * 256 + b) a ∧ l.foldl (fun a b => a * 256 + b) a < (a + 1) * 256 ^ l.length := by
  intro l
  induction l with
  | nil => intro a _ h; simp; omega
  | cons x t ih =>
    intro a h ha
    have hx := h x (by simp)
    have h1 := ih (a * 256 + x) (fun y hy => h y (List.mem_cons_of_mem _ hy)) (by omega)
    refine ⟨h1.1, Int.lt_of_lt_of_le h1.2 ?_⟩
    rw [List.length_cons, Int.pow_succ, Int.mul_comm (256 ^ t.length) 256, ← Int.mul_assoc]
    exact Int.mul_le_mul_of_nonneg_right (by omega) (Int.pow_nonneg (by omega))
theorem acc_bd (l : List Int) (h : Byt l) : 0 ≤ acc l ∧ acc l < 256 ^ l.length := by
  have := fold_bd l 0 h (by omega)
  simpa [acc] using this
theorem acc_step (l : List Int) (hl : Byt l) (at_ k : Nat) (hk : k < 8) (h : at_ + 8 ≤ l.length) :
    bits .or .u64 (IntKind.u64.wrap (acc ((l.drop at_).take k) * 256)) (IntKind.u64.wrap (l.getD (at_ + k) 0)) = acc ((l.drop at_).take (k + 1)) := by
  have hb := acc_bd _ ((hl.drop at_).take k)
  have hlen : ((l.drop at_).take k).length = k := by simp; omega
  rw [hlen] at hb
  have hy := hl.getD (at_ + k)
  have hp : (256 : Int) ^ k ≤ 256 ^ 7 := by
    have : k = 0 ∨ k = 1 ∨ k = 2 ∨ k = 3 ∨ k = 4 ∨ k = 5 ∨ k = 6 ∨ k = 7 := by omega
    rcases this with h | h | h | h | h | h | h | h <;> subst h <;> decide
  have e256 : (256 : Int) ^ 7 = 72057594037927936 := by decide
  rw [List.take_succ_eq_append_getElem (by simp; omega), acc_snoc]
  have hg : (l.drop at_)[k]'(by simp; omega) = l.getD (at_ + k) 0 := by
    simp [List.getD, List.getElem?_eq_getElem (show at_ + k < l.length by omega)]
  rw [hg]
  generalize l.getD (at_ + k) 0 = y at *
  generalize acc ((l.drop at_).take k) = x at *
  rw [uwrap_eq, uwrap_eq, Int.emod_eq_of_lt (by omega) (by omega), Int.emod_eq_of_lt (by omega) (by omega)]
  rw [u64_or _ _ (by omega) (by omega) (by omega) (by omega)]
  rw [nat_join 8 _ _ (by omega) (by omega)]
  omega
theorem acc_be8 (n : Int) : acc (be8 n) = IntKind.u64.wrap n := by
  have hb := uwrap_bd n
  have e : be8 n = [byt n 0, byt n 1, byt n 2, byt n 3, byt n 4, byt n 5, byt n 6, byt n 7] := rfl
  rw [e]
  simp only [acc, List.foldl, byt]
  generalize IntKind.u64.wrap n = u at *
  simp only [Nat.reduceMul, Nat.reduceSub, Int.reducePow]
  omega
theorem num8_be8 (n : Int) (h : -9223372036854775808 ≤ n ∧ n ≤ 9223372036854775807) : num8 (be8 n) = n := by
  rw [num8, acc_be8, uwrap_eq]; unfold wrap64; omega
end Go.Proofs.Ytpkobobandcclaa
