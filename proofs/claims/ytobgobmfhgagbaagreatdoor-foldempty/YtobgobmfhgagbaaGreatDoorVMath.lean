/- The decimal digits of a number and the number that digits spell: what reads back, and what no number's digits are. No program in this text. -/
import Derived.Lib.ItoaMem
import Derived.Lib.ParseIntBTie
namespace Go.Proofs.YtobgobmfhgagbaaGreatDoor
open Go.Lib

/-! ### Digits -/

theorem dig_nat {x : Nat} (h : x < 10) : (UInt8.ofNat (48 + x)).toNat = 48 + x := by
  simp only [UInt8.toNat_ofNat']
  omega

theorem dec_dig (u : Nat) : ∀ c ∈ decDigits u, 48 ≤ c.toNat ∧ c.toNat ≤ 57 := by
  induction u using Nat.strongRecOn with
  | _ u ih =>
    intro c hc
    rw [decDigits] at hc
    split at hc
    · rename_i h
      rw [List.mem_singleton] at hc
      rw [hc, dig_nat h]
      omega
    · rw [List.mem_append, List.mem_singleton] at hc
      rcases hc with hc | hc
      · exact ih (u / 10) (by omega) c hc
      · rw [hc, dig_nat (by omega)]
        omega

theorem dec_head (u : Nat) (h : 0 < u) : ∃ c r, decDigits u = c :: r ∧ 49 ≤ c.toNat ∧ c.toNat ≤ 57 := by
  induction u using Nat.strongRecOn with
  | _ u ih =>
    rw [decDigits]
    split
    · rename_i h1
      exact ⟨_, [], rfl, by rw [dig_nat h1]; omega, by rw [dig_nat h1]; omega⟩
    · obtain ⟨c, r, e, h1, h2⟩ := ih (u / 10) (by omega) (by omega)
      exact ⟨c, r ++ [UInt8.ofNat (48 + u % 10)], by rw [e]; rfl, h1, h2⟩

theorem dec_zero : decDigits 0 = [48] := by rw [decDigits, dif_pos (by omega)]; rfl

theorem dec_some (u : Nat) : ∃ c r, decDigits u = c :: r ∧ 48 ≤ c.toNat ∧ c.toNat ≤ 57 := by
  rcases Nat.eq_zero_or_pos u with h | h
  · exact ⟨48, [], by rw [h, dec_zero], by decide, by decide⟩
  · obtain ⟨c, r, e, h1, h2⟩ := dec_head u h
    exact ⟨c, r, e, by omega, h2⟩

theorem nDigits_le : ∀ (k u : Nat), u < 10 ^ (k + 1) → nDigits u ≤ k + 1
  | 0, u, h => by rw [nDigits_small (by simpa using h)]; exact Nat.le_refl _
  | k + 1, u, h => by
    by_cases h1 : u < 10
    · rw [nDigits_small h1]; omega
    · rw [nDigits_big h1]
      have := nDigits_le k (u / 10) (by rw [Nat.pow_succ] at h; omega)
      omega

/-- What digits spell (other bytes are passed over). -/
def dval (a : Nat) : List UInt8 → Nat
  | [] => a
  | c :: r => if 48 ≤ c.toNat ∧ c.toNat ≤ 57 then dval (a * 10 + (c.toNat - 48)) r else dval a r

theorem dval_app (a : Nat) (l r : List UInt8) : dval a (l ++ r) = dval (dval a l) r := by
  induction l generalizing a with
  | nil => rfl
  | cons c l ih =>
    simp only [List.cons_append, dval]
    split <;> exact ih _

theorem dval_snoc (a : Nat) (l : List UInt8) (c : UInt8) : dval a (l ++ [c]) = if 48 ≤ c.toNat ∧ c.toNat ≤ 57 then dval a l * 10 + (c.toNat - 48) else dval a l := by
  rw [dval_app]
  simp only [dval]

theorem dval_dec (u : Nat) : dval 0 (decDigits u) = u := by
  induction u using Nat.strongRecOn with
  | _ u ih =>
    rw [decDigits]
    split
    · rename_i h
      simp only [dval, dig_nat h]
      rw [if_pos (by omega)]
      omega
    · rw [dval_snoc, ih (u / 10) (by omega), dig_nat (by omega), if_pos (by omega)]
      omega

theorem dval_ge (l : List UInt8) : ∀ a, a ≤ dval a l := by
  induction l with
  | nil => intro a; exact Nat.le_refl _
  | cons c l ih =>
    intro a
    simp only [dval]
    split
    · have := ih (a * 10 + (c.toNat - 48)); omega
    · exact ih a

theorem parse_dval (l : List UInt8) : ∀ a, (∀ c ∈ l, 48 ≤ c.toNat ∧ c.toNat ≤ 57) → dval a l < 18446744073709551616 → parseUint10 a l = .ok (dval a l) := by
  induction l with
  | nil => intro a _ _; rfl
  | cons c l ih =>
    intro a hd hl
    have hc := hd c (List.mem_cons_self ..)
    simp only [dval, if_pos hc] at hl ⊢
    have hg := dval_ge l (a * 10 + (c.toNat - 48))
    simp only [parseUint10, if_pos hc]
    rw [if_neg (by omega), if_neg (by omega)]
    exact ih _ (fun x hx => hd x (List.mem_cons_of_mem _ hx)) hl

/-- A number of 64 bits. -/
def I64 (n : Int) : Prop := -9223372036854775808 ≤ n ∧ n ≤ 9223372036854775807

/-- A NUMBER's DIGITS ARE READ AGAIN AS THAT NUMBER. -/
theorem atoi_itoa {n : Int} (h : I64 n) : atoiAll (itoa n) = .ok n := by
  obtain ⟨h0, h1⟩ := h
  unfold itoa
  have mag : ∀ u : Nat, u < 18446744073709551616 → parseMag (decDigits u) = .ok u := fun u hu => by
    unfold parseMag
    obtain ⟨c, r, e, _, _⟩ := dec_some u
    rw [if_neg (by rw [e]; simp), parse_dval _ _ (dec_dig u) (by rw [dval_dec]; exact hu), dval_dec]
  split
  · have m := mag n.natAbs (by omega)
    simp only [atoiAll]
    rw [if_pos (Or.inr (by decide)), m]
    simp only []
    rw [if_neg (by intro hh; exact hh.1 (by decide)), if_neg (by omega), if_pos (by decide)]
    congr 1
    omega
  · have m := mag n.toNat (by omega)
    obtain ⟨c, r, e, c1, c2⟩ := dec_some n.toNat
    rw [e] at m ⊢
    simp only [atoiAll]
    rw [if_neg (by omega), m]
    simp only []
    rw [if_neg (by omega), if_neg (by omega), if_neg (by omega)]
    congr 1
    omega

theorem itoa_inj {n m : Int} (hn : I64 n) (hm : I64 m) (h : itoa n = itoa m) : n = m := by
  have a := atoi_itoa hn
  rw [h, atoi_itoa hm] at a
  injection a with a
  exact a.symm

theorem itoa_len {n : Int} (h : I64 n) : (itoa n).length ≤ 20 := by
  obtain ⟨h0, h1⟩ := h
  unfold itoa
  split
  · have := nDigits_le 18 n.natAbs (by have : (10 : Nat) ^ (18 + 1) = 10000000000000000000 := by decide
                                       omega)
    rw [List.length_cons, decDigits_length]
    omega
  · have := nDigits_le 18 n.toNat (by have : (10 : Nat) ^ (18 + 1) = 10000000000000000000 := by decide
                                      omega)
    rw [decDigits_length]
    omega

/-! ### The number that a text is the digits of -/

/-- value.Number, over bytes. -/
def vNum (l : List UInt8) : Int :=
  if 20 < l.length then 0
  else match atoiAll l with
    | .ok v => if itoa v = l then v else 0
    | .syntax => 0
    | .range => 0

theorem vNum_itoa {n : Int} (h : I64 n) : vNum (itoa n) = n := by
  have hl := itoa_len h
  unfold vNum
  rw [if_neg (by omega), atoi_itoa h]
  simp

theorem vNum_or (l : List UInt8) : vNum l = 0 ∨ (I64 (vNum l) ∧ itoa (vNum l) = l) := by
  unfold vNum
  split
  · exact Or.inl rfl
  · cases h : atoiAll l with
    | «syntax» => exact Or.inl rfl
    | range => exact Or.inl rfl
    | ok v =>
      simp only []
      by_cases e : itoa v = l
      · rw [if_pos e]
        have b := parseIntB_bounds (B := 64) (by rw [parseIntB_64]; exact h)
        have e63 : ((2 ^ (64 - 1) : Nat) : Int) = 9223372036854775808 := by decide
        rw [e63] at b
        exact Or.inr ⟨⟨b.1, by omega⟩, e⟩
      · rw [if_neg e]; exact Or.inl rfl

theorem vNum_none {l : List UInt8} (h : ∀ n, I64 n → n ≠ 0 → itoa n ≠ l) : vNum l = 0 := by
  rcases vNum_or l with e | ⟨h1, h2⟩
  · exact e
  · by_cases z : vNum l = 0
    · exact z
    · exact absurd h2 (h _ h1 z)

theorem vNum_i64 (l : List UInt8) : I64 (vNum l) := by
  rcases vNum_or l with e | ⟨h1, _⟩
  · rw [e]; exact ⟨by decide, by decide⟩
  · exact h1

/-- The first byte of the digits of a number that is not 0. -/
theorem itoa_head {n : Int} (h : n ≠ 0) : ∃ c r, itoa n = c :: r ∧ (c.toNat = 45 ∨ (49 ≤ c.toNat ∧ c.toNat ≤ 57)) := by
  unfold itoa
  split
  · exact ⟨45, _, rfl, Or.inl (by decide)⟩
  · obtain ⟨c, r, e, h1, h2⟩ := dec_head n.toNat (by omega)
    exact ⟨c, r, e, Or.inr ⟨h1, h2⟩⟩

theorem itoa_byte {n : Int} {c : UInt8} (h : c ∈ itoa n) : c.toNat = 45 ∨ (48 ≤ c.toNat ∧ c.toNat ≤ 57) := by
  unfold itoa at h
  split at h
  · rcases List.mem_cons.1 h with h | h
    · exact Or.inl (by rw [h]; decide)
    · exact Or.inr (dec_dig _ c h)
  · exact Or.inr (dec_dig _ c h)

theorem vNum_nought (l : List UInt8) : vNum (48 :: l) = 0 := vNum_none fun n _ hn e => by
  obtain ⟨c, r, e1, h⟩ := itoa_head hn
  rw [e1] at e
  injection e with e _
  rw [e] at h
  revert h
  decide

theorem vNum_plus (l : List UInt8) : vNum (43 :: l) = 0 := vNum_none fun n _ hn e => by
  obtain ⟨c, r, e1, h⟩ := itoa_head hn
  rw [e1] at e
  injection e with e _
  rw [e] at h
  revert h
  decide

theorem vNum_blank (l : List UInt8) : vNum (l ++ [32]) = 0 := vNum_none fun n _ hn e => by
  have h := itoa_byte (n := n) (c := 32) (by rw [e]; simp)
  revert h
  decide

/-- What a minus ahead of a number's digits tells. -/
theorem vNum_minus {n : Int} (h : I64 n) : vNum (45 :: itoa n) = if 0 < n then -n else 0 := by
  obtain ⟨h0, h1⟩ := h
  split
  · rename_i hp
    have e : 45 :: itoa n = itoa (-n) := by
      unfold itoa
      rw [if_neg (by omega), if_pos (by omega), show (-n).natAbs = n.toNat by omega]
    rw [e]
    exact vNum_itoa ⟨by omega, by omega⟩
  · refine vNum_none fun m _ hm e => ?_
    unfold itoa at e
    split at e
    · injection e with _ e
      split at e
      · obtain ⟨c, r, e1, c1, c2⟩ := dec_some m.natAbs
        rw [e1] at e
        injection e with e _
        rw [e] at c1
        revert c1
        decide
      · obtain ⟨c, r, e1, c1, c2⟩ := dec_head m.natAbs (by omega)
        rw [e1, show n.toNat = 0 by omega, dec_zero] at e
        injection e with e _
        rw [e] at c1
        revert c1
        decide
    · obtain ⟨c, r, e1, c1, c2⟩ := dec_some m.toNat
      rw [e1] at e
      injection e with e _
      rw [e] at c1
      revert c1
      decide

/-! ### The reference's own number -/

/-- A number cut to 64 bits. -/
def cut64 (x : Int) : Int := (x + 9223372036854775808) % 18446744073709551616 - 9223372036854775808

theorem cut64_i64 (x : Int) : I64 (cut64 x) := by unfold cut64 I64; omega
theorem cut64_id {x : Int} (h : I64 x) : cut64 x = x := by obtain ⟨h0, h1⟩ := h; unfold cut64; omega

/-- What the reference tells of the number n that it read off the bytes. -/
def rTell (l : List UInt8) (n : Int) : Int := if itoa n = l then n else if itoa (cut64 (-n)) = l then cut64 (-n) else 0

theorem rTell_vNum (l : List UInt8) (n : Int) (hn : n = if l.length ≤ 20 then cut64 (dval 0 l) else 0) : rTell l n = vNum l := by
  have hi : I64 n := by
    rw [hn]; split
    · exact cut64_i64 _
    · exact ⟨by decide, by decide⟩
  unfold rTell
  by_cases e1 : itoa n = l
  · rw [if_pos e1, ← e1, vNum_itoa hi]
  rw [if_neg e1]
  by_cases e2 : itoa (cut64 (-n)) = l
  · rw [if_pos e2]
    have := vNum_itoa (cut64_i64 (-n))
    rw [e2] at this
    exact this.symm
  rw [if_neg e2]
  refine (vNum_none fun m hm _ e => ?_).symm
  have hl := itoa_len hm
  rw [e] at hl
  rw [if_pos hl] at hn
  have hd : dval 0 l = m.natAbs := by
    rw [← e]
    unfold itoa
    split
    · simp only [dval]
      rw [if_neg (by decide), dval_dec]
    · rw [dval_dec]; omega
  rw [hd] at hn
  obtain ⟨m0, m1⟩ := hm
  by_cases hp : 0 ≤ m
  · apply e1
    rw [hn, cut64_id ⟨by omega, by omega⟩, show ((m.natAbs : Nat) : Int) = m by omega]
    exact e
  · by_cases hq : m = -9223372036854775808
    · apply e1
      rw [hn, ← e, hq]
      exact congrArg itoa (by decide)
    · apply e2
      rw [hn, cut64_id (x := ((m.natAbs : Nat) : Int)) ⟨by omega, by omega⟩, cut64_id ⟨by omega, by omega⟩, show (-((m.natAbs : Nat) : Int)) = m by omega]
      exact e

end Go.Proofs.YtobgobmfhgagbaaGreatDoor
