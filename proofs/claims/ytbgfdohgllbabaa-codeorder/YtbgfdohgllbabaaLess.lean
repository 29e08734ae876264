/- The plain mathematics of the order of bytes: lists of bytes of one length are in order as the numbers that they tell. -/
import Derived.Test.YtbgfdohgllbabaaMath
namespace Go.Proofs.Ytbgfdohgllbabaa
open Go.RowKit

theorem fold_shift : ∀ (l : List Int) (a : Int), l.foldl (fun a b => a * 256 + b) a = a * 256 ^ l.length + acc l := by
  intro l
  induction l with
  | nil => intro a; simp [acc]
  | cons x t ih =>
    intro a
    have h1 := ih (a * 256 + x)
    have h2 := ih x
    simp only [List.foldl_cons, List.length_cons, acc, Int.zero_mul, Int.zero_add] at *
    rw [h1, h2, Int.pow_succ, Int.add_mul, Int.mul_assoc, Int.mul_comm 256]
    omega
theorem acc_cons (x : Int) (t : List Int) : acc (x :: t) = x * 256 ^ t.length + acc t := by
  have := fold_shift t x
  simpa [acc] using this

theorem byte_lt (x y : Int) (hx : 0 ≤ x ∧ x < 256) (hy : 0 ≤ y ∧ y < 256) : (UInt8.ofNat x.toNat < UInt8.ofNat y.toNat) ↔ x < y := by
  rw [UInt8.lt_iff_toNat_lt, UInt8.toNat_ofNat', UInt8.toNat_ofNat']
  omega
theorem byte_eq (x y : Int) (hx : 0 ≤ x ∧ x < 256) (hy : 0 ≤ y ∧ y < 256) : (UInt8.ofNat x.toNat = UInt8.ofNat y.toNat) ↔ x = y := by
  constructor
  · intro h
    have := congrArg UInt8.toNat h
    rw [UInt8.toNat_ofNat', UInt8.toNat_ofNat'] at this
    omega
  · intro h; rw [h]

theorem less_acc : ∀ (l m : List Int), Byt l → Byt m → l.length = m.length →
    Op.bytesLess (l.map fun n => UInt8.ofNat n.toNat) (m.map fun n => UInt8.ofNat n.toNat) = decide (acc l < acc m) ∧ ((l.map fun n => UInt8.ofNat n.toNat) = (m.map fun n => UInt8.ofNat n.toNat) ↔ acc l = acc m) := by
  intro l
  induction l with
  | nil =>
    intro m _ _ h
    obtain rfl : m = [] := List.eq_nil_of_length_eq_zero h.symm
    simp [Op.bytesLess, acc]
  | cons x t ih =>
    intro m hl hm h
    match m, hm, h with
    | y :: u, hm, h =>
      have hx := hl x (by simp)
      have hy := hm y (by simp)
      have ht : Byt t := fun z hz => hl z (List.mem_cons_of_mem _ hz)
      have hu : Byt u := fun z hz => hm z (List.mem_cons_of_mem _ hz)
      have hlen : t.length = u.length := by simpa using h
      have h1 := ih u ht hu hlen
      have b1 := acc_bd t ht
      have b2 := acc_bd u hu
      rw [acc_cons, acc_cons, ← hlen]
      rw [← hlen] at b2
      simp only [List.map_cons, Op.bytesLess, List.cons.injEq]
      rw [h1.1, byte_eq x y hx hy, h1.2]
      have hp : (0 : Int) < 256 ^ t.length := Int.pow_pos (by omega)
      generalize (256 : Int) ^ t.length = q at *
      have hbeq : (UInt8.ofNat x.toNat == UInt8.ofNat y.toNat) = decide (x = y) := by
        rw [Bool.eq_iff_iff, beq_iff_eq, byte_eq x y hx hy]; simp
      have hdec : decide (UInt8.ofNat x.toNat < UInt8.ofNat y.toNat) = decide (x < y) := by
        rw [Bool.eq_iff_iff]; simp only [decide_eq_true_eq]; exact byte_lt x y hx hy
      rw [hbeq, hdec]
      rcases Int.lt_trichotomy x y with hc | hc | hc
      · have : (x + 1) * q ≤ y * q := Int.mul_le_mul_of_nonneg_right (by omega) (by omega)
        rw [Int.add_mul] at this
        constructor
        · simp [hc]; omega
        · constructor
          · intro ⟨e, _⟩; omega
          · intro e; omega
      · subst hc
        constructor
        · simp
        · constructor
          · intro ⟨_, e⟩; omega
          · intro e; exact ⟨rfl, by omega⟩
      · have : (y + 1) * q ≤ x * q := Int.mul_le_mul_of_nonneg_right (by omega) (by omega)
        rw [Int.add_mul] at this
        constructor
        · simp [show ¬ x < y by omega, show ¬ x = y by omega]; omega
        · constructor
          · intro ⟨e, _⟩; omega
          · intro e; omega

theorem toList_strOfNums (l : List Int) : (strOfNums l).toList = l.map fun n => UInt8.ofNat n.toNat := by
  rw [← strOfNums_data]; exact ByteArray.toList_eq _
theorem be8_less (a b : Int) (ha : 0 ≤ a ∧ a < 9223372036854775808) (hb : 0 ≤ b ∧ b < 9223372036854775808) :
    Op.bytesLess (strOfNums (be8 a)).toList (strOfNums (be8 b)).toList = decide (a < b) ∧ ((strOfNums (be8 a)).toList == (strOfNums (be8 b)).toList) = decide (a = b) := by
  have h := less_acc (be8 a) (be8 b) (Byt.be8 a) (Byt.be8 b) (by rw [be8_length, be8_length])
  rw [acc_be8, acc_be8, uwrap_eq, uwrap_eq, Int.emod_eq_of_lt (by omega) (by omega), Int.emod_eq_of_lt (by omega) (by omega)] at h
  rw [toList_strOfNums, toList_strOfNums]
  refine ⟨h.1, ?_⟩
  rw [Bool.eq_iff_iff, beq_iff_eq, h.2]
  simp
end Go.Proofs.Ytbgfdohgllbabaa
