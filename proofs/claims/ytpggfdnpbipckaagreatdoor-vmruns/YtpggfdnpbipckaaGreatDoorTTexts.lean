/- Slices of texts: GreatTexts, LendTexts, SameTexts, KeptTexts. -/
import Derived.Test.YtpggfdnpbipckaaGreatDoorProg
import Derived.Test.YtpggfdnpbipckaaGreatDoorSeq
import Derived.WalkSpells
import Derived.WalkLawsBesides
import Derived.Deep.QuietTactic
import Derived.BigQuiet
namespace Go.Proofs.YtpggfdnpbipckaaGreatDoor
open Go.RowKit
set_option linter.unusedVariables false
set_option maxRecDepth 100000

def encT (s : ByteArray) : List Value := [.string s]
theorem encT_len : ∀ x, (encT x).length = 1 := fun _ => rfl
theorem encT_one : ∀ x, ∀ u ∈ encT x, u.oneCell' = true := by intro x u hu; simp [encT] at hu; subst hu; rfl
abbrev Txs (w : World) (v : Value) (l : List ByteArray) : Prop := Reads 1 encT w v l
theorem Txs.cell {w : World} {ao : Option Addr} {m cap : Nat} {l : List ByteArray} (h : Txs w (.slice ao m cap) l) {j : Nat} (hj : j < l.length) : ∃ b off, ao = some ⟨b, off, none⟩ ∧ b < w.heap.size ∧ w.cell? ⟨b, off + j, none⟩ = some (.string l[j]) := by
  obtain ⟨b, off, e, hlt, hc⟩ := h.cells hj
  have := hc 0 _ rfl
  rw [Nat.mul_one, Nat.add_zero] at this
  exact ⟨b, off, e, hlt, this⟩
theorem Tryz.infoT : (Tryz.prog.info? 9).map (fun i => (i.zero, i.size, i.bytes)) = some (some (.string ⟨#[]⟩), 1, 16) := by kernel_rfl

/-- Are they great? If they are not, there are at most so many, each of at most 100 bytes. -/
def GreatT (l : List ByteArray) (n : Nat) (e : Ending) : Prop := ∃ g, e = .returned (.bool g) ∧ (g = false → l.length ≤ n)
set_option maxHeartbeats 1000000 in
theorem greatTexts_any (v : Value) (l : List ByteArray) (n : Nat) (w : World) (hv : Txs w v l) :
    Calls Tryz.prog 24 #[v, .int .i64 n] w fun e w' => GreatT l n e ∧ w' = w := by
  have HV := hid hv
  obtain ⟨ao, ca, rfl, a1, a2, a3, -⟩ := hv
  unfold maxLen at a2
  by_cases hbig : n < l.length
  · have hd : decide ((l.length : Int) ≤ (n : Int)) = false := by simp; omega
    have hd2 : decide ((n : Int) < (l.length : Int)) = true := by simp; omega
    have hd3 : decide ((0 : Int) < (l.length : Int)) = true := by simp; omega
    clear a3
    go_enter Tryz.func24, Tryz.ntmps24
    go_wp2
    go_loop [5] (fun i => i = .int .i64 0) (fun _ => 0)
    case atStart => rfl
    case round =>
      subst hrel
      go_wp2
      go_ret
      exact ⟨⟨true, rfl, fun h => by cases h⟩, rfl⟩
  · have HB := hid hbig
    have hd : decide ((l.length : Int) ≤ (n : Int)) = true := by simp; omega
    have hd2 : decide ((n : Int) < (l.length : Int)) = false := by simp; omega
    have hle : l.length ≤ n := by omega
    clear hbig a3
    go_enter Tryz.func24, Tryz.ntmps24
    go_wp2
    go_loop [5] (fun i => ∃ k : Nat, k ≤ l.length ∧ i = .int .i64 k) (fun i => l.length - (intOf i).toNat)
    case atStart => exact ⟨0, by omega, rfl⟩
    case round =>
      obtain ⟨k, hk, rfl⟩ := hrel
      by_cases hlt : k < l.length
      · obtain ⟨b, off, rfl, hb, c2⟩ := HV.out.cell hlt
        generalize l[k] = s at c2
        have hd4 : decide ((k : Int) < (l.length : Int)) = true := by simp; omega
        by_cases hs : 100 < s.size
        · have hd5 : decide ((100 : Int) < (s.size : Int)) = true := by simp; omega
          go_wp2
          go_ret
          exact ⟨⟨true, rfl, fun h => by cases h⟩, rfl⟩
        · have hd5 : decide ((100 : Int) < (s.size : Int)) = false := by simp; omega
          go_wp2
          go_round
          case rel => exact ⟨k + 1, by omega, by go_num⟩
          case measure => simp [intOf]; omega
      · have hd4 : decide ((k : Int) < (l.length : Int)) = false := by simp; omega
        go_wp2
        go_ret
        exact ⟨⟨decide (n < l.length), rfl, fun _ => by have := HB.out; omega⟩, rfl⟩

def lent : ByteArray := ⟨#[108, 101, 110, 116]⟩
set_option maxHeartbeats 1000000 in
theorem lendTexts_any (v : Value) (l : List ByteArray) (w : World) (hv : Txs w v l) (hr : l.length ≤ 1000) :
    Calls Tryz.prog 12 #[v] w fun e w' => e = .returned (.slice (some ⟨w.heap.size, 0, none⟩) l.length (l.length + 3)) ∧ w'.ownsRow w.heap.size 9 1 (.slice (some ⟨w.heap.size, 0, none⟩) (l.length + 3) (l.length + 3)) (l.length + 3) (fl encT (l ++ List.replicate 3 lent)) ∧ Below w.heap.size w w' := by
  have HV := hid hv
  obtain ⟨ao, cap, rfl, h1, h2, h3, -⟩ := hv
  obtain ⟨i0, hi, hz0, hz1, hz2⟩ := info_parts Tryz.infoT
  unfold maxLen at h2
  go_enter Tryz.func12, Tryz.ntmps12
  go_wp2_with (first | (at_make; refine wpList_make_own _ rfl _ _ 23 rfl w.heap.size 9 i0 _ 1 Tryz.underlying23 hi hz0 hz1 .i64 .i64 _ (l.length + 3) rfl rfl (by omega) (by rw [hz2]; omega) (by unfold maxLen; omega) (Nat.le_refl _) ?_; intro w1 ho1 hg1) | (at_builtin; refine wpList_append_fits_any _ rfl _ _ 23 rfl w.heap.size 9 i0 1 Tryz.underlying23 hi hz1 w.heap.size 0 (l.length + 3) _ rfl ho1 ao l.length cap (fl encT l) rfl (fl_length encT_len l) (fun e => ⟨by rw [(h3 e).1]; rfl, (h3 e).2⟩) (HV.out.news encT_len (by decide) ((Below.refl _ _).grown hg1 (Nat.le_refl _) (by intro q hq; cases hq))) (fl_one encT_one l) (by omega) ?_; intro w2 ho2 hg2))
  have hb1 : Below w.heap.size w w1 := (Below.refl _ _).grown hg1 (Nat.le_refl _) (by intro q hq; cases hq)
  have hb2 : Below w.heap.size w w2 := hb1.grown hg2 hb1.size (by intro q hq; cases hq; exact Nat.le_refl _)
  clear hg1 hg2 ho1 hb1 h3
  simp only [Nat.zero_add, List.nil_append] at ho2 ⊢
  obtain ⟨ys, hoy, hty⟩ := owns_full ho2
  clear ho2
  go_loopw [5] (fun i wr => ∃ k : Nat, k ≤ 3 ∧ i = .int .i64 k ∧ ∃ xs, wr.ownsRow w.heap.size 9 1 (.slice (some ⟨w.heap.size, 0, none⟩) (l.length + 3) (l.length + 3)) (l.length + 3) xs ∧ xs.take (l.length + k) = fl encT (l ++ List.replicate k lent) ∧ Below w.heap.size w wr) (fun i _ => 3 - (intOf i).toNat)
  case atStart => exact ⟨0, by omega, rfl, ys, hoy, by simpa using hty, hb2⟩
  case round =>
    obtain ⟨k, hk, rfl, xs, hox, hxt, hbr⟩ := hrel
    by_cases hlt : k < 3
    · obtain ⟨x0, hx0⟩ := owns_cell hox (j := l.length + k) (by omega)
      have hf0 := hox.frozenAt (l.length + k)
      have hxl : xs.length = (l.length + 3) * 1 := hox.1
      have s1 := hox.stored (l.length + k) (.string lent)
      have HS := hid s1.1
      have HB := hid (hbr.grown s1.2 hbr.size (by intro q hq; cases hq; exact Nat.le_refl _))
      have HT := hid (show (xs.set (l.length + k) (.string lent)).take (l.length + (k + 1)) = fl encT (l ++ List.replicate (k + 1) lent) by
        rw [← Nat.add_assoc, set_snoc (by omega), hxt, List.replicate_succ', ← List.append_assoc, fl_append _ [lent]]
        rfl)
      clear s1 hxt hox hxl
      unfold lent at HS HB HT
      go_wp2
      go_roundw
      case rel => exact ⟨k + 1, by omega, by go_num, _, HS.out, HT.out, HB.out⟩
      case measure => simp [intOf]; omega
    · obtain rfl : k = 3 := by omega
      have hxl : xs.length = (l.length + 3) * 1 := hox.1
      rw [List.take_of_length_le (by omega)] at hxt
      rw [hxt] at hox
      have HO := hid hox
      clear hox hxt hxl
      go_wp2
      go_ret
      exact ⟨rfl, HO.out, hbr⟩

set_option maxHeartbeats 1000000 in
/-- Two slices that read the same are the same. -/
theorem sameTexts_any (a b : Value) (l : List ByteArray) (w : World) (ha : Txs w a l) (hb : Txs w b l) :
    Calls Tryz.prog 31 #[a, b] w fun e w' => e = .returned (.bool true) ∧ ∃ n, w' = w.drewN n := by
  have HA := hid ha
  have HB := hid hb
  obtain ⟨ao, ca, rfl, a1, a2, -, -⟩ := ha
  obtain ⟨bo, cb, rfl, b1, b2, -, -⟩ := hb
  unfold maxLen at a2 b2
  go_enter Tryz.func31, Tryz.ntmps31
  go_wp2
  go_loopw [5] (fun i wr => ∃ k : Nat, k ≤ l.length ∧ i = .int .i64 k ∧ ∃ t, wr = w.drewN t) (fun i _ => l.length - (intOf i).toNat)
  case atStart => exact ⟨0, by omega, rfl, 0, rfl⟩
  case round =>
    obtain ⟨k, hk, rfl, t, rfl⟩ := hrel
    by_cases hlt : k < l.length
    · have hd5 : decide ((k : Int) < (l.length : Int)) = true := by simp; omega
      obtain ⟨p, po, rfl, hp, c0⟩ := HA.out.cell hlt
      obtain ⟨q, qo, rfl, hq, d0⟩ := HB.out.cell hlt
      generalize l[k] = x at c0 d0
      have hxx : (x.toList != x.toList) = false := by simp
      go_wp2
      go_quiet (fail)
      go_wp2
      go_roundw
      case rel => exact ⟨k + 1, by omega, by go_num, _, rfl⟩
      case measure => simp [intOf]; omega
    · obtain rfl : k = l.length := by omega
      have hd5 : decide ((l.length : Int) < (l.length : Int)) = false := by simp
      go_wp2
      go_ret
      exact ⟨rfl, _, rfl⟩

set_option maxHeartbeats 1000000 in
theorem keptTexts_any (g : Nat) (b : Value) (l : List ByteArray) (w : World) (hv : Txs w (.slice (some ⟨g, 0, none⟩) (l.length + 3) (l.length + 3)) (l ++ List.replicate 3 lent)) (hb : Txs w b l) (hr : l.length ≤ 1000) :
    Calls Tryz.prog 20 #[.slice (some ⟨g, 0, none⟩) l.length (l.length + 3), b] w fun e w' => e = .returned (.bool true) ∧ ∃ n, w' = w.drewN n := by
  have HT := hid hv.cut
  have HB := hid hb
  have hcell : ∀ k, k < 3 → w.cell? ⟨g, l.length + k, none⟩ = some (.string lent) := by
    intro k hk
    obtain ⟨b0, off, e, _, hc⟩ := hv.cell (j := l.length + k) (by simp; omega)
    cases e
    rw [Nat.zero_add] at hc
    rw [hc]
    congr 2
    rw [List.getElem_append_right (by omega), List.getElem_replicate]
  have HC := hid hcell
  clear hcell hv hb
  go_enter Tryz.func20, Tryz.ntmps20
  go_wp2
  go_loop [6] (fun i => ∃ k : Nat, k ≤ 3 ∧ i = .int .i64 k) (fun i => 3 - (intOf i).toNat)
  case atStart => exact ⟨0, by omega, rfl⟩
  case round =>
    obtain ⟨k, hk, rfl⟩ := hrel
    by_cases hlt3 : k < 3
    · have c0 := HC.out k hlt3
      unfold lent at c0
      go_wp2
      go_round
      case rel => exact ⟨k + 1, by omega, by go_num⟩
      case measure => simp [intOf]; omega
    · go_wp2_with fail
      refine (sameTexts_any _ _ l w HT.out HB.out).mono ?_
      rintro e w3 ⟨rfl, n3, rfl⟩
      go_wp2
      go_ret
      exact ⟨rfl, n3, rfl⟩
end Go.Proofs.YtpggfdnpbipckaaGreatDoor
