/- Slices of texts: GreatTexts, LendTexts, SameTexts, KeptTexts. -/
import Derived.Test.YtafbofcenbfkeaaProg
import Derived.Test.YtafbofcenbfkeaaSeq
import Derived.WalkSpells
import Derived.WalkLawsBesides
import Derived.Deep.QuietTactic
import Derived.BigQuiet
namespace Go.Proofs.Ytafbofcenbfkeaa
open Go.RowKit
set_option linter.unusedVariables false

def encT (s : ByteArray) : List Value := [.string s]
theorem encT_len : ∀ x, (encT x).length = 1 := fun _ => rfl
theorem encT_one : ∀ x, ∀ u ∈ encT x, u.oneCell' = true := by intro x u hu; simp [encT] at hu; subst hu; rfl
abbrev Txs (w : World) (v : Value) (l : List ByteArray) : Prop := Reads 1 encT w v l
theorem Txs.cell {w : World} {ao : Option Addr} {m cap : Nat} {l : List ByteArray} (h : Txs w (.slice ao m cap) l) {j : Nat} (hj : j < l.length) : ∃ b off, ao = some ⟨b, off, none⟩ ∧ b < w.heap.size ∧ w.cell? ⟨b, off + j, none⟩ = some (.string l[j]) := by
  obtain ⟨b, off, e, hlt, hc⟩ := h.cells hj
  have := hc 0 _ rfl
  rw [Nat.mul_one, Nat.add_zero] at this
  exact ⟨b, off, e, hlt, this⟩
theorem Try.infoT : (Try.prog.info? 9).map (fun i => (i.zero, i.size, i.bytes)) = some (some (.string ⟨#[]⟩), 1, 16) := by kernel_rfl

/-- Are they great? If they are not, there are at most so many, each of at most 100 bytes. -/
def GreatT (l : List ByteArray) (n : Nat) (e : Ending) : Prop := ∃ g, e = .returned (.bool g) ∧ (g = false → l.length ≤ n)
def lent : ByteArray := ⟨#[108, 101, 110, 116]⟩
set_option maxHeartbeats 1000000 in
/-- Two slices that read the same are the same. -/
theorem sameTexts_any (a b : Value) (l : List ByteArray) (w : World) (ha : Txs w a l) (hb : Txs w b l) :
    Calls Try.prog 22 #[a, b] w fun e w' => e = .returned (.bool true) ∧ ∃ n, w' = w.drewN n := by
  have HA := hid ha
  have HB := hid hb
  obtain ⟨ao, ca, rfl, a1, a2, -, -⟩ := ha
  obtain ⟨bo, cb, rfl, b1, b2, -, -⟩ := hb
  unfold maxLen at a2 b2
  go_enter Try.func22, Try.ntmps22
  go_wp2
  go_loopw [5] (fun i wr => ∃ k : Nat, k ≤ l.length ∧ i = .int .i64 k ∧ ∃ t, wr = w.drewN t) (fun i _ => l.length - (intOf i).toNat)
  case atStart => exact ⟨0, by omega, rfl, 0, rfl⟩
  case round =>
    obtain ⟨k, hk, rfl, t, rfl⟩ := hrel
    by_cases hlt : k < l.length
    · have hd5 : decide ((k : Int) < (l.length : Int)) = true := by simp; omega
      obtain ⟨p, po, rfl, hp, c0⟩ := HA.out.cell hlt
      obtain ⟨q, qo, rfl, hq, d0⟩ := HB.out.cell hlt
      generalize l[k] = x at c0 d0
      have hxx : (x.toList != x.toList) = false := by simp
      go_wp2
      go_quiet (fail)
      go_wp2
      go_roundw
      case rel => exact ⟨k + 1, by omega, by go_num, _, rfl⟩
      case measure => simp [intOf]; omega
    · obtain rfl : k = l.length := by omega
      have hd5 : decide ((l.length : Int) < (l.length : Int)) = false := by simp
      go_wp2
      go_ret
      exact ⟨rfl, _, rfl⟩

end Go.Proofs.Ytafbofcenbfkeaa
