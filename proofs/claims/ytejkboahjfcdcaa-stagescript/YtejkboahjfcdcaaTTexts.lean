/- Slices of texts: GreatTexts, LendTexts, SameTexts, KeptTexts. -/
import Derived.Test.YtejkboahjfcdcaaProg
import Derived.Test.YtejkboahjfcdcaaSeq
import Derived.WalkSpells
import Derived.WalkLawsBesides
import Derived.Deep.QuietTactic
import Derived.BigQuiet
namespace Go.Proofs.Ytejkboahjfcdcaa
open Go.RowKit
set_option linter.unusedVariables false

def encT (s : ByteArray) : List Value := [.string s]
theorem encT_len : ∀ x, (encT x).length = 1 := fun _ => rfl
theorem encT_one : ∀ x, ∀ u ∈ encT x, u.oneCell' = true := by intro x u hu; simp [encT] at hu; subst hu; rfl
abbrev Txs (w : World) (v : Value) (l : List ByteArray) : Prop := Reads 1 encT w v l
theorem Txs.cell {w : World} {ao : Option Addr} {m cap : Nat} {l : List ByteArray} (h : Txs w (.slice ao m cap) l) {j : Nat} (hj : j < l.length) : ∃ b off, ao = some ⟨b, off, none⟩ ∧ b < w.heap.size ∧ w.cell? ⟨b, off + j, none⟩ = some (.string l[j]) := by
  obtain ⟨b, off, e, hlt, hc⟩ := h.cells hj
  have := hc 0 _ rfl
  rw [Nat.mul_one, Nat.add_zero] at this
  exact ⟨b, off, e, hlt, this⟩
theorem Try.infoT : (Try.prog.info? 9).map (fun i => (i.zero, i.size, i.bytes)) = some (some (.string ⟨#[]⟩), 1, 16) := by kernel_rfl

/-- Are they great? If they are not, there are at most so many, each of at most 100 bytes. -/
def GreatT (l : List ByteArray) (n : Nat) (e : Ending) : Prop := ∃ g, e = .returned (.bool g) ∧ (g = false → l.length ≤ n)
def lent : ByteArray := ⟨#[108, 101, 110, 116]⟩
end Go.Proofs.Ytejkboahjfcdcaa
