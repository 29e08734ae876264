/- Pairs as they come in. -/
import Derived.Test.YtejkboahjfcdcaaTPairs
import Derived.Test.YtejkboahjfcdcaaRds
namespace Go.Proofs.Ytejkboahjfcdcaa
open Go.RowKit
set_option linter.unusedVariables false

abbrev rPr : Rd (ByteArray × ByteArray) := rPair 1 rStr rStr
theorem opens_pr : Opens Try.prog 53 2 rPr :=
  opens_struct Try.underlying53 (by kernel_rfl) (opensF_cons rfl (by kernel_rfl) (opens_str Try.underlying9) (opensF_last rfl (by kernel_rfl) rfl (opens_str Try.underlying9)))
theorem opens_pairs : Opens Try.prog 31 1 (rSlice 2 rPr) := @opens_slice _ ⟨(⟨#[]⟩, ⟨#[]⟩)⟩ _ _ _ _ _ Try.underlying31 (by kernel_rfl) (by decide) opens_pr
theorem rPr_cells {w : World} {cs : List Value} {x : ByteArray × ByteArray} (hl : cs.length = 2) (h : rPr w cs x) : cs = encP x := by
  match cs, hl with
  | [p, q], _ =>
    obtain ⟨h1, h2⟩ := h
    have e1 : p = .string x.1 := by simpa [rStr] using h1.1
    have e2 : q = .string x.2 := by simpa [rStr] using h2.1
    rw [e1, e2]
    rfl
theorem Prs.arg {w : World} {v : Value} {l : List (ByteArray × ByteArray)} (h : rSlice 2 rPr w [v] l) : Prs w v l := by
  obtain ⟨ao, cap, hv, h1, h2, h3, h4⟩ := h
  refine ⟨ao, cap, by simpa using hv, h1, h2, h3, fun hl => ?_⟩
  obtain ⟨b, off, rfl, hlt, hc⟩ := h4 hl
  refine ⟨b, off, rfl, hlt, fun j x hj k u hk => ?_⟩
  obtain ⟨ds, hd, hr, hu⟩ := hc j x hj
  have e := rPr_cells hd hr
  subst e
  exact hu k u hk
end Go.Proofs.Ytejkboahjfcdcaa
