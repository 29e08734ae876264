/- Runs of the reference: all runs, one behind the other, in order. -/
import Derived.Test.YtafbofcenbfkeaaSRefK
import Derived.Test.YtafbofcenbfkeaaLis
namespace Go.Proofs.Ytafbofcenbfkeaa
open Go.RowKit
set_option linter.unusedVariables false

set_option maxHeartbeats 4000000 in
theorem refRuns_any (v : Value) (ls : List (List KV)) (w : World) (hv : Lis w v ls) (hn : ls.flatten.length ≤ 1000) :
    Calls Try.prog 11 #[v] w (PairsNew w (srt ls.flatten)) := by
  have HV := hid hv
  obtain ⟨ao, ca, rfl, a1, a2, -⟩ := hv.slice
  unfold maxLen at a2
  clear hv
  obtain ⟨i0, hi, hz0, hz1, hz2⟩ := info_parts Try.infoP
  go_enter Try.func11, Try.ntmps11
  go_wp2
  go_loopw [3, 4] (fun u i wr => ∃ k : Nat, k ≤ ls.length ∧ i = .int .i64 k ∧ wr.ownsRow w.heap.size 45 2 u (ls.take k).flatten.length (fl encP (ls.take k).flatten) ∧ Below w.heap.size w wr) (fun _ i _ => ls.length - (intOf i).toNat)
  case atStart => exact ⟨0, by omega, rfl, by simpa [fl] using World.ownsRow_nil _ _ _ _, Below.refl _ _⟩
  case round =>
    obtain ⟨k, hk, rfl, ho, hbel⟩ := hrel
    have HO := hid ho
    have hsz := hbel.size
    clear ho
    have hml3 := flat_take_le ls k
    by_cases hlt : k < ls.length
    · obtain ⟨b, off, l, xo, xc, hl, rfl, hb, c1, hp⟩ := (HV.out.below hbel).cell hlt
      have HF := hid (flat_take hl)
      have hml2 : (ls.take k).flatten.length + l.length ≤ 1000 := by have := flat_take_le ls (k + 1); rw [flat_take hl, List.length_append] at this; omega
      have HP := hid hp
      clear hl hp
      have d4 : decide ((k : Int) < (ls.length : Int)) = true := by simp; omega
      generalize (ls.take k).flatten = ks at HO HF hml2 hml3
      go_wp2_with (at_builtin; refine wpList_append_own_any _ rfl _ _ 26 rfl w.heap.size 45 i0 (.agg #[.string ⟨#[]⟩, .string ⟨#[]⟩]) 2 32 Try.underlying26 hi hz0 hz1 hz2 rfl (by decide) _ ks.length _ rfl HO.out xo l.length xc (fl encP l) rfl (fl_length encP_len l) HP.out.noneOf (HP.out.news encP_len (by decide) (Below.refl _ _)) (fl_one encP_one l) (by unfold maxLen; omega) (by omega) (by omega) ?_; intro v3 w3 ho3 hg3)
      have HB3 := hid (hbel.grown hg3 (by omega) (by intro q hq; exact owns_base HO.out hq))
      have HO3 := hid (show w3.ownsRow w.heap.size 45 2 v3 (ls.take (k + 1)).flatten.length (fl encP (ls.take (k + 1)).flatten) by rw [HF.out, fl_append, List.length_append]; exact ho3)
      clear ho3 hg3 HF HO hbel c1 HP
      go_wp2
      go_roundw
      case rel => exact ⟨k + 1, by omega, by go_num, HO3.out, HB3.out⟩
      case measure => simp [intOf]; omega
    · obtain rfl : k = ls.length := by omega
      have d4 : decide ((ls.length : Int) < (ls.length : Int)) = false := by simp
      rw [List.take_length] at HO
      go_wp2_with fail
      refine (refSort_any refKeys_any _ ls.flatten wr (Reads.own encP_len (by decide) HO.out) hn).mono ?_
      rintro e w1 ⟨u, rfl, ho1, hb1⟩
      have HO1 := hid (owns_mono ho1 hsz)
      have HB1 := hid (below_then hbel hb1 hbel.size)
      clear ho1 hb1 HO hbel
      go_wp2
      go_ret
      exact ⟨_, rfl, HO1.out, HB1.out⟩
end Go.Proofs.Ytafbofcenbfkeaa
