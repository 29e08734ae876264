/- Of of the program: the values of a key. -/
import Derived.Test.YtafbofcenbfkeaaLPairs
namespace Go.Proofs.Ytafbofcenbfkeaa
open Go.RowKit
set_option linter.unusedVariables false

/-- A new row of texts is answered. -/
def TextsNew (w : World) (l : List ByteArray) (e : Ending) (w' : World) : Prop := ∃ u, e = .returned u ∧ w'.ownsRow w.heap.size 9 1 u l.length (fl encT l) ∧ Below w.heap.size w w'
theorem valsOf_take {l : List KV} {k : Nat} {x : KV} (key : ByteArray) (hx : l[k]? = some x) : valsOf key (l.take (k + 1)) = valsOf key (l.take k) ++ (if x.1 = key then [x.2] else []) := by
  obtain ⟨h1, rfl⟩ := List.getElem?_eq_some_iff.1 hx
  rw [List.take_succ_eq_append_getElem h1, valsOf_append]
  congr 1
  unfold valsOf
  rw [those_cons]
  split
  · rfl
  · rfl
theorem length_vals (key : ByteArray) (l : List KV) : (valsOf key l).length ≤ l.length := by
  unfold valsOf those
  rw [List.length_map]
  exact List.length_filter_le _ _

set_option maxHeartbeats 2000000 in
theorem of_any (v : Value) (l : List KV) (key : ByteArray) (w : World) (hv : Prs w v l) (hn : l.length ≤ 1000) : Calls Try.prog 20 #[v, .string key] w (TextsNew w (valsOf key l)) := by
  have HV := hid hv
  obtain ⟨ao, ca, rfl, a1, a2, a3, -⟩ := hv
  unfold maxLen at a2
  clear a3
  obtain ⟨i0, hi, hz0, hz1, hz2⟩ := info_parts Try.infoT
  go_enter Try.func20, Try.ntmps20
  go_wp2
  go_loopw [5, 10] (fun u i wr => ∃ k : Nat, k ≤ l.length ∧ i = .int .i64 k ∧ wr.ownsRow w.heap.size 9 1 u (valsOf key (l.take k)).length (fl encT (valsOf key (l.take k))) ∧ Below w.heap.size w wr) (fun _ i _ => l.length - (intOf i).toNat)
  case atStart => exact ⟨0, by omega, rfl, by simpa [valsOf, those, fl] using World.ownsRow_nil _ _ _ _, Below.refl _ _⟩
  case round =>
    obtain ⟨k, hk, rfl, ho, hbel⟩ := hrel
    have HO := hid ho
    have hsz := hbel.size
    clear ho
    by_cases hlt : k < l.length
    · obtain ⟨b, off, x, hx, rfl, hb, c1, c2⟩ := Prs.cell? (HV.out.below hbel) hlt
      have HX := hid (valsOf_take key hx)
      have hvl := length_vals key (l.take k)
      rw [List.length_take] at hvl
      clear hx
      obtain ⟨s, t⟩ := x
      simp only at c1 c2 HX
      have hd4 : decide ((k : Int) < (l.length : Int)) = true := by simp; omega
      generalize valsOf key (l.take k) = ks at HO HX hvl
      by_cases hs : s = key
      · subst hs
        have he : (s.toList == s.toList) = true := by simp
        rw [if_pos rfl] at HX
        go_wp2_with (at_builtin; refine wpList_append_own _ rfl _ _ 39 rfl w.heap.size 9 i0 (.string ⟨#[]⟩) 1 16 Try.underlying39 hi hz0 hz1 hz2 rfl (by decide) _ ks.length _ rfl ((HO.out.alloc _).alloc _) ⟨wr.heap.size + 1, 0, none⟩ 1 1 [.string t] rfl rfl (by have := one_new (wr.alloc (.cells #[.string s, .string t] 45)) (.string t) 9; simpa using this) (by intro u hu; simp at hu; subst hu; rfl) (by unfold maxLen; omega) (by omega) (by simp; omega) ?_; intro v3 w3 ho3 hg3 _)
        have HB3 := hid ((((hbel.alloc (by omega) _).alloc (by simp; omega) _).grown hg3 (by simp; omega) (by intro q hq; exact owns_base HO.out hq)))
        have HO3 := hid (show w3.ownsRow w.heap.size 9 1 v3 (valsOf s (l.take (k + 1))).length (fl encT (valsOf s (l.take (k + 1)))) by rw [HX.out, fl_append, List.length_append]; exact ho3)
        clear ho3 hg3 HX HO hbel c1 c2
        go_wp2
        go_roundw
        case rel => exact ⟨k + 1, by omega, by go_num, HO3.out, HB3.out⟩
        case measure => simp [intOf]; omega
      · have he1 : ¬ s.toList = key.toList := fun e => hs (bytes_inj e)
        have he : (s.toList == key.toList) = false := by simpa using he1
        rw [if_neg hs, List.append_nil] at HX
        have HB3 := hid (hbel.alloc (by omega) (.cells #[.string s, .string t] 45))
        have HO3 := hid (show (wr.alloc (.cells #[.string s, .string t] 45)).ownsRow w.heap.size 9 1 _ (valsOf key (l.take (k + 1))).length (fl encT (valsOf key (l.take (k + 1)))) by rw [HX.out]; exact HO.out.alloc _)
        clear HX HO hs
        go_wp2
        go_roundw
        case rel => exact ⟨k + 1, by omega, by go_num, HO3.out, HB3.out⟩
        case measure => simp [intOf]; omega
    · obtain rfl : k = l.length := by omega
      have hd4 : decide ((l.length : Int) < (l.length : Int)) = false := by simp
      rw [List.take_length] at HO
      go_wp2
      go_ret
      exact ⟨_, rfl, HO.out, hbel⟩
end Go.Proofs.Ytafbofcenbfkeaa
