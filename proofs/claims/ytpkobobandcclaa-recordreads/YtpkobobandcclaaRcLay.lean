/- Records' bytes as the program lays them. -/
import Derived.Test.YtpkobobandcclaaRcMayAll
import Derived.Test.YtpkobobandcclaaRefLay
import Derived.Test.YtpkobobandcclaaAppAt
namespace Go.Proofs.Ytpkobobandcclaa
open Go.RowKit
set_option linter.unusedVariables false

/-- Bytes with memory of their own. -/
def OB (base : Nat) (v : Value) (l : List Int) (w : World) : Prop := w.ownsRow base 5 1 v l.length (cel l)
theorem OB.nil (base : Nat) (w : World) : OB base (.slice none 0 0) [] w := World.ownsRow_nil _ _ _ _
theorem OB.below {base : Nat} {v : Value} {l : List Int} {w w' : World} (h : OB base v l w) (hb : Below w.heap.size w w') : OB base v l w' := owns_below h hb
theorem OB.bs {base : Nat} {v : Value} {l : List Int} {w : World} (h : OB base v l w) : Bs w v l := Bs.owned h
theorem OB.form {base : Nat} {v : Value} {l : List Int} {w : World} (h : OB base v l w) : ∃ ao c, v = .slice ao l.length c := owns_slice h
theorem OB.low {base base' : Nat} {v : Value} {l : List Int} {w : World} (h : OB base v l w) (hb : base' ≤ base) : OB base' v l w := owns_low h hb
theorem OB.grown {base B : Nat} {v : Value} {l : List Int} {W w w' : World} (h : OB base v l w) (hg : w.grownBy w' v.ownBlock) (hb : Below B W w) (h1 : B ≤ w.heap.size) (h2 : B ≤ base) : Below B W w' := grown_below hb h hg h1 h2
theorem num_nil (n : Int) (w : World) : Calls Try.prog 42 #[.slice none 0 0, .int .i64 n] w fun e w' => ∃ g c, e = .returned (.slice (some ⟨g, 0, none⟩) 8 c) ∧ OB w.heap.size (.slice (some ⟨g, 0, none⟩) 8 c) (be8 n) w' ∧ Below w.heap.size w w' := by
  refine (num_any (.slice none 0 0) n [] w (Bs.nil w) (by simp)).mono ?_
  rintro e w1 ⟨rfl, ho, hb⟩
  exact ⟨_, _, rfl, ho, hb⟩
theorem text_nil (s : ByteArray) (w : World) (hs : s.size ≤ 1000000) : Calls Try.prog 59 #[.slice none 0 0, .string s] w fun e w' => ∃ g c, e = .returned (.slice (some ⟨g, 0, none⟩) (8 + s.size) c) ∧ OB w.heap.size (.slice (some ⟨g, 0, none⟩) (8 + s.size) c) (txt s) w' ∧ Below w.heap.size w w' := by
  refine (text_any (.slice none 0 0) s [] w (Bs.nil w) (by simp; omega)).mono ?_
  rintro e w1 ⟨rfl, ho, hb⟩
  simp only [List.length_nil, Nat.zero_add, List.nil_append, str_cel, ← cel_append] at ho ⊢
  exact ⟨_, _, rfl, by unfold OB; rw [txt_length]; exact ho, hb⟩
theorem layNum_own (base : Nat) (v : Value) (l : List Int) (n : Int) (w : World) (ho : OB base v l w) (hb : base ≤ w.heap.size) (hr : l.length ≤ 1000000) :
    Calls Try.prog 40 #[v, .int .i64 n] w fun e w' => ∃ v', e = .returned v' ∧ OB base v' (l ++ be8 n) w' ∧ w.grownBy w' v.ownBlock := by
  obtain ⟨i0, hi, hz0, hz1, hz2⟩ := info_parts Try.info5
  have HO := hid ho
  clear ho
  go_enter Try.func40, Try.ntmps40
  go_wp2_with fail
  refine (num_nil n w).mono ?_
  rintro e w1 ⟨g, c, rfl, ho1, hb1⟩
  have hsz := hb1.size
  go_wp2_with (at_builtin; refine wpList_append_own _ rfl _ _ 25 rfl base 5 i0 (.int .u8 0) 1 1 Try.underlying25 hi hz0 hz1 hz2 rfl (by decide) _ l.length _ rfl (HO.out.below hb1) ⟨g, 0, none⟩ 8 c (cel (be8 n)) rfl (by rw [cel_length, be8_length]) (ho1.bs.news (Below.refl _ _) _ rfl) (cel_oneCell _) (by unfold maxLen; omega) (by omega) (by omega) ?_; intro v1 w2 ho2 hg2 _)
  go_ret
  exact ⟨v1, rfl, by unfold OB; rw [List.length_append, be8_length, cel_append]; exact ho2, grownBy_trans (grownBy_below hb1 _) hg2⟩
theorem layText_own (base : Nat) (v : Value) (l : List Int) (s : ByteArray) (w : World) (ho : OB base v l w) (hb : base ≤ w.heap.size) (hr : l.length ≤ 1000000) (hs : s.size ≤ 1000000) :
    Calls Try.prog 41 #[v, .string s] w fun e w' => ∃ v', e = .returned v' ∧ OB base v' (l ++ txt s) w' ∧ w.grownBy w' v.ownBlock := by
  obtain ⟨i0, hi, hz0, hz1, hz2⟩ := info_parts Try.info5
  have HO := hid ho
  clear ho
  go_enter Try.func41, Try.ntmps41
  go_wp2_with fail
  refine (text_nil s w hs).mono ?_
  rintro e w1 ⟨g, c, rfl, ho1, hb1⟩
  have hsz := hb1.size
  go_wp2_with (at_builtin; refine wpList_append_own _ rfl _ _ 25 rfl base 5 i0 (.int .u8 0) 1 1 Try.underlying25 hi hz0 hz1 hz2 rfl (by decide) _ l.length _ rfl (HO.out.below hb1) ⟨g, 0, none⟩ (8 + s.size) c (cel (txt s)) rfl (by rw [cel_length, txt_length]; omega) (Bs.news (by have := ho1.bs; exact this) (Below.refl _ _) _ rfl) (cel_oneCell _) (by unfold maxLen; omega) (by omega) (by omega) ?_; intro v1 w2 ho2 hg2 _)
  go_ret
  exact ⟨v1, rfl, by unfold OB; rw [List.length_append, txt_length, cel_append]; exact ho2, grownBy_trans (grownBy_below hb1 _) hg2⟩
end Go.Proofs.Ytpkobobandcclaa
