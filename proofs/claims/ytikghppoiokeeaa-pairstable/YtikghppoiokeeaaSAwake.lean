/- awake of chapter 7's statements: it is true. -/
import Derived.Test.YtikghppoiokeeaaSRefK
namespace Go.Proofs.Ytikghppoiokeeaa
open Go.RowKit
set_option linter.unusedVariables false

def bA : ByteArray := ⟨#[97]⟩
def bB : ByteArray := ⟨#[98]⟩
def b0 : ByteArray := ⟨#[48]⟩
def b1 : ByteArray := ⟨#[49]⟩
def b2 : ByteArray := ⟨#[50]⟩
def al : List KV := [(bB, b1), (bA, b2), (bB, b0)]
def al2 : List KV := [(bA, b2), (bB, b1), (bB, b0)]
theorem al_srt : srt al = al2 := by decide
theorem al_keys : keysOf al = [bA, bB] := by decide
theorem al_vals : valsOf bB al = [b1, b0] := by decide
theorem al_not : decide (srt al = al) = false := by decide
theorem pairs_made (l : List KV) (w : World) (h : l.length ≤ 1000) : Prs (w.alloc (.cells (fl encP l).toArray 36)) (.slice (some ⟨w.heap.size, 0, none⟩) l.length l.length) l := Reads.made encP_len (by decide) 36 l w h
theorem texts_made (l : List ByteArray) (w : World) (h : l.length ≤ 1000) : Txs (w.alloc (.cells (fl encT l).toArray 9)) (.slice (some ⟨w.heap.size, 0, none⟩) l.length l.length) l := Reads.made encT_len (by decide) 9 l w h

def oA : Obj := .cells #[.string ⟨#[98]⟩, .string ⟨#[49]⟩, .string ⟨#[97]⟩, .string ⟨#[50]⟩, .string ⟨#[98]⟩, .string ⟨#[48]⟩] 36
def oB : Obj := .cells #[.string ⟨#[97]⟩, .string ⟨#[50]⟩, .string ⟨#[98]⟩, .string ⟨#[49]⟩, .string ⟨#[98]⟩, .string ⟨#[48]⟩] 36
def oK : Obj := .cells #[.string ⟨#[97]⟩, .string ⟨#[98]⟩] 9
def oV : Obj := .cells #[.string ⟨#[49]⟩, .string ⟨#[48]⟩] 9
theorem al_made (w : World) : Prs (w.alloc oA) (.slice (some ⟨w.heap.size, 0, none⟩) 3 3) al := pairs_made al w (by decide)
theorem al2_made (w : World) : Prs (w.alloc oB) (.slice (some ⟨w.heap.size, 0, none⟩) 3 3) al2 := pairs_made al2 w (by decide)
theorem ak_made (w : World) : Txs (w.alloc oK) (.slice (some ⟨w.heap.size, 0, none⟩) 2 2) [bA, bB] := texts_made [bA, bB] w (by decide)
theorem av_made (w : World) : Txs (w.alloc oV) (.slice (some ⟨w.heap.size, 0, none⟩) 2 2) [b1, b0] := texts_made [b1, b0] w (by decide)

set_option maxHeartbeats 2000000 in
theorem awake_calls (w : World) : Calls Try.prog 7 #[] w fun e w' => e = .returned (.bool true) ∧ Below w.heap.size w w' := by
  go_enter Try.func7, Try.ntmps7
  go_wp2_with fail
  have HB0 := hid (alloc_one w oA)
  refine (sort_any _ al (w.alloc oA) (al_made w) (by decide)).mono ?_
  rintro e w1 ⟨u1, rfl, ho1, hb1⟩
  have HA1 := hid ((al_made w).below hb1)
  have HO1 := hid ho1
  have HB1 := hid (below_then HB0.out hb1 HB0.out.size)
  rw [al_srt] at HO1
  clear ho1 hb1 HB0
  go_wp2_with fail
  refine (samePairs_any _ _ al2 (w1.alloc oB) (Reads.own encP_len (by decide) (HO1.out.alloc _)) (al2_made w1)).mono ?_
  rintro e w2 ⟨rfl, n2, rfl⟩
  have hb2 : Below w1.heap.size w1 ((w1.alloc oB).drewN n2) := below_then (alloc_one w1 oB) (below_drew _ _) (alloc_one w1 oB).size
  have HA2 := hid (HA1.out.below hb2)
  have HB2 := hid (below_then HB1.out hb2 HB1.out.size)
  generalize (w1.alloc oB).drewN n2 = w2 at hb2 HA2 HB2 ⊢
  clear hb2 HA1 HB1 HO1
  go_wp2_with fail
  refine (keys_any _ al w2 HA2.out (by decide)).mono ?_
  rintro e w3 ⟨u3, rfl, ho3, hb3⟩
  have HA3 := hid (HA2.out.below hb3)
  have HO3 := hid ho3
  have HB3 := hid (below_then HB2.out hb3 HB2.out.size)
  rw [al_keys] at HO3
  clear ho3 hb3 HA2 HB2
  go_wp2_with fail
  refine (sameTexts_any _ _ [bA, bB] (w3.alloc oK) (Reads.own encT_len (by decide) (HO3.out.alloc _)) (ak_made w3)).mono ?_
  rintro e w4 ⟨rfl, n4, rfl⟩
  have hb4 : Below w3.heap.size w3 ((w3.alloc oK).drewN n4) := below_then (alloc_one w3 oK) (below_drew _ _) (alloc_one w3 oK).size
  have HA4 := hid (HA3.out.below hb4)
  have HB4 := hid (below_then HB3.out hb4 HB3.out.size)
  generalize (w3.alloc oK).drewN n4 = w4 at hb4 HA4 HB4 ⊢
  clear hb4 HA3 HB3 HO3
  go_wp2_with fail
  refine (sorted_any _ al w4 HA4.out).mono ?_
  rintro e w5 ⟨rfl, hb5⟩
  rw [al_not]
  have HA5 := hid (HA4.out.below hb5)
  have HB5 := hid (below_then HB4.out hb5 HB4.out.size)
  clear hb5 HA4 HB4
  go_wp2_with fail
  refine (of_any _ al bB w5 HA5.out (by decide)).mono ?_
  rintro e w6 ⟨u6, rfl, ho6, hb6⟩
  have HO6 := hid ho6
  have HB6 := hid (below_then HB5.out hb6 HB5.out.size)
  rw [al_vals] at HO6
  clear ho6 hb6 HA5 HB5
  go_wp2_with fail
  refine (sameTexts_any _ _ [b1, b0] (w6.alloc oV) (Reads.own encT_len (by decide) (HO6.out.alloc _)) (av_made w6)).mono ?_
  rintro e w7 ⟨rfl, n7, rfl⟩
  have HB7 := hid (below_then HB6.out (below_then (alloc_one w6 oV) (below_drew _ n7) (alloc_one w6 oV).size) HB6.out.size)
  go_wp2
  go_ret
  exact ⟨rfl, HB7.out⟩
end Go.Proofs.Ytikghppoiokeeaa
