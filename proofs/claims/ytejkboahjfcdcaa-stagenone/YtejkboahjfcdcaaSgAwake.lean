/- awake: what every program answers that is one. -/
import Derived.Test.YtejkboahjfcdcaaSgAny
import Derived.Test.YtejkboahjfcdcaaSSame
namespace Go.Proofs.Ytejkboahjfcdcaa
open Go.RowKit
set_option linter.unusedVariables false

/-- A pair that lies in a block of its own. -/
theorem prs_block {w : World} {g : Nat} {s t : ByteArray} (h : w.heap[g]? = some (.cells #[.string s, .string t] 53 (0, 0))) : w.ownsRow 0 53 2 (.slice (some ⟨g, 0, none⟩) 1 1) 1 [.string s, .string t] :=
  ⟨rfl, .inr ⟨g, 1, _, rfl, Nat.zero_le _, h, Nat.le_refl _, by unfold maxLen; omega, rfl, rfl⟩⟩
theorem inG_fresh {b g : Nat} (h : g ≠ b) : ¬ InG b (.map none) [] g := by
  intro e
  rcases e with e | e | e
  · exact h e
  · cases e
  · obtain ⟨r, hr, _⟩ := e
    cases hr
def pA : KV := (⟨#[97]⟩, ⟨#[]⟩)
def pC : KV := (⟨#[99]⟩, ⟨#[]⟩)
set_option maxHeartbeats 4000000 in
set_option maxRecDepth 100000 in
theorem awake_calls (W : World) : Calls Try.prog 9 #[] W fun e w' => e = .returned (.bool true) ∧ Below W.heap.size W w' := by
  obtain ⟨i0, hi, hz0, hz1, hz2⟩ := info_parts Try.infoP
  go_enter Try.func9, Try.ntmps9
  go_wp2_with fail
  refine (new_stage W).mono ?_
  rintro e w1 ⟨rfl, hw1⟩
  have H1 := hid (show OnG W.heap.size W.heap.size (.map none) [] W w1 by rw [hw1]; exact OnG.new W)
  clear hw1
  go_wp2_with fail
  have hb2 := below_then (alloc_one w1 (.cells #[.string ⟨#[97]⟩, .string ⟨#[]⟩] 53)) (alloc_one _ (.cells #[.string ⟨#[99]⟩, .string ⟨#[]⟩] 53)) (alloc_one w1 _).size
  have H2 := hid (H1.out.below hb2)
  have hgB : w1.heap.size ≠ W.heap.size := by have := lt_of_block H1.out.sg.obj; omega
  have hgC : w1.heap.size + 1 ≠ W.heap.size := by have := lt_of_block H1.out.sg.obj; omega
  have hA : ((w1.alloc (.cells #[.string ⟨#[97]⟩, .string ⟨#[]⟩] 53)).alloc (.cells #[.string ⟨#[99]⟩, .string ⟨#[]⟩] 53)).heap[w1.heap.size]? = some (.cells #[.string ⟨#[97]⟩, .string ⟨#[]⟩] 53 (0, 0)) := ((alloc_one _ _).block _ (by simp)).trans (new_block _ _)
  have hC : ((w1.alloc (.cells #[.string ⟨#[97]⟩, .string ⟨#[]⟩] 53)).alloc (.cells #[.string ⟨#[99]⟩, .string ⟨#[]⟩] 53)).heap[w1.heap.size + 1]? = some (.cells #[.string ⟨#[99]⟩, .string ⟨#[]⟩] 53 (0, 0)) := by
    have := new_block (w1.alloc (.cells #[.string ⟨#[97]⟩, .string ⟨#[]⟩] 53)) (.cells #[.string ⟨#[99]⟩, .string ⟨#[]⟩] 53)
    simpa using this
  have HA2 := hid hA
  have HC2 := hid hC
  have HGB := hid (show W.heap.size ≤ w1.heap.size from H1.out.bel.size)
  clear hA hC H1 hb2
  generalize ((w1.alloc (.cells #[.string ⟨#[97]⟩, .string ⟨#[]⟩] 53)).alloc (.cells #[.string ⟨#[99]⟩, .string ⟨#[]⟩] 53)) = w2 at *
  generalize w1.heap.size = g at *
  have K : W64 (2, 1) := ⟨by decide, by decide⟩
  have HN2 := hid (show ¬ InG W.heap.size (.map none) [] g ∧ ¬ InG W.heap.size (.map none) [] (g + 1) from ⟨inG_fresh hgB, inG_fresh hgC⟩)
  refine (put_any _ _ _ _ (2, 1) K 0 _ [pA] w2 H2.out.sg (Reads.own encP_len (by decide) (prs_block HA2.out)) (by decide)).mono ?_
  rintro e w3 ⟨rfl, mv3, X3, s3, r3, v3, n3⟩
  have HR3 := hid (show chS X3 = [((2, 1), [[pA]])] from r3)
  have H3 := hid (H2.out.turn s3 v3)
  have HA3 := hid (v3.at HA2.out HN2.out.1)
  have HC3 := hid (v3.at HC2.out HN2.out.2)
  have HN3 := hid (show ¬ InG W.heap.size mv3 X3 g ∧ ¬ InG W.heap.size mv3 X3 (g + 1) from ⟨fun h => (n3 g h).elim HN2.out.1 (fun h => by have := lt_of_block HA2.out; omega), fun h => (n3 _ h).elim HN2.out.2 (fun h => by have := lt_of_block HC2.out; omega)⟩)
  rw [show putN (chS ([] : List ((Int × Int) × Pay))) (2, 1) 0 = 1 from rfl]
  clear s3 r3 v3 n3 H2 HA2 HC2 HN2
  go_wp2_with fail
  refine (put_any _ _ _ _ (2, 1) K 0 _ [pC] w3 H3.out.sg (Reads.own encP_len (by decide) (prs_block HC3.out)) (by decide)).mono ?_
  rintro e w4 ⟨rfl, mv4, X4, s4, r4, v4, n4⟩
  rw [HR3.out] at r4 ⊢
  have HR4 := hid (show chS X4 = [((2, 1), [[pA]])] from r4)
  have H4 := hid (H3.out.turn s4 v4)
  have HA4 := hid (v4.at HA3.out HN3.out.1)
  have HC4 := hid (v4.at HC3.out HN3.out.2)
  have HN4 := hid (show ¬ InG W.heap.size mv4 X4 g ∧ ¬ InG W.heap.size mv4 X4 (g + 1) from ⟨fun h => (n4 g h).elim HN3.out.1 (fun h => by have := lt_of_block HA3.out; omega), fun h => (n4 _ h).elim HN3.out.2 (fun h => by have := lt_of_block HC3.out; omega)⟩)
  rw [show putN [(((2 : Int), (1 : Int)), [[pA]])] (2, 1) 0 = 1 from rfl]
  clear s4 r4 v4 n4 H3 HA3 HC3 HN3 HR3
  go_wp2_with fail
  refine (put_any _ _ _ _ (2, 1) K 1 _ [pC] w4 H4.out.sg (Reads.own encP_len (by decide) (prs_block HC4.out)) (by decide)).mono ?_
  rintro e w5 ⟨rfl, mv5, X5, s5, r5, v5, n5⟩
  rw [HR4.out] at r5 ⊢
  have HR5 := hid (show chS X5 = [((2, 1), [[pA], [pC]])] from r5)
  have H5 := hid (H4.out.turn s5 v5)
  have HA5 := hid (v5.at HA4.out HN4.out.1)
  have HC5 := hid (v5.at HC4.out HN4.out.2)
  have HN5 := hid (show ¬ InG W.heap.size mv5 X5 g from fun h => (n5 g h).elim HN4.out.1 (fun h => by have := lt_of_block HA4.out; omega))
  rw [show putN [(((2 : Int), (1 : Int)), [[pA]])] (2, 1) 1 = 2 from rfl]
  clear s5 r5 v5 n5 H4 HA4 HC4 HN4 HR4 hgB hgC
  go_wp2_with fail
  refine (take_yes _ _ _ _ (2, 1) K 2 w5 H5.out.sg (by rw [HR5.out]; rfl) (by rw [HR5.out]; decide)).mono ?_
  rintro e w6 ⟨u, rfl, ho6, hb6⟩
  rw [HR5.out] at ho6
  replace ho6 : w6.ownsRow w5.heap.size 53 2 u 2 (fl encP [pA, pC]) := ho6
  have HO6 := hid ho6
  have H6 := hid (H5.out.below hb6)
  have HA6 := hid ((hb6.block _ (lt_of_block HA5.out)).trans HA5.out)
  have HC6 := hid ((hb6.block _ (lt_of_block HC5.out)).trans HC5.out)
  obtain ⟨ua, uc, rfl⟩ := owns_slice ho6
  have HG6 := hid (show g < w5.heap.size from lt_of_block HA5.out)
  have HZ6 := hid hb6.size
  clear ho6 hb6 H5 HA5 HC5
  go_wp2_with (at_builtin; refine wpList_append_got _ (by rfl) _ _ 31 rfl 0 53 i0 (.agg #[.string ⟨#[]⟩, .string ⟨#[]⟩]) 2 32 Try.underlying31 hi hz0 hz1 hz2 rfl (by decide) (.slice (some ⟨g, 0, none⟩) 1 1) 1 _ rfl (prs_block HA6.out) (some ⟨g + 1, 0, none⟩) 1 1 [.string ⟨#[99]⟩, .string ⟨#[]⟩] rfl rfl (fun e => by cases e) (fun ad had j u hj => by cases had; rw [addr_add, Nat.zero_add, cell_of_cells HC6.out]; simpa using hj) (by simp [Value.oneCell']) (by unfold maxLen; omega) (by omega) (by omega) ?_; intro v7 w7 ho7 hg7)
  have HP7 := hid (Reads.own encP_len (by decide) (owns_grown_ne HO6.out hg7 (fun x hx e => by
    have h1 := (HO6.out.lt x hx).1
    have h2 : g = x := by simpa [Value.ownBlock] using e
    have := HG6.out
    omega)))
  have HQ7 := hid (show Prs w7 v7 [pA, pC] from Reads.own (base := 0) (m := 2) encP_len (by decide) ho7)
  have hs7 : Sav (Just g) w6 w7 := Sav.grown hg7 (fun x hx => by
    have h2 : g = x := by simpa [Value.ownBlock] using hx
    exact h2.symm)
  have h7 : Sg W.heap.size W.heap.size mv5 X5 w7 := H6.out.sg.sav hs7 (fun x hx e => HN5.out (by rw [← show x = g from e]; exact hx))
  have H7 := hid (show OnG W.heap.size W.heap.size mv5 X5 W w7 from ⟨h7, H6.out.bel.trans (hs7.below (fun x e => by rw [show x = g from e]; exact HGB.out) H6.out.sg.low)⟩)
  clear ho7 hg7 hs7 h7 H6 HA6 HC6 HO6 HN5
  refine (samePairs_dec _ _ [pA, pC] [pA, pC] w7 HP7.out HQ7.out).mono ?_
  rintro e w8 ⟨rfl, n8, rfl⟩
  have H8 := hid (H7.out.below (below_drew w7 n8))
  rw [decide_eq_true rfl]
  generalize w7.drewN n8 = w8 at *
  clear HP7 HQ7 H7
  go_wp2_with fail
  refine (drop_any _ _ _ _ 2 w8 H8.out.sg).mono ?_
  rintro e w9 ⟨rfl, X9, s9, r9, v9, n9⟩
  rw [HR5.out] at r9 ⊢
  rw [show dropN [(((2 : Int), (1 : Int)), [[pA], [pC]])] 2 = 1 from rfl]
  have HR9 := hid (show chS X9 = [] from r9)
  have H9 := hid (H8.out.turn s9 v9)
  clear s9 r9 v9 n9 H8
  go_wp2_with fail
  refine (count_any _ _ _ _ w9 H9.out.sg).mono ?_
  rintro e w10 ⟨rfl, rfl⟩
  rw [HR9.out]
  go_wp2
  go_ret
  exact ⟨rfl, H9.out.bel⟩
end Go.Proofs.Ytejkboahjfcdcaa
