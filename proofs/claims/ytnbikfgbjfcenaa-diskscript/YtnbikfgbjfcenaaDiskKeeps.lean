/- The walk of DiskKeeps. -/
import Derived.Test.YtnbikfgbjfcenaaDkActs
namespace Go.Proofs.Ytnbikfgbjfcenaa
open Go.RowKit
set_option linter.unusedVariables false

/-- They lie in blocks of their own. -/
def Apart (v u : Value) : Prop := ∀ k, v.ownBlock = some k → u.ownBlock ≠ some k
theorem Apart.next {w : World} {base e s n : Nat} {v v' u : Value} {xs : List Value} (h : Apart v u) (hn : Next w v v') (hu : w.ownsRow base e s u n xs) : Apart v' u := by
  intro k hk e
  rcases hn with hn | hn
  · exact h k (hn ▸ hk) e
  · have := (hu.lt k e).2
    have := hn k hk
    omega
theorem Apart.same {v v' u : Value} (h : Apart v u) (hn : v'.ownBlock = v.ownBlock) : Apart v' u := fun k hk => h k (hn ▸ hk)
/-- What is new is apart from what was there. -/
theorem Apart.new {w w' : World} {base e s n e' s' n' : Nat} {v u : Value} {xs ys : List Value} (hv : w.ownsRow base e s v n xs) (hu : w'.ownsRow w.heap.size e' s' u n' ys) : Apart v u := by
  intro k hk e
  have := (hv.lt k hk).2
  have := (hu.lt k e).1
  omega
/-- What lies apart stays, when a disk turns what is its own. -/
theorem owns_ow {T base b : Nat} {v u : Value} {l : List Int} {n m B : Nat} {w w' : World} {xs : List Value} (hd : Dk T base b v l n w) (hT : T ≠ 5) (hu : w.ownsRow B 5 1 u m xs) (ha : Apart v u) (hs : Sav (Ow b v) w w') : w'.ownsRow B 5 1 u m xs :=
  owns_sav hu hs (fun k hk e => by
    rcases e with rfl | e
    · exact owns_ne hu hd.obj hT hk.symm
    · exact ha k e hk)
theorem owns_just {T base b : Nat} {v u : Value} {l : List Int} {n m B : Nat} {w w' : World} {xs : List Value} (hd : Dk T base b v l n w) (hT : T ≠ 5) (hu : w.ownsRow B 5 1 u m xs) (hs : Sav (Just b) w w') : w'.ownsRow B 5 1 u m xs :=
  owns_sav hu hs (fun k hk e => owns_ne hu hd.obj hT (by rw [hk]; exact congrArg some e.symm))
theorem owns_far {w w' : World} {B e s n : Nat} {u : Value} {xs : List Value} (hu : w.ownsRow B e s u n xs) (hb : Below w.heap.size w w') : w'.ownsRow B e s u n xs :=
  owns_sav (S := Non) hu (Sav.of_below hb) (fun _ _ h => h)

set_option maxHeartbeats 4000000 in
theorem diskKeeps_walk (W : World) (v : Value) (l : List ActV) (h : rSlice 3 rAct W [v] l) : Calls Try.prog 4 #[v] W fun e W' => e = .returned (.bool true) ∧ Below W.heap.size W W' := by
  have HR := hid h
  obtain ⟨ao, cap, hv, a1, a2, a3, a4⟩ := h
  obtain rfl : v = _ := by simpa using hv
  have HA := hid a4
  clear hv a3 a4
  unfold maxLen at a2
  go_enter Try.func4, Try.ntmps4
  go_wp2_with fail
  refine (great_any _ l 40 W HR.out (by decide)).mono ?_
  rintro e w0 ⟨⟨g, rfl, hg⟩, rfl⟩
  cases g with
  | true =>
    clear hg
    go_wp2_with fail
    refine (awake_any _).mono ?_
    rintro e w1 ⟨rfl, hb⟩
    go_wp2
    go_ret
    exact ⟨rfl, hb⟩
  | false =>
    have HG := hid (hg rfl)
    clear hg
    have hle : l.length ≤ 40 := HG.out.1
    go_wp2_with fail
    refine (new_any _).mono ?_
    rintro e w1 ⟨rfl, hw1⟩
    have H1 := hid (On.new w0 w1 (by rw [hw1]; exact below_alloc _ _) hw1)
    clear hw1
    obtain ⟨p, hp⟩ : ∃ p, w0.heap.size = p := ⟨_, rfl⟩
    rw [hp] at H1 ⊢
    have HP := hid hp
    clear hp
    go_wp2
    go_loopw [4, 5] (fun sv iv wr => ∃ k : Nat, k ≤ l.length ∧ iv = .int .i64 k ∧ ∃ v L, On p p v L L.length w0 wr ∧ L.length ≤ 60 * k ∧ wr.ownsRow p 5 1 sv L.length (cel L) ∧ Apart v sv) (fun _ i _ => l.length - (intOf i).toNat)
    case atStart => exact ⟨0, by omega, rfl, .slice none 0 0, [], H1.out, by simp, World.ownsRow_nil _ _ _ _, fun k hk => by cases hk⟩
    case round =>
      obtain ⟨k, hk, rfl, v, L, hon, hL, hsv, hap⟩ := hrel
      clear H1
      obtain ⟨so, sc, rfl⟩ := owns_slice hsv
      have HO := hid hon
      have HSV := hid hsv
      have HAP := hid hap
      have hbel := hon.bel
      clear hon hsv hap
      by_cases hlt : k < l.length
      · have H60 := HG.out.2 l[k] (List.getElem_mem hlt)
        obtain ⟨b, off, rfl, hbl, hc⟩ := HA.out (by intro e; rw [e] at hlt; simp at hlt)
        obtain ⟨bo, bc, x0, x1, x2, hbs⟩ := Acts.at hc hlt
        rcases hact : l[k] with ⟨i, n, m⟩
        rw [hact] at x0 x1 x2 hbs H60
        simp only at x0 x1 x2 hbs H60
        rw [HP.out] at hbl
        have X0 := fun (w' : World) (hb : Below p w0 w') => (hb.cell (p := ⟨b, off + k * 3, none⟩) hbl).trans x0
        have X1 := fun (w' : World) (hb : Below p w0 w') => (hb.cell (p := ⟨b, off + k * 3 + 1, none⟩) hbl).trans x1
        replace x2 := (hbel.cell (p := ⟨b, off + k * 3 + 2, none⟩) hbl).trans x2
        have HB := hid (hbs.below (hbel.mono (by rw [HP.out]; exact Nat.le_refl _)))
        have HX0 := hid X0
        have HX1 := hid X1
        clear X0 X1 x0 x1 hact hc hbs HA hbel
        go_wp2_with fail
        refine (append_any p p L.length _ _ L m _ HO.out.dk HB.out (by omega)).mono ?_
        rintro e w2 ⟨rfl, v2, hd2, hs2, hn2⟩
        have HN2 := hid (HO.out.ow hd2 hs2)
        have S2 := hid (owns_ow HO.out.dk (by decide) HSV.out HAP.out hs2)
        have P2 := hid (HAP.out.next hn2 HSV.out)
        have hAl : (L ++ m).length ≤ 60 * (k + 1) := by rw [List.length_append]; omega
        have hAs : L.length ≤ (L ++ m).length := by rw [List.length_append]; omega
        have hAt := hid (show (L ++ m).take L.length = L by simp)
        clear hd2 hs2 hn2 HO HSV HAP HB x2 H60
        generalize L ++ m = A at *
        go_wp2_with fail
        refine (bytes_any p p L.length v2 A _ HN2.out.dk).mono ?_
        rintro e w3 ⟨ao3, c3, rfl, ho3, hb3⟩
        have HN3 := hid (HN2.out.below hb3)
        have S3 := hid (owns_far S2.out hb3)
        have O3 := hid (owns_low ho3 HN2.out.dk.low)
        have Q3 := hid (Apart.new HN2.out.dk.own ho3)
        have R3 := hid (Apart.new S2.out ho3)
        have x0 := HX0.out w3 HN3.out.bel
        clear ho3 hb3 HN2 S2 HX0
        by_cases hi1 : i = 1
        · subst hi1
          go_wp2_with fail
          refine (sync_any p p L.length v2 A _ HN3.out.dk).mono ?_
          rintro e w4 ⟨rfl, hd4, hs4⟩
          have HN4 := hid (HN3.out.just hd4 hs4)
          have O4 := hid (owns_just HN3.out.dk (by decide) O3.out hs4)
          clear hd4 hs4 HN3 S3 O3 R3 HX1 P2 x0
          go_wp2_with fail
          refine (unsynced_any p p A.length v2 A _ HN4.out.dk).mono ?_
          rintro e w5 ⟨rfl, t5, rfl⟩
          rw [Nat.sub_self]
          have HN5 := hid (HN4.out.below (below_drewN1 _ t5))
          have O5 := hid (owns_far O4.out (below_drewN1 _ t5))
          clear HN4 O4
          generalize w4.drewN t5 = w5 at *
          go_wp2_with fail
          refine (bytes_any p p A.length v2 A _ HN5.out.dk).mono ?_
          rintro e w6 ⟨ao6, c6, rfl, ho6, hb6⟩
          have HN6 := hid (HN5.out.below hb6)
          have O6 := hid (owns_far O5.out hb6)
          have B6 := hid (Bs.owned ho6)
          clear HN5 O5 ho6 hb6
          go_wp2_with fail
          refine (same_any _ _ A A _ B6.out (Bs.owned O6.out)).mono ?_
          rintro e w7 ⟨rfl, t7, rfl⟩
          rw [decide_eq_true rfl]
          have HN7 := hid (HN6.out.below (below_drewN1 _ t7))
          have O7 := hid (owns_far O6.out (below_drewN1 _ t7))
          clear HN6 O6 B6
          generalize w6.drewN t7 = w7 at *
          go_wp2
          go_roundw
          case rel => exact ⟨k + 1, by omega, by go_num, v2, A, HN7.out, hAl, O7.out, Q3.out⟩
          case measure => simp [intOf]; omega
        · have x1 := HX1.out w3 HN3.out.bel
          have hi2 : (i == 1) = false := by simpa using hi1
          have hd0 : decide (i = 1) = false := by simpa using hi1
          go_wp2_with fail
          refine (crash_any p p L.length v2 A n _ HN3.out.dk).mono ?_
          rintro e w4 ⟨rfl, v4, hd4, hs4, hv4⟩
          have hst := stay_le HN3.out.dk.le n
          have HN4 := hid (HN3.out.just hd4 hs4)
          have O4 := hid (owns_just HN3.out.dk (by decide) O3.out hs4)
          have HL4 := hid (show (A.take (stay L.length A n)).length = stay L.length A n by rw [List.length_take]; omega)
          clear hd4 hs4 HN3 S3 O3 R3 HX1 P2 x0 x1 hv4
          generalize stay L.length A n = s at *
          obtain ⟨hs1, hs2⟩ := hst
          go_wp2_with fail
          refine (bytes_any p p s v4 _ _ HN4.out.dk).mono ?_
          rintro e w5 ⟨ao5, c5, rfl, ho5, hb5⟩
          have HN5 := hid (HN4.out.below hb5)
          have O5 := hid (owns_far O4.out hb5)
          have S5 := hid (owns_low ho5 HN4.out.dk.low)
          have Q5 := hid (Apart.new HN4.out.dk.own ho5)
          rw [HL4.out] at S5 Q5 ⊢
          clear HN4 O4 ho5 hb5
          have hd1 : decide ((s : Int) < (L.length : Int)) = false := by simp; omega
          have hd2 : decide ((A.length : Int) < (s : Int)) = false := by simp; omega
          obtain ⟨hc3, hm3⟩ : A.length ≤ c3 ∧ c3 ≤ maxLen := by
            obtain ⟨_, _, e, h1, h2, _⟩ := Bs.owned O5.out
            cases e
            exact ⟨h1, h2⟩
          unfold maxLen at hm3
          have T5 := hid ((Bs.owned O5.out).take s hs2)
          go_wp2_with fail
          refine (same_any _ _ (A.take s) (A.take s) _ (Bs.owned S5.out) T5.out).mono ?_
          rintro e w6 ⟨rfl, t6, rfl⟩
          rw [decide_eq_true rfl]
          have HN6 := hid (HN5.out.below (below_drewN1 _ t6))
          have S6 := hid (owns_far S5.out (below_drewN1 _ t6))
          clear HN5 O5 S5 T5 hd1 hd2 hc3 hm3
          generalize w5.drewN t6 = w6 at *
          go_wp2_with fail
          refine (unsynced_any p p s v4 _ _ HN6.out.dk).mono ?_
          rintro e w7 ⟨rfl, t7, rfl⟩
          rw [HL4.out, Nat.sub_self]
          have HN7 := hid (HN6.out.below (below_drewN1 _ t7))
          have S7 := hid (owns_far S6.out (below_drewN1 _ t7))
          clear HN6 S6
          generalize w6.drewN t7 = w7 at *
          go_wp2_with fail
          refine (bytes_any p p s v4 _ _ HN7.out.dk).mono ?_
          rintro e w8 ⟨ao8, c8, rfl, ho8, hb8⟩
          have HN8 := hid (HN7.out.below hb8)
          have S8 := hid (owns_far S7.out hb8)
          rw [HL4.out] at ho8 ⊢
          have B8 := hid (Bs.owned ho8)
          clear HN7 S7 ho8 hb8
          go_wp2_with fail
          refine (same_any _ _ (A.take s) (A.take s) _ B8.out (Bs.owned S8.out)).mono ?_
          rintro e w9 ⟨rfl, t9, rfl⟩
          rw [decide_eq_true rfl]
          have HN9 := hid (HN8.out.below (below_drewN1 _ t9))
          have S9 := hid (owns_far S8.out (below_drewN1 _ t9))
          clear HN8 S8 B8
          generalize w8.drewN t9 = w9 at *
          go_wp2
          go_roundw
          case rel => exact ⟨k + 1, by omega, by go_num, v4, A.take s, by rw [HL4.out]; exact HN9.out, by rw [HL4.out]; omega, by rw [HL4.out]; exact S9.out, Q5.out⟩
          case measure => simp [intOf]; omega
      · go_wp2_with fail
        refine (awake_any _).mono ?_
        rintro e w2 ⟨rfl, hb2⟩
        have hf := hbel.trans (hb2.mono HO.out.dk.low)
        go_wp2
        go_ret
        exact ⟨rfl, by rw [HP.out]; exact hf⟩
end Go.Proofs.Ytnbikfgbjfcenaa
