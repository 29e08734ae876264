/- PairStable: in order each key's values stand as they stood; sorted again they stay. -/
import Derived.Test.YtikghppoiokeeaaSAwake
import Derived.Test.YtikghppoiokeeaaSArg
import Derived.Test.YtikghppoiokeeaaHeldBy
namespace Go.Proofs.Ytikghppoiokeeaa
open Go.RowKit
set_option linter.unusedVariables false

/-- Number i is not wanted: it is passed by first. -/
theorem skipH {P : Program} {ops : Array Oper} {Q : Exit → Act → World → Prop} {md : Region.Mode} {S : World → Prop} (i : Nat) (d : Nat) {oi : Oper} {fuel : Nat} {listed : Array Bool} {a : Act} {w : World} (hi : ops[i]? = some oi) (hd : oi.dst = some d)
    (hs : Region.noSelect ops = true) (hf : Region.free md ops listed i = true) (hr : (Region.ready md ops listed).contains i = true)
    (hQ : ∀ c a w, Q (.panic c) (a.put oi.dst undef) w → Q (.panic c) a w) (hw : Region.wanted oi (yielded ops a.tmps) = false) (hS : S w)
    (h : wpAnyH P md ops Q S fuel (listed.setIfInBounds i true) (a.put (some d) undef) w) : wpAnyH P md ops Q S (fuel + 1) listed a w :=
  wpAnyH_take hi hs hf hr hQ (.inr ⟨hw, rfl⟩) hS (by rw [hd]; exact h)
theorem vals_some {l : List KV} {k : Nat} {key : ByteArray} (h : (keysOf l)[k]? = some key) : 0 < (valsOf key l).length := by
  obtain ⟨x, hx, rfl⟩ := mem_keys.1 (List.mem_of_getElem? h)
  have : x ∈ those x.1 l := mem_those.2 ⟨hx, rfl⟩
  unfold valsOf
  rw [List.length_map]
  exact List.length_pos_of_mem this
theorem keys_up {l : List KV} {k : Nat} {a b : ByteArray} (ha : (keysOf l)[k]? = some a) (hb : (keysOf l)[k + 1]? = some b) : kLt a b = true := by
  obtain ⟨h1, rfl⟩ := List.getElem?_eq_some_iff.1 ha
  obtain ⟨h2, rfl⟩ := List.getElem?_eq_some_iff.1 hb
  exact List.pairwise_iff_getElem.1 (rising_keys l) k (k + 1) h1 h2 (by omega)
/-- Where a key's values stand. -/
theorem stands {l : List KV} {k j : Nat} {key x : ByteArray} (h : (keysOf l)[k]? = some key) (hx : (valsOf key l)[j]? = some x) : (srt l)[(byKeys ((keysOf l).take k) l).length + j]? = some (key, x) := by
  rw [← byKeys_srt l, ← byKeys_cut (keysOf l) l (k + 1), byKeys_snoc h, List.append_assoc, List.getElem?_append_right (by omega), Nat.add_sub_cancel_left]
  have hj := (List.getElem?_eq_some_iff.1 hx).1
  rw [List.getElem?_append_left (by rw [List.length_map]; exact hj), List.getElem?_map, hx]
  rfl
theorem own_pr {w : World} {base b off n c j : Nat} {l : List KV} {x : KV} (h : w.ownsRow base 36 2 (.slice (some ⟨b, off, none⟩) n c) n (fl encP l)) (hx : l[j]? = some x) : w.cell? ⟨b, off + j * 2, none⟩ = some (.string x.1) ∧ w.cell? ⟨b, off + j * 2 + 1, none⟩ = some (.string x.2) := by
  obtain ⟨b', off', y, hy, e, _, h1, h2⟩ := Prs.cell? (Reads.own encP_len (by decide) h) (List.getElem?_eq_some_iff.1 hx).1
  cases e
  rw [hx] at hy
  cases hy
  exact ⟨h1, h2⟩

set_option maxRecDepth 100000 in
set_option maxHeartbeats 8000000 in
theorem pairStable_plain (w : World) (v : Value) (l : List KV) (hv : Prs w v l) :
    Calls Try.prog 4 #[v] w fun e w' => e = .returned (.bool true) ∧ Below w.heap.size w w' := by
  have HV := hid hv
  obtain ⟨ao, ca, rfl, a1, a2, a3, -⟩ := hv
  unfold maxLen at a2
  clear a3
  go_enter Try.func4, Try.ntmps4
  go_wp2_with fail
  refine (greatPairs_any _ l 80 w HV.out).mono ?_
  rintro e w0 ⟨⟨g, rfl, hg⟩, rfl⟩
  cases g with
  | true =>
    clear hg
    go_wp2_with fail
    refine (awake_calls _).mono ?_
    rintro e w9 ⟨rfl, hb9⟩
    go_wp2
    go_ret
    exact ⟨rfl, hb9⟩
  | false =>
    have hl := hg rfl
    clear hg
    rename World => w
    go_wp2_with fail
    refine (sort_any _ l w HV.out (by omega)).mono ?_
    rintro e w1 ⟨va, rfl, ho1, hb1⟩
    rw [length_srt] at ho1
    obtain ⟨aa, c1, rfl⟩ := own_slice ho1
    have HOa := hid ho1
    have HB1 := hid hb1
    have hn1 : ((l.length : Int) != (l.length : Int)) = false := by simp
    clear ho1 hb1
    go_wp2_with fail
    refine (sorted_any _ (srt l) w1 (Reads.own encP_len (by decide) HOa.out)).mono ?_
    rintro e w2 ⟨rfl, hc2⟩
    rw [show decide (srt (srt l) = srt l) = true from decide_eq_true (srt_srt l)]
    have HC2 := hid hc2
    clear hc2
    go_wp2_with fail
    refine (sort_any _ (srt l) w2 (Reads.own encP_len (by decide) (owns_below HOa.out HC2.out)) (by rw [length_srt]; omega)).mono ?_
    rintro e w3 ⟨x3, rfl, ho3, hc3⟩
    rw [srt_srt] at ho3
    have HO3 := hid ho3
    have HC3 := hid (below_then HC2.out hc3 HC2.out.size)
    clear ho3 hc3 HC2
    go_wp2_with fail
    refine (samePairs_any _ _ (srt l) w3 (Reads.own encP_len (by decide) HO3.out) (Reads.own encP_len (by decide) (owns_below HOa.out HC3.out))).mono ?_
    rintro e w4 ⟨rfl, n4, rfl⟩
    have HC4 := hid (below_then HC3.out (below_drew w3 n4) HC3.out.size)
    generalize w3.drewN n4 = w4 at HC4 ⊢
    clear HO3 HC3
    go_wp2_with fail
    refine (keys_any _ l w4 (HV.out.below (below_then HB1.out HC4.out HB1.out.size)) (by omega)).mono ?_
    rintro e w5 ⟨vk, rfl, ho5, hc5⟩
    obtain ⟨ak, ck, rfl⟩ := own_slice ho5
    have HOk := hid ho5
    have HB5 := hid (below_then HB1.out (below_then HC4.out hc5 HC4.out.size) HB1.out.size)
    have HOa5 := hid (owns_below HOa.out (below_then HC4.out hc5 HC4.out.size))
    have HV5 := hid (HV.out.below HB5.out)
    have hkl := length_keys l
    have HUp := hid (fun k a b => @keys_up l k a b)
    have HSome := hid (fun k key => @vals_some l k key)
    have HSt := hid (fun k j key x => @stands l k j key x)
    have HLen := hid (fun k => byKeys_len l k)
    have HSn := hid (fun k key => @byKeys_snoc (keysOf l) l k key)
    have HEnd := hid (byKeys_srt l)
    clear ho5 hc5 HOa HB1 HC4 HV
    generalize hks : keysOf l = ks at HOk hkl HUp HSome HSt HLen HSn HEnd
    clear hks
    have hkl2 : ks.length ≤ 80 := by omega
    generalize hvin : Value.slice ao l.length ca = vin at HV5 ⊢
    clear hvin
    go_wp2
    go_loopw [5, 6] (fun p i wr => ∃ k q : Nat, k ≤ ks.length ∧ (byKeys (ks.take k) l).length = q ∧ p = .int .i64 q ∧ i = .int .i64 k ∧ Below w5.heap.size w5 wr) (fun _ i _ => ks.length - (intOf i).toNat)
    case atStart => exact ⟨0, 0, by omega, rfl, rfl, rfl, Below.refl _ _⟩
    case round =>
      obtain ⟨k, q, hk, hq, rfl, rfl, hbr⟩ := hrel
      have HQ := hid hq
      clear hq
      by_cases hlt : k < ks.length
      · have hd1 : decide ((k : Int) < (ks.length : Int)) = true := by simp; omega
        obtain ⟨kb, ko, key, hkey, rfl, hkb, ck1⟩ := Txs.cell? (Reads.own encT_len (by decide) (owns_below HOk.out hbr)) hlt
        have HKey := hid hkey
        clear hkey
        go_wp2_with fail
        refine (of_any _ l key wr (HV5.out.below hbr) (by omega)).mono ?_
        rintro e w6 ⟨vv, rfl, ho6, hb6⟩
        obtain ⟨av, cv, rfl⟩ := own_slice ho6
        have HOv := hid ho6
        have HB6 := hid (below_then hbr hb6 hbr.size)
        have hvs := length_vals key l
        have hv0 := HSome.out k key HKey.out
        have HVal := hid (fun j x => HSt.out k j key x HKey.out)
        have HNext := hid (HSn.out k key HKey.out)
        have HVS := hid (valsOf_srt key l)
        clear ho6 hb6 hbr ck1 hkb
        obtain ⟨vs, hvs'⟩ : ∃ vs, valsOf key l = vs := ⟨_, rfl⟩
        rw [hvs'] at HOv hvs hv0 HVal HNext HVS
        rw [hvs']
        clear hvs'
        have c6 := own_txt (owns_below HOk.out HB6.out) HKey.out
        have hkb6 := own_txt_lt (owns_below HOk.out HB6.out) HKey.out
        have HC6 := hid c6
        have hk0 : (0 : Int) ≤ (k : Int) := by omega
        have hkn : (k : Int) < (ks.length : Int) := by omega
        have hv1 : ((vs.length : Int) == 0) = false := beq_eq_false_iff_ne.2 (by omega)
        have hv2 : ¬ vs.length = 0 := by omega
        by_cases hk1 : 0 < k
        · as_aux_lemma =>
            obtain ⟨kp, hkp⟩ : ∃ kp, k = kp + 1 := ⟨k - 1, by omega⟩
            obtain ⟨key', hkey'⟩ : ∃ key', ks[kp]? = some key' := ⟨ks[kp]'(by omega), List.getElem?_eq_getElem (by omega)⟩
            have HKey' := hid hkey'
            have hup := HUp.out kp key' key hkey' (by rw [← hkp]; exact HKey.out)
            have c6' := own_txt (owns_below HOk.out HB6.out) hkey'
            have HC6' := hid c6'
            have hd2 : decide (0 < k) = true := by simp; omega
            have hd3 : decide ((0 : Int) < (k : Int)) = true := by simp; omega
            have hkk : ((k : Int) - 1) = (kp : Int) := by omega
            have hkw : IntKind.i64.wrap (kp : Int) = (kp : Int) := by rw [IntKind.wrap_i64]; omega
            have hkp0 : (0 : Int) ≤ (kp : Int) := by omega
            have hkpn : (kp : Int) < (ks.length : Int) := by omega
            have hbl : Op.bytesLess key'.toList key.toList = true := by rw [ByteArray.toList_eq, ByteArray.toList_eq]; exact hup
            have HKP := hid hkp
            clear hkey' hup hkp
            go_wp2_with fail
            go_region_held3 (fun w' => w'.cell? ⟨kb, ko + k, none⟩ = some (.string key) ∧ w'.cell? ⟨kb, ko + kp, none⟩ = some (.string key'))
              (first | exact ⟨keepc HB8.out hkb6 HC6.out, keepc HB8.out hkb6 HC6'.out⟩ | exact ⟨keepc HB7.out hkb6 HC6.out, keepc HB7.out hkb6 HC6'.out⟩ | exact ⟨HC6.out, HC6'.out⟩)
              (first | (go_at_call 11; refine (of_any _ (srt l) key _ (Reads.own encP_len (by decide) (owns_below HOa5.out (below_then HB6.out (below_drew1 w6) HB6.out.size))) (by rw [length_srt]; omega)).mono ?_; rintro e w7 ⟨x7, rfl, ho7, hb7⟩; rw [HVS.out] at ho7; have HO7 := hid ho7; have HB7 := hid (below_then (below_drew1 w6) hb7 (Nat.le_refl _)); clear ho7 hb7) | (go_at_call 14; refine (sameTexts_any _ _ vs w7 (Reads.own encT_len (by decide) HO7.out) (Reads.own encT_len (by decide) (owns_below HOv.out HB7.out))).mono ?_; rintro e w8 ⟨rfl, n8, rfl⟩; have HB8 := hid (below_then HB7.out (below_drew w7 n8) HB7.out.size)))
            generalize w7.drewN n8 = w8 at HB8 ⊢
            clear HO7 HB7 c6 c6' HC6 HC6'
            have HE8 := hid (below_then HB6.out HB8.out HB6.out.size)
            have c8 := own_txt (owns_below HOk.out HE8.out) HKey.out
            have HOv8 := hid (owns_below HOv.out HB8.out)
            have HOa8 := hid (owns_below HOa5.out HE8.out)
            clear HB8 HB6 HOv
            go_wp2
            go_loopw [5, 8] (fun p j wq => ∃ t r : Nat, t ≤ vs.length ∧ q + t = r ∧ p = .int .i64 r ∧ j = .int .i64 t ∧ ∃ d, wq = w8.drewN d) (fun _ j _ => vs.length - (intOf j).toNat)
            case atStart => exact ⟨0, q, by omega, by omega, rfl, rfl, 0, rfl⟩
            case round =>
              obtain ⟨t, r, ht, hr, rfl, rfl, d, rfl⟩ := hrel
              by_cases htl : t < vs.length
              · have hd7 : decide ((t : Int) < (vs.length : Int)) = true := by simp; omega
                obtain ⟨vb, vo, x, hx, rfl, hvb, cx⟩ := Txs.cell? (Reads.own encT_len (by decide) HOv8.out) htl
                have hsr : (srt l)[r]? = some (key, x) := by
                  have h := HVal.out t x hx
                  rw [HQ.out, hr] at h
                  exact h
                have hrl : r < (srt l).length := (List.getElem?_eq_some_iff.1 hsr).1
                rw [length_srt] at hrl
                obtain ⟨pb, po, y, hy, rfl, hpb, cy1, cy2⟩ := Prs.cell? (Reads.own encP_len (by decide) HOa8.out) (List.getElem?_eq_some_iff.1 hsr).1
                rw [hsr] at hy
                cases hy
                simp only at cy1 cy2
                have ht0 : (0 : Int) ≤ (t : Int) := by omega
                have htn : (t : Int) < (vs.length : Int) := by omega
                have hr0 : (0 : Int) ≤ (r : Int) := by omega
                have hrn : (r : Int) < (l.length : Int) := by omega
                have he1 : (key.toList != key.toList) = false := by simp
                have he2 : (x.toList != x.toList) = false := by simp
                clear hsr hx
                go_wp2_with fail
                go_quiet (fail)
                go_wp2
                go_roundw
                case rel => exact ⟨t + 1, r + 1, by omega, by omega, by go_num, by go_num, _, rfl⟩
                case measure => simp [intOf]; omega
              · have hd7 : decide ((t : Int) < (vs.length : Int)) = false := by simp; omega
                obtain rfl : t = vs.length := by omega
                have HN := hid (show (byKeys (ks.take (k + 1)) l).length = r by rw [HNext.out, List.length_append, List.length_map, HQ.out]; omega)
                have HB9 := hid (below_then HE8.out (below_drew w8 d) HE8.out.size)
                go_wp2
                go_roundw
                case rel => exact ⟨k + 1, r, by omega, HN.out, rfl, by go_num, HB9.out⟩
                case measure => simp [intOf]; omega
        · as_aux_lemma =>
            have hd2 : decide (0 < k) = false := by simp; omega
            have hd3 : decide ((0 : Int) < (k : Int)) = false := by simp; omega
            clear hk1
            go_wp2_with fail
            refine wp_region_held_drew (S := fun w' => w'.cell? ⟨kb, ko + k, none⟩ = some (.string key)) (by kernel_rfl) HC6.out (fun hHeld => ?_)
            refine takeH 0 45 (.int .i64 (k : Int)) rfl rfl (by kernel_rfl) (by kernel_rfl) (by kernel_rfl) (fun _ _ _ h => h) (by rfl) ?_ (by assumption) ?_
            · intro w' hSw
              go_simp
            simp only [Act.put, List.setIfInBounds_toArray, List.set_cons_zero, List.set_cons_succ]
            refine takeH 1 46 (.bool false) rfl rfl (by kernel_rfl) (by kernel_rfl) (by kernel_rfl) (fun _ _ _ h => h) (by rfl) ?_ (by assumption) ?_
            · intro w' hSw
              go_simp
            simp only [Act.put, List.setIfInBounds_toArray, List.set_cons_zero, List.set_cons_succ]
            refine takeH 2 47 (.bool false) rfl rfl (by kernel_rfl) (by kernel_rfl) (by kernel_rfl) (fun _ _ _ h => h) (by rfl) ?_ (by assumption) ?_
            · intro w' hSw
              go_simp
            simp only [Act.put, List.setIfInBounds_toArray, List.set_cons_zero, List.set_cons_succ]
            refine skipH 3 48 rfl rfl (by kernel_rfl) (by kernel_rfl) (by kernel_rfl) (fun _ _ _ h => h) (by rfl) (by assumption) ?_
            simp only [Act.put, List.setIfInBounds_toArray, List.set_cons_zero, List.set_cons_succ]
            refine skipH 4 49 rfl rfl (by kernel_rfl) (by kernel_rfl) (by kernel_rfl) (fun _ _ _ h => h) (by rfl) (by assumption) ?_
            simp only [Act.put, List.setIfInBounds_toArray, List.set_cons_zero, List.set_cons_succ]
            refine skipH 5 50 rfl rfl (by kernel_rfl) (by kernel_rfl) (by kernel_rfl) (fun _ _ _ h => h) (by rfl) (by assumption) ?_
            simp only [Act.put, List.setIfInBounds_toArray, List.set_cons_zero, List.set_cons_succ]
            refine skipH 6 51 rfl rfl (by kernel_rfl) (by kernel_rfl) (by kernel_rfl) (fun _ _ _ h => h) (by rfl) (by assumption) ?_
            simp only [Act.put, List.setIfInBounds_toArray, List.set_cons_zero, List.set_cons_succ]
            refine skipH 7 52 rfl rfl (by kernel_rfl) (by kernel_rfl) (by kernel_rfl) (fun _ _ _ h => h) (by rfl) (by assumption) ?_
            simp only [Act.put, List.setIfInBounds_toArray, List.set_cons_zero, List.set_cons_succ]
            refine skipH 8 53 rfl rfl (by kernel_rfl) (by kernel_rfl) (by kernel_rfl) (fun _ _ _ h => h) (by rfl) (by assumption) ?_
            simp only [Act.put, List.setIfInBounds_toArray, List.set_cons_zero, List.set_cons_succ]
            refine skipH 9 54 rfl rfl (by kernel_rfl) (by kernel_rfl) (by kernel_rfl) (fun _ _ _ h => h) (by rfl) (by assumption) ?_
            simp only [Act.put, List.setIfInBounds_toArray, List.set_cons_zero, List.set_cons_succ]
            refine skipH 10 55 rfl rfl (by kernel_rfl) (by kernel_rfl) (by kernel_rfl) (fun _ _ _ h => h) (by rfl) (by assumption) ?_
            simp only [Act.put, List.setIfInBounds_toArray, List.set_cons_zero, List.set_cons_succ]
            refine skipH 11 56 rfl rfl (by kernel_rfl) (by kernel_rfl) (by kernel_rfl) (fun _ _ _ h => h) (by rfl) (by assumption) ?_
            simp only [Act.put, List.setIfInBounds_toArray, List.set_cons_zero, List.set_cons_succ]
            refine skipH 12 57 rfl rfl (by kernel_rfl) (by kernel_rfl) (by kernel_rfl) (fun _ _ _ h => h) (by rfl) (by assumption) ?_
            simp only [Act.put, List.setIfInBounds_toArray, List.set_cons_zero, List.set_cons_succ]
            refine takeH 13 58 (.bool false) rfl rfl (by kernel_rfl) (by kernel_rfl) (by kernel_rfl) (fun _ _ _ h => h) (by rfl) ?_ (by assumption) ?_
            · intro w' hSw
              go_simp
            simp only [Act.put, List.setIfInBounds_toArray, List.set_cons_zero, List.set_cons_succ]
            refine takeH 14 59 (.bool false) rfl rfl (by kernel_rfl) (by kernel_rfl) (by kernel_rfl) (fun _ _ _ h => h) (by rfl) ?_ (by assumption) ?_
            · intro w' hSw
              go_simp
            simp only [Act.put, List.setIfInBounds_toArray, List.set_cons_zero, List.set_cons_succ]
            refine takeH 15 60 (.slice av vs.length cv) rfl rfl (by kernel_rfl) (by kernel_rfl) (by kernel_rfl) (fun _ _ _ h => h) (by rfl) ?_ (by assumption) ?_
            · intro w' hSw
              go_simp
            simp only [Act.put, List.setIfInBounds_toArray, List.set_cons_zero, List.set_cons_succ]
            refine takeH 16 61 (.int .i64 (vs.length : Int)) rfl rfl (by kernel_rfl) (by kernel_rfl) (by kernel_rfl) (fun _ _ _ h => h) (by rfl) ?_ (by assumption) ?_
            · intro w' hSw
              go_simp
            simp only [Act.put, List.setIfInBounds_toArray, List.set_cons_zero, List.set_cons_succ]
            refine takeH 17 62 (.bool false) rfl rfl (by kernel_rfl) (by kernel_rfl) (by kernel_rfl) (fun _ _ _ h => h) (by rfl) ?_ (by assumption) ?_
            · intro w' hSw
              go_simp
            simp only [Act.put, List.setIfInBounds_toArray, List.set_cons_zero, List.set_cons_succ]
            refine takeH 18 63 (.bool false) rfl rfl (by kernel_rfl) (by kernel_rfl) (by kernel_rfl) (fun _ _ _ h => h) (by rfl) ?_ (by assumption) ?_
            · intro w' hSw
              go_simp
            simp only [Act.put, List.setIfInBounds_toArray, List.set_cons_zero, List.set_cons_succ]
            refine takeH 19 64 (.bool false) rfl rfl (by kernel_rfl) (by kernel_rfl) (by kernel_rfl) (fun _ _ _ h => h) (by rfl) ?_ (by assumption) ?_
            · intro w' hSw
              go_simp
            simp only [Act.put, List.setIfInBounds_toArray, List.set_cons_zero, List.set_cons_succ]
            refine takeH 20 65 (.slice aa l.length c1) rfl rfl (by kernel_rfl) (by kernel_rfl) (by kernel_rfl) (fun _ _ _ h => h) (by rfl) ?_ (by assumption) ?_
            · intro w' hSw
              go_simp
            simp only [Act.put, List.setIfInBounds_toArray, List.set_cons_zero, List.set_cons_succ]
            refine takeH 21 66 (.slice (some ⟨kb, ko, none⟩) ks.length ck) rfl rfl (by kernel_rfl) (by kernel_rfl) (by kernel_rfl) (fun _ _ _ h => h) (by rfl) ?_ (by assumption) ?_
            · intro w' hSw
              go_simp
            simp only [Act.put, List.setIfInBounds_toArray, List.set_cons_zero, List.set_cons_succ]
            refine takeH 22 67 (.int .i64 (k : Int)) rfl rfl (by kernel_rfl) (by kernel_rfl) (by kernel_rfl) (fun _ _ _ h => h) (by rfl) ?_ (by assumption) ?_
            · intro w' hSw
              go_simp
            simp only [Act.put, List.setIfInBounds_toArray, List.set_cons_zero, List.set_cons_succ]
            refine takeH 23 68 (.pointer (some ⟨kb, ko + k, none⟩)) rfl rfl (by kernel_rfl) (by kernel_rfl) (by kernel_rfl) (fun _ _ _ h => h) (by rfl) ?_ (by assumption) ?_
            · intro w' hSw
              go_simp
            simp only [Act.put, List.setIfInBounds_toArray, List.set_cons_zero, List.set_cons_succ]
            refine takeH 24 69 (.string key) rfl rfl (by kernel_rfl) (by kernel_rfl) (by kernel_rfl) (fun _ _ _ h => h) (by rfl) ?_ (by assumption) ?_
            · intro w' hSw
              go_simp
            simp only [Act.put, List.setIfInBounds_toArray, List.set_cons_zero, List.set_cons_succ]
            refine takeH 26 71 (.slice av vs.length cv) rfl rfl (by kernel_rfl) (by kernel_rfl) (by kernel_rfl) (fun _ _ _ h => h) (by rfl) ?_ (by assumption) ?_
            · intro w' hSw
              go_simp
            simp only [Act.put, List.setIfInBounds_toArray, List.set_cons_zero, List.set_cons_succ]
            refine wpAnyH_ready (rs := [25]) (by kernel_rfl) (by simp) (nextH 25 rfl (by rfl) (fun K hK => ?_) AllReadyH.nil)
            go_simp
            refine (of_any _ (srt l) key _ (Reads.own encP_len (by decide) (owns_below HOa5.out (below_then HB6.out (below_drew1 w6) HB6.out.size))) (by rw [length_srt]; omega)).mono ?_
            rintro e w7 ⟨x7, rfl, ho7, hb7⟩
            rw [HVS.out] at ho7
            have HO7 := hid ho7
            have HB7 := hid (below_then (below_drew1 w6) hb7 (Nat.le_refl _))
            clear ho7 hb7
            refine hK.out _ _ (keepc HB7.out hkb6 HC6.out) (fun hHeld => ?_)
            clear hK K
            try simp only [Act.put, List.setIfInBounds_toArray, List.set_cons_zero, List.set_cons_succ]
            refine wpAnyH_ready (rs := [27]) (by kernel_rfl) (by simp) (nextH 27 rfl (by rfl) (fun K hK => ?_) AllReadyH.nil)
            go_simp
            refine (sameTexts_any _ _ vs w7 (Reads.own encT_len (by decide) HO7.out) (Reads.own encT_len (by decide) (owns_below HOv.out HB7.out))).mono ?_
            rintro e w8 ⟨rfl, n8, rfl⟩
            have HB8 := hid (below_then HB7.out (below_drew w7 n8) HB7.out.size)
            refine hK.out _ _ (keepc HB8.out hkb6 HC6.out) (fun hHeld => ?_)
            clear hK K
            try simp only [Act.put, List.setIfInBounds_toArray, List.set_cons_zero, List.set_cons_succ]
            refine takeH 28 73 (.bool false) rfl rfl (by kernel_rfl) (by kernel_rfl) (by kernel_rfl) (fun _ _ _ h => h) (by rfl) ?_ (by assumption) ?_
            · intro w' hSw
              go_simp
            simp only [Act.put, List.setIfInBounds_toArray, List.set_cons_zero, List.set_cons_succ]
            refine takeH 29 74 (.bool false) rfl rfl (by kernel_rfl) (by kernel_rfl) (by kernel_rfl) (fun _ _ _ h => h) (by rfl) ?_ (by assumption) ?_
            · intro w' hSw
              go_simp
            simp only [Act.put, List.setIfInBounds_toArray, List.set_cons_zero, List.set_cons_succ]
            refine wpAnyH_done (by kernel_rfl) ?_ _
            generalize w7.drewN n8 = w8 at HB8 ⊢
            clear HO7 HB7 c6 HC6
            have HE8 := hid (below_then HB6.out HB8.out HB6.out.size)
            have c8 := own_txt (owns_below HOk.out HE8.out) HKey.out
            have HOv8 := hid (owns_below HOv.out HB8.out)
            have HOa8 := hid (owns_below HOa5.out HE8.out)
            clear HB8 HB6 HOv
            go_wp2
            go_loopw [5, 8] (fun p j wq => ∃ t r : Nat, t ≤ vs.length ∧ q + t = r ∧ p = .int .i64 r ∧ j = .int .i64 t ∧ ∃ d, wq = w8.drewN d) (fun _ j _ => vs.length - (intOf j).toNat)
            case atStart => exact ⟨0, q, by omega, by omega, rfl, rfl, 0, rfl⟩
            case round =>
              obtain ⟨t, r, ht, hr, rfl, rfl, d, rfl⟩ := hrel
              by_cases htl : t < vs.length
              · have hd7 : decide ((t : Int) < (vs.length : Int)) = true := by simp; omega
                obtain ⟨vb, vo, x, hx, rfl, hvb, cx⟩ := Txs.cell? (Reads.own encT_len (by decide) HOv8.out) htl
                have hsr : (srt l)[r]? = some (key, x) := by
                  have h := HVal.out t x hx
                  rw [HQ.out, hr] at h
                  exact h
                have hrl : r < (srt l).length := (List.getElem?_eq_some_iff.1 hsr).1
                rw [length_srt] at hrl
                obtain ⟨pb, po, y, hy, rfl, hpb, cy1, cy2⟩ := Prs.cell? (Reads.own encP_len (by decide) HOa8.out) (List.getElem?_eq_some_iff.1 hsr).1
                rw [hsr] at hy
                cases hy
                simp only at cy1 cy2
                have ht0 : (0 : Int) ≤ (t : Int) := by omega
                have htn : (t : Int) < (vs.length : Int) := by omega
                have hr0 : (0 : Int) ≤ (r : Int) := by omega
                have hrn : (r : Int) < (l.length : Int) := by omega
                have he1 : (key.toList != key.toList) = false := by simp
                have he2 : (x.toList != x.toList) = false := by simp
                clear hsr hx
                go_wp2_with fail
                go_quiet (fail)
                go_wp2
                go_roundw
                case rel => exact ⟨t + 1, r + 1, by omega, by omega, by go_num, by go_num, _, rfl⟩
                case measure => simp [intOf]; omega
              · have hd7 : decide ((t : Int) < (vs.length : Int)) = false := by simp; omega
                obtain rfl : t = vs.length := by omega
                have HN := hid (show (byKeys (ks.take (k + 1)) l).length = r by rw [HNext.out, List.length_append, List.length_map, HQ.out]; omega)
                have HB9 := hid (below_then HE8.out (below_drew w8 d) HE8.out.size)
                go_wp2
                go_roundw
                case rel => exact ⟨k + 1, r, by omega, HN.out, rfl, by go_num, HB9.out⟩
                case measure => simp [intOf]; omega
      · have hd1 : decide ((k : Int) < (ks.length : Int)) = false := by simp; omega
        obtain rfl : k = ks.length := by omega
        have hql : q = l.length := by
          have := HQ.out
          rw [List.take_length, HEnd.out, length_srt] at this
          omega
        subst hql
        have hqe : ((l.length : Int) == (l.length : Int)) = true := by simp
        go_wp2_with fail
        refine (awake_calls _).mono ?_
        rintro e w9 ⟨rfl, hb9⟩
        have HE := hid (below_then HB5.out (below_then hbr hb9 hbr.size) HB5.out.size)
        go_wp2
        go_ret
        exact ⟨rfl, HE.out⟩
theorem pairStable_walk (w : World) (v : Value) (l : List KV) (hv : rSlice 2 rPr w [v] l) :
    Calls Try.prog 4 #[v] w fun e w' => e = .returned (.bool true) ∧ Below w.heap.size w w' := pairStable_plain w v l (Prs.arg hv)
end Go.Proofs.Ytikghppoiokeeaa
