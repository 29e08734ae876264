/- Of and Sort of the reference, by its Keys. -/
import Derived.Test.YtafbofcenbfkeaaKMath
import Derived.Test.YtafbofcenbfkeaaSOf
import Derived.Test.YtafbofcenbfkeaaLPairs
import Derived.Test.YtafbofcenbfkeaaSLook
import Derived.Test.YtafbofcenbfkeaaSPair
import Derived.Deep.RegionHeld3
namespace Go.Proofs.Ytafbofcenbfkeaa
open Go.RowKit
set_option linter.unusedVariables false

theorem own_txt {w : World} {base b off n c j : Nat} {l : List ByteArray} {x : ByteArray} (h : w.ownsRow base 9 1 (.slice (some ⟨b, off, none⟩) n c) n (fl encT l)) (hx : l[j]? = some x) : w.cell? ⟨b, off + j, none⟩ = some (.string x) := by
  obtain ⟨b', off', y, hy, e, _, hc⟩ := Txs.cell? (Reads.own encT_len (by decide) h) (List.getElem?_eq_some_iff.1 hx).1
  cases e
  rw [hx] at hy
  cases hy
  exact hc
theorem own_txt_lt {w : World} {base b off n c j : Nat} {l : List ByteArray} {x : ByteArray} (h : w.ownsRow base 9 1 (.slice (some ⟨b, off, none⟩) n c) n (fl encT l)) (hx : l[j]? = some x) : b < w.heap.size := by
  obtain ⟨b', off', y, hy, e, hlt, hc⟩ := Txs.cell? (Reads.own encT_len (by decide) h) (List.getElem?_eq_some_iff.1 hx).1
  cases e
  exact hlt
set_option maxHeartbeats 2000000 in
theorem refOf_any (v : Value) (l : List KV) (key : ByteArray) (w : World) (hv : Prs w v l) (hn : l.length ≤ 1000) : Calls Try.prog 31 #[v, .string key] w (TextsNew w (valsOf key l)) := by
  have HV := hid hv
  obtain ⟨ao, ca, rfl, a1, a2, a3, -⟩ := hv
  unfold maxLen at a2
  clear a3
  obtain ⟨i0, hi, hz0, hz1, hz2⟩ := info_parts Try.infoT
  go_enter Try.func31, Try.ntmps31
  go_wp2
  go_loopw [5, 6] (fun u i wr => ∃ k : Nat, k ≤ l.length ∧ i = .int .i64 k ∧ wr.ownsRow w.heap.size 9 1 u (valsOf key (l.take k)).length (fl encT (valsOf key (l.take k))) ∧ Below w.heap.size w wr) (fun _ i _ => l.length - (intOf i).toNat)
  case atStart => exact ⟨0, by omega, rfl, by simpa [valsOf, those, fl] using World.ownsRow_nil _ _ _ _, Below.refl _ _⟩
  case round =>
    obtain ⟨k, hk, rfl, ho, hbel⟩ := hrel
    have HO := hid ho
    have hsz := hbel.size
    clear ho
    by_cases hlt : k < l.length
    · obtain ⟨b, off, x, hx, rfl, hb, c1, c2⟩ := Prs.cell? (HV.out.below hbel) hlt
      have HX := hid (valsOf_take key hx)
      have hvl := length_vals key (l.take k)
      rw [List.length_take] at hvl
      clear hx
      obtain ⟨s, t⟩ := x
      simp only at c1 c2 HX
      have hd4 : decide ((k : Int) < (l.length : Int)) = true := by simp; omega
      generalize valsOf key (l.take k) = ks at HO HX hvl
      by_cases hs : s = key
      · subst hs
        have he : (s.toList == s.toList) = true := by simp
        rw [if_pos rfl] at HX
        go_wp2_with (at_builtin; refine wpList_append_own _ rfl _ _ 39 rfl w.heap.size 9 i0 (.string ⟨#[]⟩) 1 16 Try.underlying39 hi hz0 hz1 hz2 rfl (by decide) _ ks.length _ rfl (HO.out.alloc _) ⟨wr.heap.size, 0, none⟩ 1 1 [.string t] rfl rfl (one_new _ _ _) (by intro u hu; simp at hu; subst hu; rfl) (by unfold maxLen; omega) (by omega) (by simp; omega) ?_; intro v3 w3 ho3 hg3 _)
        have HB3 := hid (((hbel.alloc (by omega) _).grown hg3 (by simp; omega) (by intro q hq; exact owns_base HO.out hq)))
        have HO3 := hid (show w3.ownsRow w.heap.size 9 1 v3 (valsOf s (l.take (k + 1))).length (fl encT (valsOf s (l.take (k + 1)))) by rw [HX.out, fl_append, List.length_append]; exact ho3)
        clear ho3 hg3 HX HO hbel c1 c2
        go_wp2
        go_roundw
        case rel => exact ⟨k + 1, by omega, by go_num, HO3.out, HB3.out⟩
        case measure => simp [intOf]; omega
      · have he1 : ¬ s.toList = key.toList := fun e => hs (bytes_inj e)
        have he : (s.toList == key.toList) = false := by simpa using he1
        rw [if_neg hs, List.append_nil] at HX
        have HO3 := hid (show wr.ownsRow w.heap.size 9 1 _ (valsOf key (l.take (k + 1))).length (fl encT (valsOf key (l.take (k + 1)))) by rw [HX.out]; exact HO.out)
        clear HX HO hs
        go_wp2
        go_roundw
        case rel => exact ⟨k + 1, by omega, by go_num, HO3.out, hbel⟩
        case measure => simp [intOf]; omega
    · obtain rfl : k = l.length := by omega
      have hd4 : decide ((l.length : Int) < (l.length : Int)) = false := by simp
      rw [List.take_length] at HO
      go_wp2
      go_ret
      exact ⟨_, rfl, HO.out, hbel⟩

theorem byKeys_cut (ks : List ByteArray) (l : List KV) (k : Nat) : byKeys (ks.take k) l ++ byKeys (ks.drop k) l = byKeys ks l := by
  unfold byKeys
  rw [← List.flatMap_append, List.take_append_drop]
theorem byKeys_snoc {ks : List ByteArray} {l : List KV} {k : Nat} {key : ByteArray} (h : ks[k]? = some key) : byKeys (ks.take (k + 1)) l = byKeys (ks.take k) l ++ (valsOf key l).map (fun v => (key, v)) := by
  obtain ⟨h1, rfl⟩ := List.getElem?_eq_some_iff.1 h
  rw [List.take_succ_eq_append_getElem h1, those_vals]
  unfold byKeys
  rw [List.flatMap_append]
  simp
theorem byKeys_len (l : List KV) (k : Nat) : (byKeys ((keysOf l).take k) l).length ≤ l.length := by
  have := congrArg List.length (byKeys_cut (keysOf l) l k)
  rw [byKeys_srt, length_srt, List.length_append] at this
  omega

/-- Where Keys of the reference answers the keys, its Sort answers the pairs in order. -/
def RefKeysOk : Prop := ∀ (v : Value) (l : List KV) (w : World), Prs w v l → l.length ≤ 1000 → Calls Try.prog 30 #[v] w (TextsNew w (keysOf l))
set_option maxHeartbeats 4000000 in
theorem refSort_any (HK : RefKeysOk) (v : Value) (l : List KV) (w : World) (hv : Prs w v l) (hn : l.length ≤ 1000) : Calls Try.prog 24 #[v] w (PairsNew w (srt l)) := by
  have HV := hid hv
  have HKK := hid HK
  clear hv HK
  obtain ⟨i0, hi, hz0, hz1, hz2⟩ := info_parts Try.infoP
  go_enter Try.func24, Try.ntmps24
  go_wp2_with fail
  refine (HKK.out v l w HV.out hn).mono ?_
  rintro e w1 ⟨vk, rfl, ho1, hb1⟩
  obtain ⟨ak, ck, rfl⟩ := own_slice ho1
  have HO1 := hid ho1
  have HB1 := hid hb1
  have hkl := length_keys l
  have HLen := hid (fun k => byKeys_len l k)
  have HEnd := hid (byKeys_srt l)
  obtain ⟨ks, hks⟩ : ∃ ks, keysOf l = ks := ⟨_, rfl⟩
  rw [hks] at HO1 hkl HLen HEnd
  clear ho1 hb1
  rw [hks]
  clear hks
  go_wp2
  go_loopw [3, 5] (fun u i wr => ∃ k : Nat, k ≤ ks.length ∧ i = .int .i64 k ∧ wr.ownsRow w.heap.size 45 2 u (byKeys (ks.take k) l).length (fl encP (byKeys (ks.take k) l)) ∧ wr.ownsRow w.heap.size 9 1 (.slice ak ks.length ck) ks.length (fl encT ks) ∧ Below w.heap.size w wr) (fun _ i _ => ks.length - (intOf i).toNat)
  case atStart => exact ⟨0, by omega, rfl, by simpa [byKeys, fl] using World.ownsRow_nil _ _ _ _, HO1.out, HB1.out⟩
  case round =>
    clear HB1 HO1
    obtain ⟨k, hk, rfl, ho, hok, hbel⟩ := hrel
    have HO := hid ho
    have HOK := hid hok
    have hsz := hbel.size
    clear ho hok
    by_cases hlt : k < ks.length
    · have hd4 : decide ((k : Int) < (ks.length : Int)) = true := by simp; omega
      obtain ⟨b, off, key, hx, rfl, hb, c1⟩ := Txs.cell? (Reads.own encT_len (by decide) HOK.out) hlt
      have HX := hid (byKeys_snoc (l := l) hx)
      have HL1 := hid (HLen.out k)
      have HL2 := hid (HLen.out (k + 1))
      have HXX := hid hx
      clear hx
      go_wp2_with fail
      refine (refOf_any v l key wr (HV.out.below hbel) hn).mono ?_
      rintro e w2 ⟨vv, rfl, ho2, hb2⟩
      obtain ⟨av, cv, rfl⟩ := own_slice ho2
      have HOv := hid ho2
      have HOK2 := hid (owns_below HOK.out hb2)
      have HO2 := hid (owns_below HO.out hb2)
      have HB2 := hid (below_then hbel hb2 hbel.size)
      have hsz2 := hb2.size
      clear ho2 hb2 HO HOK hbel c1
      generalize valsOf key l = vs at HX HOv
      generalize byKeys (ks.take k) l = D at HX HO2 HL1
      obtain ⟨D2, hD2⟩ : ∃ D2, byKeys (ks.take (k + 1)) l = D2 := ⟨_, rfl⟩
      rw [hD2] at HX HL2
      have HD2 := hid hD2
      clear hD2
      have hlen2 : D.length + vs.length ≤ l.length := by
        have h1 := HX.out
        have h2 := HL2.out
        rw [h1, List.length_append, List.length_map] at h2
        exact h2
      go_wp2
      go_loopw [3, 7] (fun u j wq => ∃ m : Nat, m ≤ vs.length ∧ j = .int .i64 m ∧ wq.ownsRow w.heap.size 45 2 u (D.length + m) (fl encP (D ++ (vs.take m).map (fun x => (key, x)))) ∧ wq.ownsRow w.heap.size 9 1 (.slice (some ⟨b, off, none⟩) ks.length ck) ks.length (fl encT ks) ∧ wq.ownsRow wr.heap.size 9 1 (.slice av vs.length cv) vs.length (fl encT vs) ∧ Below w.heap.size w wq) (fun _ j _ => vs.length - (intOf j).toNat)
      case atStart => exact ⟨0, by omega, rfl, by simpa using HO2.out, HOK2.out, HOv.out, HB2.out⟩
      case round =>
        clear HO2 HOK2 HOv HB2
        rename World => wo
        obtain ⟨m, hm, rfl, hou, hok, hov, hbel⟩ := hrel
        have HOu := hid hou
        have HOK := hid hok
        have HOv := hid hov
        have hszq := hbel.size
        clear hou hok hov
        by_cases hlt2 : m < vs.length
        · have hd5 : decide ((m : Int) < (vs.length : Int)) = true := by simp; omega
          obtain ⟨b2, off2, x, hx2, rfl, hb2, d1⟩ := Txs.cell? (Reads.own encT_len (by decide) HOv.out) hlt2
          have HX2 := hid hx2
          have c1 := own_txt HOK.out HXX.out
          have hbk := own_txt_lt HOK.out HXX.out
          clear hx2
          have HOu2 := hid (owns_below (HOu.out.alloc (.cells #[.string key, .string x] 45)) (below_drew1 _))
          have HOK2 := hid (owns_below (HOK.out.alloc (.cells #[.string key, .string x] 45)) (below_drew1 _))
          have HOv2 := hid (owns_below (HOv.out.alloc (.cells #[.string key, .string x] 45)) (below_drew1 _))
          have HB2 := hid (below_then (hbel.alloc hbel.size (.cells #[.string key, .string x] 45)) (below_drew1 _) (by simp; omega))
          have hk0 : (0 : Int) ≤ (k : Int) := by omega
          have hkn : (k : Int) < (ks.length : Int) := by omega
          have hm0 : (0 : Int) ≤ (m : Int) := by omega
          have hmn : (m : Int) < (vs.length : Int) := by omega
          have hszw : w.heap.size ≤ (wo.alloc (.cells #[.string key, .string x] 45)).drew.heap.size := by simp; omega
          go_wp2_with fail
          go_region_held3 (fun w' => w'.cell? ⟨b, off + k, none⟩ = some (.string key) ∧ w'.cell? ⟨b2, off2 + m, none⟩ = some (.string x))
            (first | exact ⟨own_txt HOK3.out HXX.out, own_txt HOv3.out HX2.out⟩ | exact ⟨own_txt HOK2.out HXX.out, own_txt HOv2.out HX2.out⟩ | exact ⟨c1, d1⟩)
            (first | (refine step_append_own rfl (.tmp 28) (.tmp 38) 26 rfl w.heap.size 45 i0 _ 2 32 Try.underlying26 hi hz0 hz1 hz2 rfl (by decide) u3 (D.length + m) _ (by simp [Act.eval]) HOu2.out ⟨wo.heap.size, 0, none⟩ 1 1 [.string key, .string x] (by simp [Act.eval]) rfl (two_new wo _ _ _) (by intro u hu; simp at hu; rcases hu with rfl | rfl <;> rfl) (by unfold maxLen; omega) (by omega) hszw ?_; intro v1 w3 ho3 hg3; have HO3 := hid ho3; have HG3 := hid hg3; have HOK3 := hid (owns_grown HOK2.out HOu2.out (by decide) hg3); have HOv3 := hid (owns_grown HOv2.out HOu2.out (by decide) hg3); clear ho3 hg3))
          have HB3 := hid (HB2.out.grown HG3.out hszw (by intro q hq; exact owns_base HOu.out hq))
          have HO4 := hid (show w3.ownsRow w.heap.size 45 2 v1 (D.length + (m + 1)) (fl encP (D ++ (vs.take (m + 1)).map (fun x => (key, x)))) by
            obtain ⟨h1, h2⟩ := List.getElem?_eq_some_iff.1 HX2.out
            rw [List.take_succ_eq_append_getElem h1, h2, List.map_append, ← List.append_assoc, fl_append, ← Nat.add_assoc]
            exact HO3.out)
          clear HO3 HG3 HOu HOu2 HOK HOK2 HOv HOv2 HB2 c1 d1
          go_wp2
          go_roundw
          case rel => exact ⟨m + 1, by omega, by go_num, HO4.out, HOK3.out, HOv3.out, HB3.out⟩
          case measure => simp [intOf]; omega
        · have hd5 : decide ((m : Int) < (vs.length : Int)) = false := by simp; omega
          obtain rfl : m = vs.length := by omega
          rw [List.take_length, ← HX.out] at HOu
          have hD : D.length + vs.length = D2.length := by rw [HX.out, List.length_append, List.length_map]
          rw [hD] at HOu
          go_wp2
          go_roundw
          case rel => exact ⟨k + 1, by omega, by go_num, by rw [HD2.out]; exact HOu.out, HOK.out, hbel⟩
          case measure => simp [intOf]; omega
    · have hd4 : decide ((k : Int) < (ks.length : Int)) = false := by simp; omega
      obtain rfl : k = ks.length := by omega
      rw [List.take_length, HEnd.out] at HO
      go_wp2
      go_ret
      exact ⟨_, rfl, HO.out, hbel⟩
end Go.Proofs.Ytafbofcenbfkeaa
