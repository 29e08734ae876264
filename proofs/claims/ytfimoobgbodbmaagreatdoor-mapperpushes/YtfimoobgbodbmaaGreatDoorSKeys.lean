/- Keys and Of of the program. -/
import Derived.Test.YtfimoobgbodbmaaGreatDoorGTexts
import Derived.Test.YtfimoobgbodbmaaGreatDoorGKeys
import Derived.Test.YtfimoobgbodbmaaGreatDoorShelfS
import Derived.Sort.OwnSorted
namespace Go.Proofs.YtfimoobgbodbmaaGreatDoor
open Go.RowKit Go.Lib Go.Sort
set_option linter.unusedVariables false
set_option maxRecDepth 100000

/-- A new row of texts is answered. -/
def TextsNew (w : World) (l : List ByteArray) (e : Ending) (w' : World) : Prop := ∃ u, e = .returned u ∧ w'.ownsRow w.heap.size 9 1 u l.length (fl encT l) ∧ Below w.heap.size w w'

theorem flT (l : List ByteArray) : fl encT l = (l.map (·.data.toList)).map encStr := by
  rw [Lib.map_encStr]
  induction l with
  | nil => rfl
  | cons x l ih => rw [List.map_cons, ← ih]; rfl
theorem one_new (w : World) (x : Value) (t : TypeId) : ∀ j u, [x][j]? = some u → (w.alloc (.cells #[x] t)).cell? ((⟨w.heap.size, 0, none⟩ : Addr).add j) = some u := by
  intro j u h
  have : j = 0 := by
    have := (List.getElem?_eq_some_iff.1 h).1
    simp at this
    omega
  subst this
  simp at h
  subst h
  simp [go_sem, Addr.add]

theorem sortT_calls (g cap : Nat) (zs : List (List UInt8)) (w : World) (hH : Holds encStr w g 0 zs.toArray) (hg : g < w.heap.size) (hz : zs.length < 4611686018427387904) :
    Calls Tryz.prog 190 #[.slice (some ⟨g, 0, none⟩) zs.length cap] w fun e w' => e = .returned (.tuple #[]) ∧ ∃ n os, w' = grow (putRow encStr (Sort.ahead w n) g 0 (zs.mergeSort fun x y => decide (x ≤ y)).toArray) os :=
  Any.slices_Sort_string lays190 g 0 cap zs w hH hg hz
theorem compactT_calls (g cap : Nat) (zs : List (List UInt8)) (w : World) (hH : Holds encStr w g 0 zs.toArray) (hz : zs.length ≤ 9223372036854775807) (hc : zs.length ≤ cap) :
    Calls Tryz.prog 191 #[.slice (some ⟨g, 0, none⟩) zs.length cap] w fun e w' => e = .returned (.slice (some ⟨g, 0, none⟩) (compact zs).length cap) ∧ ∃ q, w' = putRow encStr (Sort.ahead w q) g 0 (compact zs ++ List.replicate (zs.length - (compact zs).length) []).toArray :=
  Any.slices_Compact_string lays194 g 0 cap zs w hH hz hc

theorem sortT_own (base n : Nat) (v : Value) (zs : List (List UInt8)) (w : World) (ho : w.ownsRow base 9 1 v n (zs.map encStr)) (hb : base ≤ w.heap.size) (hn : n ≤ 1000) :
    Calls Tryz.prog 190 #[v] w fun e w' => e = .returned (.tuple #[]) ∧ w'.ownsRow base 9 1 v n ((zs.mergeSort fun x y => decide (x ≤ y)).map encStr) ∧ Below base w w' := by
  have hl : zs.length = n := by have := ho.1; rw [List.length_map] at this; omega
  rcases ho.2 with ⟨rfl, rfl⟩ | ⟨g, cap, cur, rfl, hbase, hg, h1, h2, h3, h4⟩
  · obtain rfl := List.eq_nil_of_length_eq_zero hl
    refine (Any.slices_Sort_string_none lays190 none 0 w).mono ?_
    rintro e w' ⟨rfl, rfl⟩
    exact ⟨rfl, by simpa using ho, Below.refl _ _⟩
  · subst hl
    have hH : Holds encStr w g 0 zs.toArray := holds_of_block hg (by rw [Nat.mul_one] at h4; exact h4)
    refine (sortT_calls g cap zs w hH (Array.getElem?_eq_some_iff.1 hg).1 (by omega)).mono ?_
    rintro e w' ⟨rfl, n, os, rfl⟩
    exact ⟨rfl, ownsRow_sorted (by rw [List.length_mergeSort]) hbase hg h1 h2 h3, (Below.refl _ w).grown (grownBy_sorted _) hb (by intro q hq; cases hq; exact hbase)⟩
theorem compactT_own (base n : Nat) (v : Value) (zs : List (List UInt8)) (w : World) (ho : w.ownsRow base 9 1 v n (zs.map encStr)) (hb : base ≤ w.heap.size) (hn : n ≤ 1000) :
    Calls Tryz.prog 191 #[v] w fun e w' => ∃ u, e = .returned u ∧ w'.ownsRow base 9 1 u (compact zs).length ((compact zs).map encStr) ∧ Below base w w' := by
  have hl : zs.length = n := by have := ho.1; rw [List.length_map] at this; omega
  rcases ho.2 with ⟨rfl, rfl⟩ | ⟨g, cap, cur, rfl, hbase, hg, h1, h2, h3, h4⟩
  · obtain rfl := List.eq_nil_of_length_eq_zero hl
    refine (Any.slices_Compact_string_empty lays194 none 0 w).mono ?_
    rintro e w' ⟨rfl, rfl⟩
    exact ⟨_, rfl, ho, Below.refl _ _⟩
  · subst hl
    have hH : Holds encStr w g 0 zs.toArray := holds_of_block hg (by rw [Nat.mul_one] at h4; exact h4)
    refine (compactT_calls g cap zs w hH (by omega) h1).mono ?_
    rintro e w' ⟨rfl, q, rfl⟩
    have hle := compactB_length zs
    have hc := ownsRow_putRow (q := q) (k := (compact zs).length) (ys := compact zs ++ List.replicate (zs.length - (compact zs).length) []) ho (by simp; omega) hle
    rw [List.take_left] at hc
    exact ⟨_, rfl, hc, below_putRow (Below.refl _ w) hbase⟩

set_option maxHeartbeats 2000000 in
theorem keys_any (v : Value) (l : List KV) (w : World) (hv : Prs w v l) (hn : l.length ≤ 1000) : Calls Tryz.prog 140 #[v] w (TextsNew w (keysOf l)) := by
  have HV := hid hv
  obtain ⟨ao, ca, rfl, a1, a2, a3, -⟩ := hv
  unfold maxLen at a2
  clear a3
  obtain ⟨i0, hi, hz0, hz1, hz2⟩ := info_parts Tryz.infoT
  go_enter Tryz.func140, Tryz.ntmps140
  go_wp2
  go_loopw [3, 8] (fun u i wr => ∃ k : Nat, k ≤ l.length ∧ i = .int .i64 k ∧ wr.ownsRow w.heap.size 9 1 u k (fl encT ((l.take k).map (·.1))) ∧ Below w.heap.size w wr) (fun _ i _ => l.length - (intOf i).toNat)
  case atStart => exact ⟨0, by omega, rfl, by simpa [fl] using World.ownsRow_nil _ _ _ _, Below.refl _ _⟩
  case round =>
    obtain ⟨k, hk, rfl, ho, hbel⟩ := hrel
    have HO := hid ho
    have hsz := hbel.size
    clear ho
    by_cases hlt : k < l.length
    · obtain ⟨b, off, x, hx, rfl, hb, c1, c2⟩ := Prs.cell? (HV.out.below hbel) hlt
      have HX := hid (show (l.take (k + 1)).map (·.1) = (l.take k).map (·.1) ++ [x.1] by
        obtain ⟨h1, rfl⟩ := List.getElem?_eq_some_iff.1 hx
        rw [List.take_succ_eq_append_getElem h1, List.map_append]
        rfl)
      clear hx
      obtain ⟨s, t⟩ := x
      simp only at c1 c2 HX
      have hd4 : decide ((k : Int) < (l.length : Int)) = true := by simp; omega
      generalize (l.take k).map (·.1) = ks at HO HX
      go_wp2_with (at_builtin; refine wpList_append_own _ rfl _ _ 120 rfl w.heap.size 9 i0 (.string ⟨#[]⟩) 1 16 Tryz.underlying120 hi hz0 hz1 hz2 rfl (by decide) _ k _ rfl ((HO.out.alloc _).alloc _) ⟨wr.heap.size + 1, 0, none⟩ 1 1 [.string s] rfl rfl (by have := one_new (wr.alloc (.cells #[.string s, .string t] 105)) (.string s) 9; simpa using this) (by intro u hu; simp at hu; subst hu; rfl) (by unfold maxLen; omega) (by omega) (by simp; omega) ?_; intro v3 w3 ho3 hg3 _)
      have HB3 := hid ((((hbel.alloc (by omega) _).alloc (by simp; omega) _).grown hg3 (by simp; omega) (by intro q hq; exact owns_base HO.out hq)))
      have HO3 := hid (show w3.ownsRow w.heap.size 9 1 v3 (k + 1) (fl encT ((l.take (k + 1)).map (·.1))) by rw [HX.out, fl_append]; exact ho3)
      clear ho3 hg3 HX HO hbel c1 c2
      go_wp2
      go_roundw
      case rel => exact ⟨k + 1, by omega, by go_num, HO3.out, HB3.out⟩
      case measure => simp [intOf]; omega
    · obtain rfl : k = l.length := by omega
      have hd4 : decide ((l.length : Int) < (l.length : Int)) = false := by simp
      rw [List.take_length, flT] at HO
      have HK := hid (keys_sorted l)
      generalize ((l.map (·.1)).map (·.data.toList)) = zs at HO HK
      go_wp2_with fail
      refine (sortT_own _ _ _ _ wr HO.out hbel.size (by omega)).mono ?_
      rintro e w2 ⟨rfl, ho2, hb2⟩
      have HB2 := hid (hbel.trans hb2)
      have HO2 := hid ho2
      have hz2' := HB2.out.size
      clear ho2 hb2 HO
      go_wp2_with fail
      refine (compactT_own _ _ _ _ w2 HO2.out hz2' (by omega)).mono ?_
      rintro e w3 ⟨u, rfl, ho3, hb3⟩
      have HB3 := hid (HB2.out.trans hb3)
      have HO3 := hid (show w3.ownsRow w.heap.size 9 1 u (keysOf l).length (fl encT (keysOf l)) by
        rw [flT, ← HK.out]
        have := congrArg List.length HK.out
        rw [List.length_map] at this
        rw [← this]
        exact ho3)
      clear ho3 hb3
      go_wp2
      go_ret
      exact ⟨_, rfl, HO3.out, HB3.out⟩

theorem valsOf_take {l : List KV} {k : Nat} {x : KV} (key : ByteArray) (hx : l[k]? = some x) : valsOf key (l.take (k + 1)) = valsOf key (l.take k) ++ (if x.1 = key then [x.2] else []) := by
  obtain ⟨h1, rfl⟩ := List.getElem?_eq_some_iff.1 hx
  rw [List.take_succ_eq_append_getElem h1, valsOf_append]
  congr 1
  unfold valsOf
  rw [those_cons]
  split
  · rfl
  · rfl
theorem length_vals (key : ByteArray) (l : List KV) : (valsOf key l).length ≤ l.length := by
  unfold valsOf those
  rw [List.length_map]
  exact List.length_filter_le _ _

end Go.Proofs.YtfimoobgbodbmaaGreatDoor
