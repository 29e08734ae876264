/- The values of the first key: firstValues of fold. -/
import Derived.Test.YtobgobmfhgagbaaGreatDoorSKeys
import Derived.Test.YtobgobmfhgagbaaGreatDoorFLook
namespace Go.Proofs.YtobgobmfhgagbaaGreatDoor
open Go.RowKit
set_option linter.unusedVariables false
set_option maxRecDepth 100000

theorem takeWhile_all {k : ByteArray} {l : List KV} (h : ∀ x ∈ l, x.1 = k) : l.takeWhile (fun x => decide (x.1 = k)) = l := by
  induction l with
  | nil => rfl
  | cons x l ih => rw [List.takeWhile_cons_of_pos (by simpa using h x List.mem_cons_self), ih fun y hy => h y (List.mem_cons_of_mem _ hy)]
theorem takeWhile_at {k : ByteArray} {l : List KV} {j : Nat} {x : KV} (h : ∀ y ∈ l.take j, y.1 = k) (hx : l[j]? = some x) (hn : x.1 ≠ k) : l.takeWhile (fun x => decide (x.1 = k)) = l.take j := by
  obtain ⟨hj, rfl⟩ := List.getElem?_eq_some_iff.1 hx
  conv => lhs; rw [← List.take_append_drop j l]
  rw [List.takeWhile_append_of_pos (by intro a ha; simpa using h a ha), List.drop_eq_getElem_cons hj, List.takeWhile_cons_of_neg (by simpa using hn), List.append_nil]
set_option maxHeartbeats 2000000 in
theorem firstValues_any (v : Value) (l : List KV) (key : ByteArray) (w : World) (hv : Prs w v l) (hn : l.length ≤ 1000) : Calls Tryz.prog 19 #[v, .string key] w (TextsNew w ((l.takeWhile (fun x => decide (x.1 = key))).map (·.2))) := by
  have HV := hid hv
  obtain ⟨ao, ca, rfl, a1, a2, a3, -⟩ := hv
  unfold maxLen at a2
  clear a3
  obtain ⟨i0, hi, hz0, hz1, hz2⟩ := info_parts Tryz.infoT
  generalize hR : (l.takeWhile (fun x => decide (x.1 = key))).map (·.2) = R
  have HR := hid hR
  clear hR
  go_enter Tryz.func19, Tryz.ntmps19
  go_wp2
  go_loopw [5, 10] (fun u i wr => ∃ k : Nat, k ≤ l.length ∧ i = .int .i64 k ∧ wr.ownsRow w.heap.size 9 1 u k (fl encT ((l.take k).map (·.2))) ∧ Hid (∀ x ∈ l.take k, x.1 = key) ∧ Below w.heap.size w wr) (fun _ i _ => l.length - (intOf i).toNat)
  case atStart => exact ⟨0, by omega, rfl, by simpa [fl] using World.ownsRow_nil _ _ _ _, hid (by simp), Below.refl _ _⟩
  case round =>
    obtain ⟨k, hk, rfl, ho, HA, hbel⟩ := hrel
    have HO := hid ho
    have hsz := hbel.size
    clear ho
    by_cases hlt : k < l.length
    · obtain ⟨b, off, x, hx, rfl, hb, c1, c2⟩ := Prs.cell? (HV.out.below hbel) hlt
      have HX0 := hid hx
      have HX := hid (show (l.take (k + 1)).map (·.2) = (l.take k).map (·.2) ++ [x.2] by
        obtain ⟨h1, rfl⟩ := List.getElem?_eq_some_iff.1 hx
        rw [List.take_succ_eq_append_getElem h1, List.map_append]
        rfl)
      clear hx
      obtain ⟨s, t⟩ := x
      simp only at c1 c2 HX
      have hd4 : decide ((k : Int) < (l.length : Int)) = true := by simp; omega
      have HL := hid (show ((l.take k).map (·.2)).length = k by simp; omega)
      by_cases hs : s = key
      · subst hs
        have he : (s.toList != s.toList) = false := by simp
        have HA2 := hid (show ∀ x ∈ l.take (k + 1), x.1 = s by
          obtain ⟨h1, e⟩ := List.getElem?_eq_some_iff.1 HX0.out
          rw [List.take_succ_eq_append_getElem h1, e]
          intro y hy
          rcases List.mem_append.1 hy with hy | hy
          · exact HA.out y hy
          · rw [List.mem_singleton.1 hy])
        clear HA HX0
        generalize (l.take k).map (·.2) = ks at HO HX HL
        go_wp2_with (at_builtin; refine wpList_append_own _ rfl _ _ 40 rfl w.heap.size 9 i0 (.string ⟨#[]⟩) 1 16 Tryz.underlying40 hi hz0 hz1 hz2 rfl (by decide) _ k _ rfl ((HO.out.alloc _).alloc _) ⟨wr.heap.size + 1, 0, none⟩ 1 1 [.string t] rfl rfl (by have := one_new (wr.alloc (.cells #[.string s, .string t] 34)) (.string t) 9; simpa using this) (by intro u hu; simp at hu; subst hu; rfl) (by unfold maxLen; omega) (by omega) (by simp; omega) ?_; intro v3 w3 ho3 hg3 _)
        have HB3 := hid ((((hbel.alloc (by omega) _).alloc (by simp; omega) _).grown hg3 (by simp; omega) (by intro q hq; exact owns_base HO.out hq)))
        have HO3 := hid (show w3.ownsRow w.heap.size 9 1 v3 (k + 1) (fl encT ((l.take (k + 1)).map (·.2))) by rw [HX.out, fl_append]; exact ho3)
        clear ho3 hg3 HX HO hbel c1 c2
        go_wp2
        go_roundw
        case rel => exact ⟨k + 1, by omega, by go_num, HO3.out, HA2, HB3.out⟩
        case measure => simp [intOf]; omega
      · have he1 : ¬ s.toList = key.toList := fun e => hs (bytes_inj e)
        have he : (s.toList != key.toList) = true := by simpa using he1
        have he2 : (s.toList == key.toList) = false := by simpa using he1
        have HE := hid (show R = (l.take k).map (·.2) by rw [← HR.out, takeWhile_at HA.out HX0.out hs])
        have HB3 := hid (hbel.alloc (by omega) (.cells #[.string s, .string t] 34))
        have HO3 := hid (show (wr.alloc (.cells #[.string s, .string t] 34)).ownsRow w.heap.size 9 1 _ R.length (fl encT R) by rw [HE.out, HL.out]; exact HO.out.alloc _)
        clear HX HO hs HE HL HA HX0 HR
        go_wp2
        go_ret
        exact ⟨_, rfl, HO3.out, HB3.out⟩
    · obtain rfl : k = l.length := by omega
      have hd4 : decide ((l.length : Int) < (l.length : Int)) = false := by simp
      rw [List.take_length] at HO
      have HE := hid (show R = l.map (·.2) by
        have h := HA.out
        rw [List.take_length] at h
        rw [← HR.out, takeWhile_all h])
      have HO3 := hid (show wr.ownsRow w.heap.size 9 1 _ R.length (fl encT R) by rw [HE.out, List.length_map]; exact HO.out)
      clear HO HE HA HR
      go_wp2
      go_ret
      exact ⟨_, rfl, HO3.out, hbel⟩
end Go.Proofs.YtobgobmfhgagbaaGreatDoor
