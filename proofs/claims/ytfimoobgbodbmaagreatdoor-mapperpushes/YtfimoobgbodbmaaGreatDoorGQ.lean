/- Laid together: QNum QOnly. -/
import Derived.Test.YtfimoobgbodbmaaGreatDoorLPairs
import Derived.Test.YtfimoobgbodbmaaGreatDoorGF
import Derived.Test.YtfimoobgbodbmaaGreatDoorLow
import Derived.Test.YtfimoobgbodbmaaGreatDoorNewStruct
/-! Number and Of, of the program and of the reference. -/
namespace Go.Proofs.YtfimoobgbodbmaaGreatDoor
open Go.RowKit
set_option linter.unusedVariables false
set_option maxRecDepth 100000

set_option maxHeartbeats 1000000 in
theorem number_any (s : ByteArray) (hs : s.size ≤ 1000) (w : World) :
    Calls Tryz.prog 127 #[.string s] w fun e w' => e = .returned (.int .u32 (numK s : Nat)) ∧ w' = w := by
  go_enter Tryz.func127, Tryz.ntmps127
  go_wp2
  go_loop [3, 7] (fun x i => ∃ k : Nat, k ≤ s.size ∧ i = .int .i64 k ∧ ∃ y : Nat, x = .int .u32 (y : Int) ∧ Hid (y = numL (s.data.toList.take k)) ∧ y < 4294967296) (fun _ i => s.size - (intOf i).toNat)
  case atStart => exact ⟨0, by omega, rfl, 7, rfl, hid (by simp [numL]), by omega⟩
  case round =>
    obtain ⟨k, hk, rfl, y, rfl, HY, hy⟩ := hrel
    by_cases hlt : k < s.size
    · have hd : decide ((k : Int) < (s.size : Int)) = true := by simp; omega
      have HN := hid (show numStep y (s[k]'hlt) = numL (s.data.toList.take (k + 1)) by rw [numL_take hlt, ← HY.out])
      go_wp2
      go_round
      case rel => exact ⟨k + 1, by omega, by go_num, numStep y (s[k]'hlt), congrArg (Value.int .u32) (step_left y _), HN, numStep_lt _ _⟩
      case measure => simp [intOf]; omega
    · obtain rfl : k = s.size := by omega
      have hd : decide ((s.size : Int) < (s.size : Int)) = false := by simp
      have HE := hid (show y = numK s by rw [HY.out, numL_all])
      go_wp2
      go_ret
      exact ⟨by rw [HE.out]; rfl, rfl⟩
set_option maxHeartbeats 1000000 in
theorem refNumber_any (s : ByteArray) (hs : s.size ≤ 1000) (w : World) :
    Calls Tryz.prog 110 #[.string s] w fun e w' => e = .returned (.int .u32 (numK s : Nat)) ∧ w' = w := by
  go_enter Tryz.func110, Tryz.ntmps110
  go_wp2
  go_loop [3, 4] (fun x i => ∃ k : Nat, k ≤ s.size ∧ i = .int .i64 k ∧ ∃ y : Nat, x = .int .u32 (y : Int) ∧ Hid (y = numL (s.data.toList.take k)) ∧ y < 4294967296) (fun _ i => s.size - (intOf i).toNat)
  case atStart => exact ⟨0, by omega, rfl, 7, rfl, hid (by simp [numL]), by omega⟩
  case round =>
    obtain ⟨k, hk, rfl, y, rfl, HY, hy⟩ := hrel
    by_cases hlt : k < s.size
    · have hd : decide ((k : Int) < (s.size : Int)) = true := by simp; omega
      have HN := hid (show numStep y (s[k]'hlt) = numL (s.data.toList.take (k + 1)) by rw [numL_take hlt, ← HY.out])
      go_wp2
      go_round
      case rel => exact ⟨k + 1, by omega, by go_num, numStep y (s[k]'hlt), congrArg (Value.int .u32) (step_right y _), HN, numStep_lt _ _⟩
      case measure => simp [intOf]; omega
    · obtain rfl : k = s.size := by omega
      have hd : decide ((s.size : Int) < (s.size : Int)) = false := by simp
      have HE := hid (show y = numK s by rw [HY.out, numL_all])
      go_wp2
      go_ret
      exact ⟨by rw [HE.out]; rfl, rfl⟩
set_option maxHeartbeats 1000000 in
theorem partOf_any (s : ByteArray) (hs : s.size ≤ 1000) (parts : Int) (h1 : -9223372036854775808 ≤ parts) (h2 : parts ≤ 9223372036854775807) (w : World) :
    Calls Tryz.prog 104 #[.string s, .int .i64 parts] w fun e w' => e = .returned (.int .i64 (ofK s parts)) ∧ w' = w := by
  by_cases hp : parts < 1
  · have hd : decide (parts < 1) = true := by simpa using hp
    have HE := hid (ofK_none (s := s) hp)
    go_enter Tryz.func104, Tryz.ntmps104
    go_wp2
    go_ret
    exact ⟨by rw [HE.out]; rfl, rfl⟩
  · have hd : decide (parts < 1) = false := by simpa using hp
    have hp1 : 1 ≤ parts := by omega
    have hz : ¬ parts = 0 := by omega
    have HT := hid (ofK_wrap s parts hp1)
    have hn := numK_lt s
    clear hp
    go_enter Tryz.func104, Tryz.ntmps104
    go_wp2_with fail
    refine (number_any s hs w).mono ?_
    rintro e w1 ⟨rfl, rfl⟩
    generalize numK s = n at HT hn ⊢
    have hm : parts % 18446744073709551616 = parts := by omega
    have hnn : (n : Int) % 18446744073709551616 = n := by omega
    go_wp2
    go_ret
    exact ⟨by rw [← HT.out]; rfl, rfl⟩
set_option maxHeartbeats 1000000 in
theorem refPartOf_any (s : ByteArray) (hs : s.size ≤ 1000) (parts : Int) (h1 : -9223372036854775808 ≤ parts) (h2 : parts ≤ 9223372036854775807) (w : World) :
    Calls Tryz.prog 90 #[.string s, .int .i64 parts] w fun e w' => e = .returned (.int .i64 (ofK s parts)) ∧ w' = w := by
  by_cases hp : parts < 1
  · have hd : decide (parts < 1) = true := by simpa using hp
    have HE := hid (ofK_none (s := s) hp)
    go_enter Tryz.func90, Tryz.ntmps90
    go_wp2
    go_ret
    exact ⟨by rw [HE.out]; rfl, rfl⟩
  · have hd : decide (parts < 1) = false := by simpa using hp
    have hp1 : 1 ≤ parts := by omega
    have hz : ¬ parts = 0 := by omega
    have HT := hid (ofK_wrap s parts hp1)
    have hn := numK_lt s
    clear hp
    go_enter Tryz.func90, Tryz.ntmps90
    go_wp2_with fail
    refine (refNumber_any s hs w).mono ?_
    rintro e w1 ⟨rfl, rfl⟩
    generalize numK s = n at HT hn ⊢
    have hm : parts % 18446744073709551616 = parts := by omega
    have hnn : (n : Int) % 18446744073709551616 = n := by omega
    go_wp2
    go_ret
    exact ⟨by rw [← HT.out]; rfl, rfl⟩
end Go.Proofs.YtfimoobgbodbmaaGreatDoor
/-! Only, of the program and of the reference. -/
namespace Go.Proofs.YtfimoobgbodbmaaGreatDoor
open Go.RowKit
set_option linter.unusedVariables false
set_option maxRecDepth 100000

set_option maxHeartbeats 2000000 in
theorem refOnly_any (v : Value) (l : List KV) (parts p : Int) (h1 : -9223372036854775808 ≤ parts) (h2 : parts ≤ 9223372036854775807) (w : World) (hv : Prs w v l) (hn : l.length ≤ 1000) (hk : ∀ x ∈ l, x.1.size ≤ 100) :
    Calls Tryz.prog 66 #[v, .int .i64 parts, .int .i64 p] w (PairsNew w (onlyL l parts p)) := by
  have HV := hid hv
  have HK := hid hk
  obtain ⟨ao, ca, rfl, a1, a2, a3, -⟩ := hv
  unfold maxLen at a2
  clear a3 hk
  obtain ⟨i0, hi, hz0, hz1, hz2⟩ := info_parts Tryz.infoP
  go_enter Tryz.func66, Tryz.ntmps66
  go_wp2
  go_loopw [7, 8] (fun u i wr => ∃ k : Nat, k ≤ l.length ∧ i = .int .i64 k ∧ wr.ownsRow w.heap.size 105 2 u (onlyL (l.take k) parts p).length (fl encP (onlyL (l.take k) parts p)) ∧ Below w.heap.size w wr) (fun _ i _ => l.length - (intOf i).toNat)
  case atStart => exact ⟨0, by omega, rfl, by simpa [onlyL, fl] using World.ownsRow_nil _ _ _ _, Below.refl _ _⟩
  case round =>
    obtain ⟨k, hk, rfl, ho, hbel⟩ := hrel
    have HO := hid ho
    have hsz := hbel.size
    clear ho
    by_cases hlt : k < l.length
    · obtain ⟨b, off, x, hx, rfl, hb, c1, c2⟩ := Prs.cell? (HV.out.below hbel) hlt
      have HX := hid (onlyL_take parts p hx)
      have hsx := HK.out x (List.mem_of_getElem? hx)
      have hvl := onlyL_len (l.take k) parts p
      rw [List.length_take] at hvl
      clear hx
      obtain ⟨s, t⟩ := x
      simp only at c1 c2 HX hsx
      have hd4 : decide ((k : Int) < (l.length : Int)) = true := by simp; omega
      generalize onlyL (l.take k) parts p = ks at HO HX hvl
      go_wp2_with fail
      refine (refPartOf_any s (by omega) parts h1 h2 wr).mono ?_
      rintro e w1 ⟨rfl, rfl⟩
      by_cases hs : ofK s parts = p
      · rw [if_pos hs] at HX
        have he : (ofK s parts == p) = true := by simpa using hs
        generalize ofK s parts = r at he hs ⊢
        go_wp2_with (at_builtin; refine wpList_append_own _ rfl _ _ 51 rfl w.heap.size 105 i0 (.agg #[.string ⟨#[]⟩, .string ⟨#[]⟩]) 2 32 Tryz.underlying51 hi hz0 hz1 hz2 rfl (by decide) _ ks.length _ rfl (HO.out.alloc _) ⟨w1.heap.size, 0, none⟩ 1 1 [.string s, .string t] rfl rfl (two_new _ _ _ _) (by intro u hu; simp at hu; rcases hu with rfl | rfl <;> rfl) (by unfold maxLen; omega) (by omega) (by simp; omega) ?_; intro v3 w3 ho3 hg3 _)
        have HB3 := hid (((hbel.alloc (by omega) _).grown hg3 (by simp; omega) (by intro q hq; exact owns_base HO.out hq)))
        have HO3 := hid (show w3.ownsRow w.heap.size 105 2 v3 (onlyL (l.take (k + 1)) parts p).length (fl encP (onlyL (l.take (k + 1)) parts p)) by rw [HX.out, fl_append, List.length_append]; exact ho3)
        clear ho3 hg3 HX HO hbel c1 c2
        go_wp2
        go_roundw
        case rel => exact ⟨k + 1, by omega, by go_num, HO3.out, HB3.out⟩
        case measure => simp [intOf]; omega
      · have he : (ofK s parts == p) = false := by simpa using hs
        rw [if_neg hs, List.append_nil] at HX
        have HO3 := hid (show w1.ownsRow w.heap.size 105 2 _ (onlyL (l.take (k + 1)) parts p).length (fl encP (onlyL (l.take (k + 1)) parts p)) by rw [HX.out]; exact HO.out)
        clear HX HO
        generalize ofK s parts = r at he hs ⊢
        go_wp2
        go_roundw
        case rel => exact ⟨k + 1, by omega, by go_num, HO3.out, hbel⟩
        case measure => simp [intOf]; omega
    · obtain rfl : k = l.length := by omega
      have hd4 : decide ((l.length : Int) < (l.length : Int)) = false := by simp
      rw [List.take_length] at HO
      go_wp2
      go_ret
      exact ⟨_, rfl, HO.out, hbel⟩

set_option maxHeartbeats 2000000 in
theorem only_any (v : Value) (l : List KV) (parts p : Int) (h1 : -9223372036854775808 ≤ parts) (h2 : parts ≤ 9223372036854775807) (w : World) (hv : Prs w v l) (hn : l.length ≤ 1000) (hk : ∀ x ∈ l, x.1.size ≤ 100) :
    Calls Tryz.prog 83 #[v, .int .i64 parts, .int .i64 p] w (PairsNew w (onlyL l parts p)) := by
  have HV := hid hv
  have HK := hid hk
  obtain ⟨ao, ca, rfl, a1, a2, a3, -⟩ := hv
  unfold maxLen at a2
  clear a3 hk
  obtain ⟨i0, hi, hz0, hz1, hz2⟩ := info_parts Tryz.infoP
  go_enter Tryz.func83, Tryz.ntmps83
  go_wp2
  go_loopw [7, 12] (fun u i wr => ∃ k : Nat, k ≤ l.length ∧ i = .int .i64 k ∧ wr.ownsRow w.heap.size 105 2 u (onlyL (l.take k) parts p).length (fl encP (onlyL (l.take k) parts p)) ∧ Below w.heap.size w wr) (fun _ i _ => l.length - (intOf i).toNat)
  case atStart => exact ⟨0, by omega, rfl, by simpa [onlyL, fl] using World.ownsRow_nil _ _ _ _, Below.refl _ _⟩
  case round =>
    obtain ⟨k, hk, rfl, ho, hbel⟩ := hrel
    have HO := hid ho
    have hsz := hbel.size
    clear ho
    by_cases hlt : k < l.length
    · obtain ⟨b, off, x, hx, rfl, hb, c1, c2⟩ := Prs.cell? (HV.out.below hbel) hlt
      have HX := hid (onlyL_take parts p hx)
      have hsx := HK.out x (List.mem_of_getElem? hx)
      have hvl := onlyL_len (l.take k) parts p
      rw [List.length_take] at hvl
      clear hx
      obtain ⟨s, t⟩ := x
      simp only at c1 c2 HX hsx
      have hd4 : decide ((k : Int) < (l.length : Int)) = true := by simp; omega
      generalize onlyL (l.take k) parts p = ks at HO HX hvl
      go_wp2_with fail
      refine (partOf_any s (by omega) parts h1 h2 _).mono ?_
      rintro e w1 ⟨rfl, rfl⟩
      have HO1 := hid (HO.out.alloc (.cells #[.string s, .string t] 105))
      have HBel1 := hid (hbel.alloc hbel.size (.cells #[.string s, .string t] 105))
      have d1 : (wr.alloc (.cells #[.string s, .string t] 105)).cell? ⟨wr.heap.size, 0, none⟩ = some (.string s) := by simp [go_sem]
      have d2 : (wr.alloc (.cells #[.string s, .string t] 105)).cell? ⟨wr.heap.size, 1, none⟩ = some (.string t) := by simp [go_sem]
      have hsz1 := HBel1.out.size
      obtain ⟨w1, hw1⟩ : ∃ w1, wr.alloc (.cells #[.string s, .string t] 105) = w1 := ⟨_, rfl⟩
      rw [hw1] at HO1 HBel1 d1 d2 hsz1 ⊢
      clear hw1 HO hbel c1 c2 hb hsz
      generalize wr.heap.size = gp at d1 d2 ⊢
      have HO := HO1
      have HBel := HBel1
      clear HO1 HBel1
      by_cases hs : ofK s parts = p
      · rw [if_pos hs] at HX
        have he : (ofK s parts == p) = true := by simpa using hs
        generalize ofK s parts = r at he hs ⊢
        go_wp2_with (at_builtin; refine wpList_append_own _ rfl _ _ 51 rfl w.heap.size 105 i0 (.agg #[.string ⟨#[]⟩, .string ⟨#[]⟩]) 2 32 Tryz.underlying51 hi hz0 hz1 hz2 rfl (by decide) _ ks.length _ rfl (HO.out.alloc _) ⟨w1.heap.size, 0, none⟩ 1 1 [.string s, .string t] rfl rfl (two_new _ _ _ _) (by intro u hu; simp at hu; rcases hu with rfl | rfl <;> rfl) (by unfold maxLen; omega) (by omega) (by simp; omega) ?_; intro v3 w3 ho3 hg3 _)
        have HB3 := hid (((HBel.out.alloc (by omega) _).grown hg3 (by simp; omega) (by intro q hq; exact owns_base HO.out hq)))
        have HO3 := hid (show w3.ownsRow w.heap.size 105 2 v3 (onlyL (l.take (k + 1)) parts p).length (fl encP (onlyL (l.take (k + 1)) parts p)) by rw [HX.out, fl_append, List.length_append]; exact ho3)
        clear ho3 hg3 HX HO HBel d1 d2
        go_wp2
        go_roundw
        case rel => exact ⟨k + 1, by omega, by go_num, HO3.out, HB3.out⟩
        case measure => simp [intOf]; omega
      · have he : (ofK s parts == p) = false := by simpa using hs
        rw [if_neg hs, List.append_nil] at HX
        have HO3 := hid (show w1.ownsRow w.heap.size 105 2 _ (onlyL (l.take (k + 1)) parts p).length (fl encP (onlyL (l.take (k + 1)) parts p)) by rw [HX.out]; exact HO.out)
        clear HX HO
        generalize ofK s parts = r at he hs ⊢
        go_wp2
        go_roundw
        case rel => exact ⟨k + 1, by omega, by go_num, HO3.out, HBel.out⟩
        case measure => simp [intOf]; omega
    · obtain rfl : k = l.length := by omega
      have hd4 : decide ((l.length : Int) < (l.length : Int)) = false := by simp
      rw [List.take_length] at HO
      go_wp2
      go_ret
      exact ⟨_, rfl, HO.out, hbel⟩

end Go.Proofs.YtfimoobgbodbmaaGreatDoor
