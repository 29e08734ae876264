/- Pairs, great or not; the first ones of a key; whether a pair is among others: what fold calls beside vm and pair. -/
import Derived.Test.YtobgobmfhgagbaaGreatDoorSSame
import Derived.Test.YtobgobmfhgagbaaGreatDoorFMath
namespace Go.Proofs.YtobgobmfhgagbaaGreatDoor
open Go.RowKit
set_option linter.unusedVariables false
set_option maxRecDepth 100000

def GreatF (l : List KV) (n : Nat) (e : Ending) : Prop := ∃ g, e = .returned (.bool g) ∧ (g = false → l.length ≤ n ∧ ∀ x ∈ l, x.1.size ≤ 100 ∧ x.2.size ≤ 100)
theorem small_takeF {l : List KV} {k : Nat} {x : KV} (h : ∀ y ∈ l.take k, y.1.size ≤ 100 ∧ y.2.size ≤ 100) (hx : l[k]? = some x) (ho : x.1.size ≤ 100 ∧ x.2.size ≤ 100) : ∀ y ∈ l.take (k + 1), y.1.size ≤ 100 ∧ y.2.size ≤ 100 := by
  obtain ⟨hk, rfl⟩ := List.getElem?_eq_some_iff.1 hx
  rw [List.take_succ_eq_append_getElem hk]
  intro y hy
  rcases List.mem_append.1 hy with hy | hy
  · exact h y hy
  · rw [List.mem_singleton.1 hy]
    exact ho
set_option maxHeartbeats 1000000 in
theorem greatPairsF (v : Value) (l : List KV) (n : Nat) (w : World) (hv : Prs w v l) :
    Calls Tryz.prog 9 #[v, .int .i64 n] w fun e w' => GreatF l n e ∧ w' = w := by
  have HV := hid hv
  obtain ⟨ao, ca, rfl, a1, a2, a3, -⟩ := hv
  unfold maxLen at a2
  by_cases hbig : n < l.length
  · have hd : decide ((l.length : Int) ≤ (n : Int)) = false := by simp; omega
    have hd2 : decide ((n : Int) < (l.length : Int)) = true := by simp; omega
    have hd3 : decide ((0 : Int) < (l.length : Int)) = true := by simp; omega
    clear a3
    go_enter Tryz.func9, Tryz.ntmps9
    go_wp2
    go_loop [5] (fun i => i = .int .i64 0) (fun _ => 0)
    case atStart => rfl
    case round =>
      subst hrel
      go_wp2
      go_ret
      exact ⟨⟨true, rfl, fun h => by cases h⟩, rfl⟩
  · have HB := hid hbig
    have hd : decide ((l.length : Int) ≤ (n : Int)) = true := by simp; omega
    have hd2 : decide ((n : Int) < (l.length : Int)) = false := by simp; omega
    have hle : l.length ≤ n := by omega
    clear hbig a3
    go_enter Tryz.func9, Tryz.ntmps9
    go_wp2
    go_loop [5] (fun i => ∃ k : Nat, k ≤ l.length ∧ i = .int .i64 k ∧ Hid (∀ y ∈ l.take k, y.1.size ≤ 100 ∧ y.2.size ≤ 100)) (fun i => l.length - (intOf i).toNat)
    case atStart => exact ⟨0, by omega, rfl, hid (fun y hy => by simp at hy)⟩
    case round =>
      obtain ⟨k, hk, rfl, HK⟩ := hrel
      by_cases hlt : k < l.length
      · obtain ⟨b, off, x, hx, rfl, hb, c1, c2⟩ := HV.out.cell? hlt
        have HX := hid hx
        clear hx
        obtain ⟨s, t⟩ := x
        simp only at c1 c2
        have hd4 : decide ((k : Int) < (l.length : Int)) = true := by simp; omega
        by_cases hs : 100 < s.size
        · have hd5 : decide ((100 : Int) < (s.size : Int)) = true := by simp; omega
          go_wp2
          go_ret
          exact ⟨⟨true, rfl, fun h => by cases h⟩, rfl⟩
        · have hd5 : decide ((100 : Int) < (s.size : Int)) = false := by simp; omega
          by_cases ht : 100 < t.size
          · have hd6 : decide ((100 : Int) < (t.size : Int)) = true := by simp; omega
            go_wp2
            go_ret
            exact ⟨⟨true, rfl, fun h => by cases h⟩, rfl⟩
          · have hd6 : decide ((100 : Int) < (t.size : Int)) = false := by simp; omega
            have HK2 := hid (small_takeF HK.out HX.out (show s.size ≤ 100 ∧ t.size ≤ 100 by omega))
            clear HK
            go_wp2
            go_round
            case rel => exact ⟨k + 1, by omega, by go_num, HK2⟩
            case measure => simp [intOf]; omega
      · have hd4 : decide ((k : Int) < (l.length : Int)) = false := by simp; omega
        go_wp2
        go_ret
        exact ⟨⟨decide (n < l.length), rfl, fun _ => ⟨by have := HB.out; omega, fun x hx => HK.out x (by rw [List.take_of_length_le (by omega)]; exact hx)⟩⟩, rfl⟩

/-- The function that says which pairs may be told. -/
def mayFn (own : Bool) : Value := if own then .func (.func 15) #[] #[] else .func (.func 13) #[] #[]
theorem anyKey_any (x : KV) (k : ByteArray) (w : World) : Calls Tryz.prog 13 #[prV x, .string k] w fun e w' => e = .returned (.bool true) ∧ Below w.heap.size w w' := by
  go_enter Tryz.func13, Tryz.ntmps13
  go_wp2
  go_ret
  exact ⟨rfl, (Below.refl _ w).alloc (Nat.le_refl _) _⟩
theorem ownKey_any (x : KV) (k : ByteArray) (w : World) : Calls Tryz.prog 15 #[prV x, .string k] w fun e w' => e = .returned (.bool (decide (x.1 = k))) ∧ Below w.heap.size w w' := by
  obtain ⟨s, t⟩ := x
  by_cases hs : s = k
  · subst hs
    have he : (s.toList == s.toList) = true := by simp
    rw [show decide (s = s) = true by simp]
    go_enter Tryz.func15, Tryz.ntmps15
    go_wp2
    go_ret
    exact ⟨rfl, (Below.refl _ w).alloc (Nat.le_refl _) _⟩
  · have he1 : ¬ s.toList = k.toList := fun e => hs (bytes_inj e)
    have he : (s.toList == k.toList) = false := by simpa using he1
    rw [show decide (s = k) = false by simpa using hs]
    clear hs
    go_enter Tryz.func15, Tryz.ntmps15
    go_wp2
    go_ret
    exact ⟨rfl, (Below.refl _ w).alloc (Nat.le_refl _) _⟩
/-- The little function within runKey: may this one not be told? -/
theorem notMay_any (own : Bool) (x : KV) (k : ByteArray) (b c : Nat) (w : World) (h1 : w.cell? ⟨b, 0, none⟩ = some (mayFn own)) (h2 : w.cell? ⟨c, 0, none⟩ = some (.string k)) (hb : b < w.heap.size) (hc : c < w.heap.size) :
    Calls Tryz.prog 31 #[prV x, .pointer (some ⟨b, 0, none⟩), .pointer (some ⟨c, 0, none⟩)] w fun e w' => e = .returned (.bool (!mayK own x k)) ∧ Below w.heap.size w w' := by
  have hnot : ∀ (x : Bool) (w : World), (Op.unary .not (.bool x)).run Tryz.prog w = .ok (.bool (!x)) w := fun _ _ => rfl
  obtain ⟨s, t⟩ := x
  have k1 : Below w.heap.size w (w.alloc (.cells #[.string s, .string t] 34)) := (Below.refl _ w).alloc (Nat.le_refl _) _
  have g1 := (k1.cell (p := ⟨b, 0, none⟩) hb).trans h1
  have g2 := (k1.cell (p := ⟨c, 0, none⟩) hc).trans h2
  clear h1 h2
  cases own
  · simp only [mayFn, Bool.false_eq_true, if_false] at g1
    go_enter Tryz.func31, Tryz.ntmps31
    go_wp2_with fail
    refine (anyKey_any (s, t) k _).mono ?_
    rintro e w1 ⟨rfl, h1⟩
    have k2 := below_then k1 h1 k1.size
    go_wp2
    go_ret
    exact ⟨rfl, k2⟩
  · simp only [mayFn, if_true] at g1
    have hm : mayK true (s, t) k = decide (s = k) := rfl
    rw [hm]
    have HO := hid (fun w => ownKey_any (s, t) k w)
    simp only at HO
    generalize decide (s = k) = g at HO ⊢
    go_enter Tryz.func31, Tryz.ntmps31
    go_wp2_with fail
    refine (HO.out _).mono ?_
    rintro e w1 ⟨rfl, h1⟩
    have k2 := below_then k1 h1 k1.size
    go_wp2
    go_ret
    exact ⟨rfl, k2⟩
set_option maxHeartbeats 1000000 in
theorem index_any (own : Bool) (v : Value) (l : List KV) (k : ByteArray) (b c : Nat) (w : World) (hv : Prs w v l) (h1 : w.cell? ⟨b, 0, none⟩ = some (mayFn own)) (h2 : w.cell? ⟨c, 0, none⟩ = some (.string k)) (hb : b < w.heap.size) (hc : c < w.heap.size) :
    Calls Tryz.prog 42 #[v, .func (.func 31) #[] #[.pointer (some ⟨b, 0, none⟩), .pointer (some ⟨c, 0, none⟩)]] w fun e w' => ∃ i : Int, e = .returned (.int .i64 i) ∧ decide (0 ≤ i) = (l.any fun x => !mayK own x k) ∧ Below w.heap.size w w' := by
  have HV := hid hv
  have H1 := hid h1
  have H2 := hid h2
  obtain ⟨ao, ca, rfl, a1, a2, a3, -⟩ := hv
  unfold maxLen at a2
  clear a3 h1 h2
  go_enter Tryz.func42, Tryz.ntmps42
  go_wp2
  go_loopw [4, 8] (fun u i wr => ∃ j : Nat, j ≤ l.length ∧ i = .int .i64 j ∧ Hid (∀ x ∈ l.take j, mayK own x k = true) ∧ Below w.heap.size w wr) (fun _ i _ => l.length - (intOf i).toNat)
  case atStart => exact ⟨0, by omega, rfl, hid (by simp), Below.refl _ _⟩
  case round =>
    obtain ⟨j, hj, rfl, HA, hbel⟩ := hrel
    by_cases hlt : j < l.length
    · obtain ⟨g, off, x, hx, rfl, hg, c1, c2⟩ := Prs.cell? (HV.out.below hbel) hlt
      have HX := hid hx
      clear hx
      obtain ⟨s, t⟩ := x
      simp only at c1 c2
      have hd4 : decide ((j : Int) < (l.length : Int)) = true := by simp; omega
      go_wp2_with fail
      refine (notMay_any own (s, t) k b c wr ((hbel.cell (p := ⟨b, 0, none⟩) hb).trans H1.out) ((hbel.cell (p := ⟨c, 0, none⟩) hc).trans H2.out) (Nat.lt_of_lt_of_le hb hbel.size) (Nat.lt_of_lt_of_le hc hbel.size)).mono ?_
      rintro e w2 ⟨rfl, hb2⟩
      have k2 := below_then hbel hb2 hbel.size
      clear hb2 c1 c2
      cases hm : mayK own (s, t) k
      · have HM := hid hm
        clear hm
        go_wp2
        go_ret
        refine ⟨_, rfl, ?_, k2⟩
        have hin : (l.any fun x => !mayK own x k) = true := by
          rw [List.any_eq_true]
          exact ⟨(s, t), List.mem_of_getElem? HX.out, by rw [HM.out]; rfl⟩
        rw [hin]
        simp
      · have HM := hid hm
        clear hm
        have HA2 := hid (show ∀ x ∈ l.take (j + 1), mayK own x k = true by
          obtain ⟨hk, e⟩ := List.getElem?_eq_some_iff.1 HX.out
          rw [List.take_succ_eq_append_getElem hk, e]
          intro y hy
          rcases List.mem_append.1 hy with hy | hy
          · exact HA.out y hy
          · rw [List.mem_singleton.1 hy]; exact HM.out)
        clear HA hbel
        go_wp2
        go_roundw
        case rel => exact ⟨j + 1, by omega, by go_num, HA2, k2⟩
        case measure => simp [intOf]; omega
    · obtain rfl : j = l.length := by omega
      have hd4 : decide ((l.length : Int) < (l.length : Int)) = false := by simp
      go_wp2
      go_ret
      refine ⟨-1, rfl, ?_, hbel⟩
      have hin : (l.any fun x => !mayK own x k) = false := by
        rw [List.any_eq_false]
        intro x hx
        rw [HA.out x (by rw [List.take_length]; exact hx)]
        simp
      rw [hin]
      simp
theorem contains_any (own : Bool) (v : Value) (l : List KV) (k : ByteArray) (b c : Nat) (w : World) (hv : Prs w v l) (h1 : w.cell? ⟨b, 0, none⟩ = some (mayFn own)) (h2 : w.cell? ⟨c, 0, none⟩ = some (.string k)) (hb : b < w.heap.size) (hc : c < w.heap.size) :
    Calls Tryz.prog 30 #[v, .func (.func 31) #[] #[.pointer (some ⟨b, 0, none⟩), .pointer (some ⟨c, 0, none⟩)]] w fun e w' => e = .returned (.bool (l.any fun x => !mayK own x k)) ∧ Below w.heap.size w w' := by
  have H := hid (index_any own v l k b c w hv h1 h2 hb hc)
  clear hv h1 h2
  generalize (l.any fun x => !mayK own x k) = g at H ⊢
  go_enter Tryz.func30, Tryz.ntmps30
  go_wp2_with fail
  refine H.out.mono ?_
  rintro e w2 ⟨i, rfl, hd, hb2⟩
  go_wp2
  go_ret
  exact ⟨rfl, hb2⟩
end Go.Proofs.YtobgobmfhgagbaaGreatDoor
