/- Laid together: FLook FRun FFirst. -/
import Derived.Test.YtfimoobgbodbmaaGreatDoorGTexts
import Derived.Test.YtfimoobgbodbmaaGreatDoorGF
import Derived.Test.YtfimoobgbodbmaaGreatDoorGLVm
import Derived.Test.YtfimoobgbodbmaaGreatDoorSKeys
/-! Pairs, great or not; the first ones of a key; whether a pair is among others: what fold calls beside vm and pair. -/
namespace Go.Proofs.YtfimoobgbodbmaaGreatDoor
open Go.RowKit
set_option linter.unusedVariables false
set_option maxRecDepth 100000

def GreatF (l : List KV) (n : Nat) (e : Ending) : Prop := ∃ g, e = .returned (.bool g) ∧ (g = false → l.length ≤ n ∧ ∀ x ∈ l, x.1.size ≤ 100 ∧ x.2.size ≤ 100)
theorem small_takeF {l : List KV} {k : Nat} {x : KV} (h : ∀ y ∈ l.take k, y.1.size ≤ 100 ∧ y.2.size ≤ 100) (hx : l[k]? = some x) (ho : x.1.size ≤ 100 ∧ x.2.size ≤ 100) : ∀ y ∈ l.take (k + 1), y.1.size ≤ 100 ∧ y.2.size ≤ 100 := by
  obtain ⟨hk, rfl⟩ := List.getElem?_eq_some_iff.1 hx
  rw [List.take_succ_eq_append_getElem hk]
  intro y hy
  rcases List.mem_append.1 hy with hy | hy
  · exact h y hy
  · rw [List.mem_singleton.1 hy]
    exact ho
set_option maxHeartbeats 1000000 in
theorem greatPairsF (v : Value) (l : List KV) (n : Nat) (w : World) (hv : Prs w v l) :
    Calls Tryz.prog 34 #[v, .int .i64 n] w fun e w' => GreatF l n e ∧ w' = w := by
  have HV := hid hv
  obtain ⟨ao, ca, rfl, a1, a2, a3, -⟩ := hv
  unfold maxLen at a2
  by_cases hbig : n < l.length
  · have hd : decide ((l.length : Int) ≤ (n : Int)) = false := by simp; omega
    have hd2 : decide ((n : Int) < (l.length : Int)) = true := by simp; omega
    have hd3 : decide ((0 : Int) < (l.length : Int)) = true := by simp; omega
    clear a3
    go_enter Tryz.func34, Tryz.ntmps34
    go_wp2
    go_loop [5] (fun i => i = .int .i64 0) (fun _ => 0)
    case atStart => rfl
    case round =>
      subst hrel
      go_wp2
      go_ret
      exact ⟨⟨true, rfl, fun h => by cases h⟩, rfl⟩
  · have HB := hid hbig
    have hd : decide ((l.length : Int) ≤ (n : Int)) = true := by simp; omega
    have hd2 : decide ((n : Int) < (l.length : Int)) = false := by simp; omega
    have hle : l.length ≤ n := by omega
    clear hbig a3
    go_enter Tryz.func34, Tryz.ntmps34
    go_wp2
    go_loop [5] (fun i => ∃ k : Nat, k ≤ l.length ∧ i = .int .i64 k ∧ Hid (∀ y ∈ l.take k, y.1.size ≤ 100 ∧ y.2.size ≤ 100)) (fun i => l.length - (intOf i).toNat)
    case atStart => exact ⟨0, by omega, rfl, hid (fun y hy => by simp at hy)⟩
    case round =>
      obtain ⟨k, hk, rfl, HK⟩ := hrel
      by_cases hlt : k < l.length
      · obtain ⟨b, off, x, hx, rfl, hb, c1, c2⟩ := HV.out.cell? hlt
        have HX := hid hx
        clear hx
        obtain ⟨s, t⟩ := x
        simp only at c1 c2
        have hd4 : decide ((k : Int) < (l.length : Int)) = true := by simp; omega
        by_cases hs : 100 < s.size
        · have hd5 : decide ((100 : Int) < (s.size : Int)) = true := by simp; omega
          go_wp2
          go_ret
          exact ⟨⟨true, rfl, fun h => by cases h⟩, rfl⟩
        · have hd5 : decide ((100 : Int) < (s.size : Int)) = false := by simp; omega
          by_cases ht : 100 < t.size
          · have hd6 : decide ((100 : Int) < (t.size : Int)) = true := by simp; omega
            go_wp2
            go_ret
            exact ⟨⟨true, rfl, fun h => by cases h⟩, rfl⟩
          · have hd6 : decide ((100 : Int) < (t.size : Int)) = false := by simp; omega
            have HK2 := hid (small_takeF HK.out HX.out (show s.size ≤ 100 ∧ t.size ≤ 100 by omega))
            clear HK
            go_wp2
            go_round
            case rel => exact ⟨k + 1, by omega, by go_num, HK2⟩
            case measure => simp [intOf]; omega
      · have hd4 : decide ((k : Int) < (l.length : Int)) = false := by simp; omega
        go_wp2
        go_ret
        exact ⟨⟨decide (n < l.length), rfl, fun _ => ⟨by have := HB.out; omega, fun x hx => HK.out x (by rw [List.take_of_length_le (by omega)]; exact hx)⟩⟩, rfl⟩

/-- The function that says which pairs may be told. -/
def mayFn (own : Bool) : Value := if own then .func (.func 124) #[] #[] else .func (.func 146) #[] #[]
theorem anyKey_any (x : KV) (k : ByteArray) (w : World) : Calls Tryz.prog 146 #[prV x, .string k] w fun e w' => e = .returned (.bool true) ∧ Below w.heap.size w w' := by
  go_enter Tryz.func146, Tryz.ntmps146
  go_wp2
  go_ret
  exact ⟨rfl, (Below.refl _ w).alloc (Nat.le_refl _) _⟩
theorem ownKey_any (x : KV) (k : ByteArray) (w : World) : Calls Tryz.prog 124 #[prV x, .string k] w fun e w' => e = .returned (.bool (decide (x.1 = k))) ∧ Below w.heap.size w w' := by
  obtain ⟨s, t⟩ := x
  by_cases hs : s = k
  · subst hs
    have he : (s.toList == s.toList) = true := by simp
    rw [show decide (s = s) = true by simp]
    go_enter Tryz.func124, Tryz.ntmps124
    go_wp2
    go_ret
    exact ⟨rfl, (Below.refl _ w).alloc (Nat.le_refl _) _⟩
  · have he1 : ¬ s.toList = k.toList := fun e => hs (bytes_inj e)
    have he : (s.toList == k.toList) = false := by simpa using he1
    rw [show decide (s = k) = false by simpa using hs]
    clear hs
    go_enter Tryz.func124, Tryz.ntmps124
    go_wp2
    go_ret
    exact ⟨rfl, (Below.refl _ w).alloc (Nat.le_refl _) _⟩
/-- The little function within runKey: may this one not be told? -/
theorem notMay_any (own : Bool) (x : KV) (k : ByteArray) (b c : Nat) (w : World) (h1 : w.cell? ⟨b, 0, none⟩ = some (mayFn own)) (h2 : w.cell? ⟨c, 0, none⟩ = some (.string k)) (hb : b < w.heap.size) (hc : c < w.heap.size) :
    Calls Tryz.prog 194 #[prV x, .pointer (some ⟨b, 0, none⟩), .pointer (some ⟨c, 0, none⟩)] w fun e w' => e = .returned (.bool (!mayK own x k)) ∧ Below w.heap.size w w' := by
  have hnot : ∀ (x : Bool) (w : World), (Op.unary .not (.bool x)).run Tryz.prog w = .ok (.bool (!x)) w := fun _ _ => rfl
  obtain ⟨s, t⟩ := x
  have k1 : Below w.heap.size w (w.alloc (.cells #[.string s, .string t] 105)) := (Below.refl _ w).alloc (Nat.le_refl _) _
  have g1 := (k1.cell (p := ⟨b, 0, none⟩) hb).trans h1
  have g2 := (k1.cell (p := ⟨c, 0, none⟩) hc).trans h2
  clear h1 h2
  cases own
  · simp only [mayFn, Bool.false_eq_true, if_false] at g1
    go_enter Tryz.func194, Tryz.ntmps194
    go_wp2_with fail
    refine (anyKey_any (s, t) k _).mono ?_
    rintro e w1 ⟨rfl, h1⟩
    have k2 := below_then k1 h1 k1.size
    go_wp2
    go_ret
    exact ⟨rfl, k2⟩
  · simp only [mayFn, if_true] at g1
    have hm : mayK true (s, t) k = decide (s = k) := rfl
    rw [hm]
    have HO := hid (fun w => ownKey_any (s, t) k w)
    simp only at HO
    generalize decide (s = k) = g at HO ⊢
    go_enter Tryz.func194, Tryz.ntmps194
    go_wp2_with fail
    refine (HO.out _).mono ?_
    rintro e w1 ⟨rfl, h1⟩
    have k2 := below_then k1 h1 k1.size
    go_wp2
    go_ret
    exact ⟨rfl, k2⟩
set_option maxHeartbeats 1000000 in
theorem index_any (own : Bool) (v : Value) (l : List KV) (k : ByteArray) (b c : Nat) (w : World) (hv : Prs w v l) (h1 : w.cell? ⟨b, 0, none⟩ = some (mayFn own)) (h2 : w.cell? ⟨c, 0, none⟩ = some (.string k)) (hb : b < w.heap.size) (hc : c < w.heap.size) :
    Calls Tryz.prog 134 #[v, .func (.func 194) #[] #[.pointer (some ⟨b, 0, none⟩), .pointer (some ⟨c, 0, none⟩)]] w fun e w' => ∃ i : Int, e = .returned (.int .i64 i) ∧ decide (0 ≤ i) = (l.any fun x => !mayK own x k) ∧ Below w.heap.size w w' := by
  have HV := hid hv
  have H1 := hid h1
  have H2 := hid h2
  obtain ⟨ao, ca, rfl, a1, a2, a3, -⟩ := hv
  unfold maxLen at a2
  clear a3 h1 h2
  go_enter Tryz.func134, Tryz.ntmps134
  go_wp2
  go_loopw [4, 8] (fun u i wr => ∃ j : Nat, j ≤ l.length ∧ i = .int .i64 j ∧ Hid (∀ x ∈ l.take j, mayK own x k = true) ∧ Below w.heap.size w wr) (fun _ i _ => l.length - (intOf i).toNat)
  case atStart => exact ⟨0, by omega, rfl, hid (by simp), Below.refl _ _⟩
  case round =>
    obtain ⟨j, hj, rfl, HA, hbel⟩ := hrel
    by_cases hlt : j < l.length
    · obtain ⟨g, off, x, hx, rfl, hg, c1, c2⟩ := Prs.cell? (HV.out.below hbel) hlt
      have HX := hid hx
      clear hx
      obtain ⟨s, t⟩ := x
      simp only at c1 c2
      have hd4 : decide ((j : Int) < (l.length : Int)) = true := by simp; omega
      go_wp2_with fail
      refine (notMay_any own (s, t) k b c wr ((hbel.cell (p := ⟨b, 0, none⟩) hb).trans H1.out) ((hbel.cell (p := ⟨c, 0, none⟩) hc).trans H2.out) (Nat.lt_of_lt_of_le hb hbel.size) (Nat.lt_of_lt_of_le hc hbel.size)).mono ?_
      rintro e w2 ⟨rfl, hb2⟩
      have k2 := below_then hbel hb2 hbel.size
      clear hb2 c1 c2
      cases hm : mayK own (s, t) k
      · have HM := hid hm
        clear hm
        go_wp2
        go_ret
        refine ⟨_, rfl, ?_, k2⟩
        have hin : (l.any fun x => !mayK own x k) = true := by
          rw [List.any_eq_true]
          exact ⟨(s, t), List.mem_of_getElem? HX.out, by rw [HM.out]; rfl⟩
        rw [hin]
        simp
      · have HM := hid hm
        clear hm
        have HA2 := hid (show ∀ x ∈ l.take (j + 1), mayK own x k = true by
          obtain ⟨hk, e⟩ := List.getElem?_eq_some_iff.1 HX.out
          rw [List.take_succ_eq_append_getElem hk, e]
          intro y hy
          rcases List.mem_append.1 hy with hy | hy
          · exact HA.out y hy
          · rw [List.mem_singleton.1 hy]; exact HM.out)
        clear HA hbel
        go_wp2
        go_roundw
        case rel => exact ⟨j + 1, by omega, by go_num, HA2, k2⟩
        case measure => simp [intOf]; omega
    · obtain rfl : j = l.length := by omega
      have hd4 : decide ((l.length : Int) < (l.length : Int)) = false := by simp
      go_wp2
      go_ret
      refine ⟨-1, rfl, ?_, hbel⟩
      have hin : (l.any fun x => !mayK own x k) = false := by
        rw [List.any_eq_false]
        intro x hx
        rw [HA.out x (by rw [List.take_length]; exact hx)]
        simp
      rw [hin]
      simp
theorem contains_any (own : Bool) (v : Value) (l : List KV) (k : ByteArray) (b c : Nat) (w : World) (hv : Prs w v l) (h1 : w.cell? ⟨b, 0, none⟩ = some (mayFn own)) (h2 : w.cell? ⟨c, 0, none⟩ = some (.string k)) (hb : b < w.heap.size) (hc : c < w.heap.size) :
    Calls Tryz.prog 116 #[v, .func (.func 194) #[] #[.pointer (some ⟨b, 0, none⟩), .pointer (some ⟨c, 0, none⟩)]] w fun e w' => e = .returned (.bool (l.any fun x => !mayK own x k)) ∧ Below w.heap.size w w' := by
  have H := hid (index_any own v l k b c w hv h1 h2 hb hc)
  clear hv h1 h2
  generalize (l.any fun x => !mayK own x k) = g at H ⊢
  go_enter Tryz.func116, Tryz.ntmps116
  go_wp2_with fail
  refine H.out.mono ?_
  rintro e w2 ⟨i, rfl, hd, hb2⟩
  go_wp2
  go_ret
  exact ⟨rfl, hb2⟩
end Go.Proofs.YtfimoobgbodbmaaGreatDoor
/-! One key's run: runKey of fold. -/
namespace Go.Proofs.YtfimoobgbodbmaaGreatDoor
open Go.RowKit Go.Lib
set_option linter.unusedVariables false
set_option maxRecDepth 100000

theorem mayFn_is (own : Bool) : ∃ n, mayFn own = .func (.func n) #[] #[] := by cases own <;> exact ⟨_, rfl⟩
theorem owns_monoF {w : World} {base base' e s n : Nat} {v : Value} {xs : List Value} (h : w.ownsRow base e s v n xs) (hb : base' ≤ base) : w.ownsRow base' e s v n xs := by
  refine ⟨h.1, ?_⟩
  rcases h.2 with h1 | ⟨g, cap, cur, h1, h2, r⟩
  · exact .inl h1
  · exact .inr ⟨g, cap, cur, h1, by omega, r⟩
/-- What a fold answers: pairs of its own, and a number. -/
def ToldNew (w : World) (R : List KV × Int) (e : Ending) (w' : World) : Prop := ∃ x, e = .returned (.tuple #[x, .int .i64 R.2]) ∧ w'.ownsRow w.heap.size 105 2 x R.1.length (fl encP R.1) ∧ Below w.heap.size w w'
set_option maxHeartbeats 2000000 in
theorem runKey_any (own : Bool) (w : World) (v u : Value) (l : List Inst) (key : ByteArray) (vals : List ByteArray) (f : Int) (T : Tabs w) (hv : Co w v l) (hu : Txs w u vals) (hF : Fits l key vals) (hf : I64 f) :
    Calls Tryz.prog 144 #[v, .string key, u, .int .i64 f, mayFn own] w (ToldNew w (runK own l key vals f)) := by
  have HC := hid (fun v l k b c w => contains_any own v l k b c w)
  have HRn := hid (fun w T hv hu => vmRun_any w v u l key vals f T hv hu hF hf)
  have HT := hid T
  have HV := hid hv
  have HU := hid hu
  unfold runK
  generalize run l key vals f = R at HRn ⊢
  obtain ⟨ps, r, d⟩ := R
  simp only at HRn ⊢
  obtain ⟨n, hn⟩ := mayFn_is own
  rw [hn] at HC ⊢
  generalize hg : (ps.any fun x => !mayK own x key) = g
  have HG := hid hg
  generalize hq : (if g = true then (([], 6) : List KV × Int) else (ps, r)) = Q
  have HQ := hid hq
  clear hg hn T hv hu hF hq
  have hmf : ∀ (fn : Fn) (first cap : Array Value) (w : World), (Instr.makeFunc fn first cap).run Tryz.prog w = .ok (.func fn first cap) w := fun _ _ _ _ => rfl
  go_enter Tryz.func144, Tryz.ntmps144
  go_wp2_with fail
  have k1 : Below w.heap.size w (w.alloc (.cells #[.string key] 9)) := (Below.refl _ w).alloc (Nat.le_refl _) _
  have k2 : Below w.heap.size w ((w.alloc (.cells #[.string key] 9)).alloc (.cells #[.func (.func n) #[] #[]] 179)) := k1.alloc k1.size _
  refine (HRn.out _ (HT.out.on k2) (HV.out.below k2) (HU.out.below k2)).mono ?_
  rintro e w2 ⟨x, rfl, ho, hb2⟩
  have c1 := (hb2.cell (p := ⟨w.heap.size, 0, none⟩) (by simp; omega)).trans (show ((w.alloc (.cells #[.string key] 9)).alloc (.cells #[.func (.func n) #[] #[]] 179)).cell? ⟨w.heap.size, 0, none⟩ = some (.string key) by simp)
  have c2 := (hb2.cell (p := ⟨w.heap.size + 1, 0, none⟩) (by simp)).trans (show ((w.alloc (.cells #[.string key] 9)).alloc (.cells #[.func (.func n) #[] #[]] 179)).cell? ⟨w.heap.size + 1, 0, none⟩ = some (.func (.func n) #[] #[]) by simp)
  have hsz := hb2.size
  have k3 := below_then k2 hb2 k2.size
  have HO := hid (owns_monoF ho (show w.heap.size ≤ _ by simp; omega))
  have C1 := hid c1
  have C2 := hid c2
  simp only [World.alloc, Array.size_push] at hsz
  clear hb2 ho k1 k2 c1 c2 HRn HT HV HU
  go_wp2_with fail
  refine (HC.out x ps key (w.heap.size + 1) w.heap.size w2 (Reads.own encP_len (by decide) HO.out) C2.out C1.out (by omega) (by omega)).mono ?_
  rintro e w3 ⟨rfl, hb3⟩
  rw [HG.out]
  have k4 := below_then k3 hb3 k3.size
  have HO3 := hid (owns_below HO.out hb3)
  clear hb3 k3 HO HC C1 C2 HG
  cases g
  · have e := HQ.out
    rw [if_neg (by simp)] at e
    subst e
    go_wp2
    go_ret2
    exact ⟨x, rfl, HO3.out, k4⟩
  · have e := HQ.out
    rw [if_pos rfl] at e
    subst e
    go_wp2
    go_ret2
    exact ⟨_, rfl, World.ownsRow_nil _ _ _ _, k4⟩
end Go.Proofs.YtfimoobgbodbmaaGreatDoor
/-! The values of the first key: firstValues of fold. -/
namespace Go.Proofs.YtfimoobgbodbmaaGreatDoor
open Go.RowKit
set_option linter.unusedVariables false
set_option maxRecDepth 100000

theorem takeWhile_all {k : ByteArray} {l : List KV} (h : ∀ x ∈ l, x.1 = k) : l.takeWhile (fun x => decide (x.1 = k)) = l := by
  induction l with
  | nil => rfl
  | cons x l ih => rw [List.takeWhile_cons_of_pos (by simpa using h x List.mem_cons_self), ih fun y hy => h y (List.mem_cons_of_mem _ hy)]
theorem takeWhile_at {k : ByteArray} {l : List KV} {j : Nat} {x : KV} (h : ∀ y ∈ l.take j, y.1 = k) (hx : l[j]? = some x) (hn : x.1 ≠ k) : l.takeWhile (fun x => decide (x.1 = k)) = l.take j := by
  obtain ⟨hj, rfl⟩ := List.getElem?_eq_some_iff.1 hx
  conv => lhs; rw [← List.take_append_drop j l]
  rw [List.takeWhile_append_of_pos (by intro a ha; simpa using h a ha), List.drop_eq_getElem_cons hj, List.takeWhile_cons_of_neg (by simpa using hn), List.append_nil]
set_option maxHeartbeats 2000000 in
theorem firstValues_any (v : Value) (l : List KV) (key : ByteArray) (w : World) (hv : Prs w v l) (hn : l.length ≤ 1000) : Calls Tryz.prog 143 #[v, .string key] w (TextsNew w ((l.takeWhile (fun x => decide (x.1 = key))).map (·.2))) := by
  have HV := hid hv
  obtain ⟨ao, ca, rfl, a1, a2, a3, -⟩ := hv
  unfold maxLen at a2
  clear a3
  obtain ⟨i0, hi, hz0, hz1, hz2⟩ := info_parts Tryz.infoT
  generalize hR : (l.takeWhile (fun x => decide (x.1 = key))).map (·.2) = R
  have HR := hid hR
  clear hR
  go_enter Tryz.func143, Tryz.ntmps143
  go_wp2
  go_loopw [5, 10] (fun u i wr => ∃ k : Nat, k ≤ l.length ∧ i = .int .i64 k ∧ wr.ownsRow w.heap.size 9 1 u k (fl encT ((l.take k).map (·.2))) ∧ Hid (∀ x ∈ l.take k, x.1 = key) ∧ Below w.heap.size w wr) (fun _ i _ => l.length - (intOf i).toNat)
  case atStart => exact ⟨0, by omega, rfl, by simpa [fl] using World.ownsRow_nil _ _ _ _, hid (by simp), Below.refl _ _⟩
  case round =>
    obtain ⟨k, hk, rfl, ho, HA, hbel⟩ := hrel
    have HO := hid ho
    have hsz := hbel.size
    clear ho
    by_cases hlt : k < l.length
    · obtain ⟨b, off, x, hx, rfl, hb, c1, c2⟩ := Prs.cell? (HV.out.below hbel) hlt
      have HX0 := hid hx
      have HX := hid (show (l.take (k + 1)).map (·.2) = (l.take k).map (·.2) ++ [x.2] by
        obtain ⟨h1, rfl⟩ := List.getElem?_eq_some_iff.1 hx
        rw [List.take_succ_eq_append_getElem h1, List.map_append]
        rfl)
      clear hx
      obtain ⟨s, t⟩ := x
      simp only at c1 c2 HX
      have hd4 : decide ((k : Int) < (l.length : Int)) = true := by simp; omega
      have HL := hid (show ((l.take k).map (·.2)).length = k by simp; omega)
      by_cases hs : s = key
      · subst hs
        have he : (s.toList != s.toList) = false := by simp
        have HA2 := hid (show ∀ x ∈ l.take (k + 1), x.1 = s by
          obtain ⟨h1, e⟩ := List.getElem?_eq_some_iff.1 HX0.out
          rw [List.take_succ_eq_append_getElem h1, e]
          intro y hy
          rcases List.mem_append.1 hy with hy | hy
          · exact HA.out y hy
          · rw [List.mem_singleton.1 hy])
        clear HA HX0
        generalize (l.take k).map (·.2) = ks at HO HX HL
        go_wp2_with (at_builtin; refine wpList_append_own _ rfl _ _ 120 rfl w.heap.size 9 i0 (.string ⟨#[]⟩) 1 16 Tryz.underlying120 hi hz0 hz1 hz2 rfl (by decide) _ k _ rfl ((HO.out.alloc _).alloc _) ⟨wr.heap.size + 1, 0, none⟩ 1 1 [.string t] rfl rfl (by have := one_new (wr.alloc (.cells #[.string s, .string t] 105)) (.string t) 9; simpa using this) (by intro u hu; simp at hu; subst hu; rfl) (by unfold maxLen; omega) (by omega) (by simp; omega) ?_; intro v3 w3 ho3 hg3 _)
        have HB3 := hid ((((hbel.alloc (by omega) _).alloc (by simp; omega) _).grown hg3 (by simp; omega) (by intro q hq; exact owns_base HO.out hq)))
        have HO3 := hid (show w3.ownsRow w.heap.size 9 1 v3 (k + 1) (fl encT ((l.take (k + 1)).map (·.2))) by rw [HX.out, fl_append]; exact ho3)
        clear ho3 hg3 HX HO hbel c1 c2
        go_wp2
        go_roundw
        case rel => exact ⟨k + 1, by omega, by go_num, HO3.out, HA2, HB3.out⟩
        case measure => simp [intOf]; omega
      · have he1 : ¬ s.toList = key.toList := fun e => hs (bytes_inj e)
        have he : (s.toList != key.toList) = true := by simpa using he1
        have he2 : (s.toList == key.toList) = false := by simpa using he1
        have HE := hid (show R = (l.take k).map (·.2) by rw [← HR.out, takeWhile_at HA.out HX0.out hs])
        have HB3 := hid (hbel.alloc (by omega) (.cells #[.string s, .string t] 105))
        have HO3 := hid (show (wr.alloc (.cells #[.string s, .string t] 105)).ownsRow w.heap.size 9 1 _ R.length (fl encT R) by rw [HE.out, HL.out]; exact HO.out.alloc _)
        clear HX HO hs HE HL HA HX0 HR
        go_wp2
        go_ret
        exact ⟨_, rfl, HO3.out, HB3.out⟩
    · obtain rfl : k = l.length := by omega
      have hd4 : decide ((l.length : Int) < (l.length : Int)) = false := by simp
      rw [List.take_length] at HO
      have HE := hid (show R = l.map (·.2) by
        have h := HA.out
        rw [List.take_length] at h
        rw [← HR.out, takeWhile_all h])
      have HO3 := hid (show wr.ownsRow w.heap.size 9 1 _ R.length (fl encT R) by rw [HE.out, List.length_map]; exact HO.out)
      clear HO HE HA HR
      go_wp2
      go_ret
      exact ⟨_, rfl, HO3.out, hbel⟩
end Go.Proofs.YtfimoobgbodbmaaGreatDoor
