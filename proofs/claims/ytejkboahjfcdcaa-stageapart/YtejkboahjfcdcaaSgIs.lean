/- package stage: its object; New, may, Next, Count. -/
import Derived.Test.YtejkboahjfcdcaaStEnt
import Derived.Test.YtejkboahjfcdcaaStPay
import Derived.Test.YtejkboahjfcdcaaLow
import Derived.RegionTactic
import Derived.BigRegion
import Derived.Deep.RegionHeld3
import Derived.Handy
namespace Go.Proofs.Ytejkboahjfcdcaa
open Go.RowKit
set_option linter.unusedVariables false

theorem keyTwo : KeyTwo Try.prog 59 := keyTwo_of (by kernel_rfl) (of_decide_eq_true (by kernel_rfl)) (by kernel_rfl) (by kernel_rfl) Try.underlying59 rfl rfl (by decide) (by decide) Try.underlying3 Try.underlying3 (by kernel_rfl) (by kernel_rfl) (by kernel_rfl)
theorem zeroLists (u : World) : (zeroValue 49).run Try.prog u = .ok (.slice none 0 0) u := by kernel_rfl
/-- Nothing stands in no map. -/
theorem look_none (w : World) {x : Int × Int} (hx : W64 x) : (Instr.lookup 54 (.map none) (kv x) false).run Try.prog w = .ok (.slice none 0 0) w := by
  rcases keyTwo.law.find w (keyTwo.of x hx) [] (by simp) with ⟨h1, -⟩ | ⟨j, e, -, h2, -⟩
  · simp [Instr.lookup, run_underlying Try.underlying54, keyTwo.law.check w _ (keyTwo.of x hx), h1, Result.andThen]
  · simp at h2

/-- A map, none or in a block that was made behind B: what is kept of each attempt. -/
def MapV (B : Nat) (mv : Value) (X : List ((Int × Int) × Pay)) (w : World) : Prop := (mv = .map none ∧ X = []) ∨ ∃ m, mv = .map (some m) ∧ B ≤ m ∧ MapIs Try.prog 59 m (slS X) w
/-- A stage in block b. -/
structure Sg (B b : Nat) (mv : Value) (X : List ((Int × Int) × Pay)) (w : World) : Prop where
  obj : w.heap[b]? = some (.cells #[mv] 56 (0, 0))
  map : MapV B mv X w
  pays : Pays B X w
  ok : OkS (chS X)
  far : B ≤ b
  low : B ≤ w.heap.size
/-- What belongs to it. -/
def InG (b : Nat) (mv : Value) (X : List ((Int × Int) × Pay)) (g : Nat) : Prop := g = b ∨ mv = .map (some g) ∨ InX X g
/-- Where it lies then: where it lay, or in what is new. -/
def NextG (w : World) (b : Nat) (mv : Value) (X : List ((Int × Int) × Pay)) (mv' : Value) (X' : List ((Int × Int) × Pay)) : Prop := ∀ g, InG b mv' X' g → InG b mv X g ∨ w.heap.size ≤ g
section
variable {B b : Nat} {mv : Value} {X : List ((Int × Int) × Pay)} {w w' : World}
theorem Sg.c0 (h : Sg B b mv X w) : w.cell? ⟨b, 0, none⟩ = some mv := cell_of_cells h.obj
theorem Sg.free (h : Sg B b mv X w) : w.frozen? ⟨b, 0, none⟩ = false := free_of_cells h.obj
theorem MapV.lt (h : MapV B mv X w) {g : Nat} (hg : mv = .map (some g)) : B ≤ g ∧ g < w.heap.size := by
  rcases h with ⟨h1, _⟩ | ⟨m, h1, h2, h3⟩
  · rw [h1] at hg
    cases hg
  · rw [h1] at hg
    cases hg
    exact ⟨h2, h3.lt⟩
theorem Sg.lt (h : Sg B b mv X w) {g : Nat} (hg : InG b mv X g) : B ≤ g ∧ g < w.heap.size := by
  rcases hg with rfl | hg | hg
  · exact ⟨h.far, lt_of_block h.obj⟩
  · exact h.map.lt hg
  · exact h.pays.lt hg
theorem MapV.sav {S : Nat → Prop} (h : MapV B mv X w) (hs : Sav S w w') (hn : ∀ g, mv = .map (some g) → ¬ S g) : MapV B mv X w' := by
  rcases h with h | ⟨m, h1, h2, h3⟩
  · exact .inl h
  · exact .inr ⟨m, h1, h2, h3.sav hs (hn m h1)⟩
theorem Sg.sav {S : Nat → Prop} (h : Sg B b mv X w) (hs : Sav S w w') (hn : ∀ g, InG b mv X g → ¬ S g) : Sg B b mv X w' :=
  ⟨hs.at h.obj (hn b (.inl rfl)), h.map.sav hs (fun g hg => hn g (.inr (.inl hg))), h.pays.sav hs (fun g hg => hn g (.inr (.inr hg))), h.ok, h.far, Nat.le_trans h.low hs.size⟩
theorem Sg.below (h : Sg B b mv X w) (hb : Below w.heap.size w w') : Sg B b mv X w' := h.sav (Sav.of_below (S := Non) hb) (fun _ _ h => h)
theorem Sg.bel (h : Sg B b mv X w) (hs : Sav (InG b mv X) w w') : Below B w w' := hs.below (fun g hg => (h.lt hg).1) h.low
theorem NextG.refl (w : World) (b : Nat) (mv : Value) (X : List ((Int × Int) × Pay)) : NextG w b mv X mv X := fun _ h => .inl h
/-- What a slice of lists of an attempt reads as. -/
theorem Sg.lis (h : Sg B b mv X w) (k : Int × Int) : Lis w (payS X k).u (getS (chS X) k) := by
  have := (h.pays.at_ k).lis
  rw [payS_cs] at this
  exact this
/-- What the map has of an attempt. -/
theorem Sg.look (h : Sg B b mv X w) {k : Int × Int} (hk : W64 k) : (Instr.lookup 54 mv (kv k) false).run Try.prog w = .ok (payS X k).u w := by
  rcases h.map with ⟨rfl, rfl⟩ | ⟨m, rfl, _, h3⟩
  · exact look_none w hk
  · rw [(look_is w keyTwo Try.underlying54 (zeroLists w) h3 hk).1, payS_u]
end
theorem new_stage (w : World) : Calls Try.prog 10 #[] w fun e w' => e = .returned (.pointer (some ⟨w.heap.size, 0, none⟩)) ∧ w' = w.alloc (.cells #[.map none] 56) := by
  go_enter Try.func10, Try.ntmps10
  go_wp2
  go_ret
  exact ⟨rfl, rfl⟩
theorem Sg.new (w : World) (B : Nat) (hB : B ≤ w.heap.size) : Sg B w.heap.size (.map none) [] (w.alloc (.cells #[.map none] 56)) :=
  ⟨new_block _ _, .inl ⟨rfl, rfl⟩, Pays.nil _ _, okS_nil, hB, by simp; omega⟩

set_option maxHeartbeats 1000000 in
theorem next_any (B b : Nat) (mv : Value) (X : List ((Int × Int) × Pay)) (k : Int × Int) (hk : W64 k) (w : World) (h : Sg B b mv X w) :
    Calls Try.prog 22 #[.pointer (some ⟨b, 0, none⟩), .int .i64 k.1, .int .i64 k.2] w fun e w' => e = .returned (.int .i64 ((getS (chS X) k).length : Nat)) ∧ w = w' := by
  have c0 := h.c0
  have hl := h.look hk
  obtain ⟨ao, cap, hu, -, h2, -⟩ := (h.lis k).slice
  rw [hu] at hl
  unfold kv at hl
  obtain ⟨n, hn⟩ : ∃ n, (getS (chS X) k).length = n := ⟨_, rfl⟩
  rw [hn] at hl ⊢
  clear hn h hu
  go_enter Try.func22, Try.ntmps22
  go_wp2
  go_ret
  exact ⟨rfl, rfl⟩

set_option maxHeartbeats 1000000 in
theorem count_any (B b : Nat) (mv : Value) (X : List ((Int × Int) × Pay)) (w : World) (h : Sg B b mv X w) :
    Calls Try.prog 21 #[.pointer (some ⟨b, 0, none⟩)] w fun e w' => e = .returned (.int .i64 ((chS X).length : Nat)) ∧ w = w' := by
  have c0 := h.c0
  have hm := h.map
  clear h
  rcases hm with ⟨rfl, rfl⟩ | ⟨m, rfl, -, h3⟩
  · go_enter Try.func21, Try.ntmps21
    go_wp2
    go_ret
    exact ⟨rfl, rfl⟩
  · rw [chS_len, ← slS_len]
    go_enter Try.func21, Try.ntmps21
    go_wp2_with (at_len; refine wpList_len_map _ rfl _ _ rfl 59 49 Try.underlying54 m (slS X) rfl h3 ?_)
    go_ret
    exact ⟨rfl, rfl⟩

set_option maxHeartbeats 1000000 in
theorem may_any (s t q : Int) (w : World) : Calls Try.prog 26 #[.int .i64 s, .int .i64 t, .int .i64 q] w fun e w' => e = .returned (.bool (maySt (s, t) && decide (q < 40))) ∧ w = w' := by
  by_cases ha : 0 ≤ s
  case neg =>
    have da : decide ((0 : Int) ≤ s) = false := by simp; omega
    rw [show (maySt (s, t) && decide (q < 40)) = false from by
      simp only [maySt, Bool.and_eq_false_iff, decide_eq_false_iff_not]
      omega]
    go_enter Try.func26, Try.ntmps26
    go_wp2
    go_ret
    exact ⟨rfl, rfl⟩
  have da : decide ((0 : Int) ≤ s) = true := by simp; omega
  by_cases hb : s < 6
  case neg =>
    have db : decide (s < (6 : Int)) = false := by simp; omega
    rw [show (maySt (s, t) && decide (q < 40)) = false from by
      simp only [maySt, Bool.and_eq_false_iff, decide_eq_false_iff_not]
      omega]
    go_enter Try.func26, Try.ntmps26
    go_wp2
    go_ret
    exact ⟨rfl, rfl⟩
  have db : decide (s < (6 : Int)) = true := by simp; omega
  by_cases hc : 1 ≤ t
  case neg =>
    have dc : decide ((1 : Int) ≤ t) = false := by simp; omega
    rw [show (maySt (s, t) && decide (q < 40)) = false from by
      simp only [maySt, Bool.and_eq_false_iff, decide_eq_false_iff_not]
      omega]
    go_enter Try.func26, Try.ntmps26
    go_wp2
    go_ret
    exact ⟨rfl, rfl⟩
  have dc : decide ((1 : Int) ≤ t) = true := by simp; omega
  by_cases hd : t ≤ 3
  case neg =>
    have dd : decide (t ≤ (3 : Int)) = false := by simp; omega
    rw [show (maySt (s, t) && decide (q < 40)) = false from by
      simp only [maySt, Bool.and_eq_false_iff, decide_eq_false_iff_not]
      omega]
    go_enter Try.func26, Try.ntmps26
    go_wp2
    go_ret
    exact ⟨rfl, rfl⟩
  have dd : decide (t ≤ (3 : Int)) = true := by simp; omega
  by_cases he : q < 40
  case neg =>
    have de : decide (q < (40 : Int)) = false := by simp; omega
    rw [show (maySt (s, t) && decide (q < 40)) = false from by
      simp only [maySt, Bool.and_eq_false_iff, decide_eq_false_iff_not]
      omega]
    go_enter Try.func26, Try.ntmps26
    go_wp2
    go_ret
    exact ⟨rfl, rfl⟩
  have de : decide (q < (40 : Int)) = true := by simp; omega
  rw [show (maySt (s, t) && decide (q < 40)) = true from by
    simp only [maySt, Bool.and_eq_true, decide_eq_true_eq]
    omega]
  go_enter Try.func26, Try.ntmps26
  go_wp2
  go_ret
  exact ⟨rfl, rfl⟩
end Go.Proofs.Ytejkboahjfcdcaa
