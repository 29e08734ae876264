/- Laid together: OCell OInv OMake OAsk. -/
import Derived.Test.YtfimoobgbodbmaaGreatDoorGLzy
import Derived.Laws.EntriesVeiled
import Derived.Deep.RegionHeld3
import Derived.Handy
import Derived.Test.YtfimoobgbodbmaaGreatDoorGJarg
import Derived.Test.YtfimoobgbodbmaaGreatDoorGD
import Derived.Test.YtfimoobgbodbmaaGreatDoorGVv
/-! A lazy cell of package model: made when it is first asked for, and kept from then on. -/
namespace Go.Proofs.YtfimoobgbodbmaaGreatDoor
open Go.RowKit
set_option linter.unusedVariables false
set_option maxRecDepth 100000

/-- A cell's block: is it done, the lock, what makes it, its pairs, its reason. -/
abbrev ceObj (d l : Int) (f v : Value) (r : Int) : Obj := .cells #[.int .u32 d, .int .i32 l, .int .u32 0, f, v, .int .i64 r] 146 (0, 0)
abbrev noP : Value := .slice none 0 0

theorem newCell_fn (fn : Fn) (a c : Array Value) (w : World) : Calls Tryz.prog 97 #[.func fn a c] w fun e w' => e = .returned (.pointer (some ⟨w.heap.size, 0, none⟩)) ∧ w' = w.alloc (ceObj 0 0 (.func fn a c) noP 0) := by
  go_enter Tryz.func97, Tryz.ntmps97
  go_wp2
  go_ret
  exact ⟨rfl, rfl⟩

theorem enter_any {G : Nat} {fn : Func} (hf : Tryz.prog.funcs[G]? = some fn) (hn : (fn.name == "runtime.NumGoroutine") = false) (hb : fn.body.isNone = false) (c : Array Value) (x : World) : (callFunc G c).run Tryz.prog x = .ok (.enter G c) x := by
  have h1 : ¬ fn.name = "runtime.NumGoroutine" := by intro h; rw [h] at hn; simp at hn
  have h2 : ¬ fn.body = Option.none := by intro h; rw [h] at hb; simp at hb
  simp [callFunc, hf, h1, h2]

theorem set45_far {y : World} {b c : Nat} {u v : Value} (h : c ≠ b) : ((y.setCell ⟨b, 4, none⟩ u).setCell ⟨b, 5, none⟩ v).cell? ⟨c, 0, none⟩ = y.cell? ⟨c, 0, none⟩ := by
  exact (World.cell?_setCell_other _ _ _ _ (by intro e; cases e)).trans (World.cell?_setCell_other _ _ _ _ (by intro e; cases e))
theorem set45_near {y : World} {b : Nat} {u v : Value} : ((y.setCell ⟨b, 4, none⟩ u).setCell ⟨b, 5, none⟩ v).cell? ⟨b, 3, none⟩ = y.cell? ⟨b, 3, none⟩ := by
  exact (World.cell?_setCell_other _ _ _ _ (by intro e; cases e)).trans (World.cell?_setCell_other _ _ _ _ (by intro e; cases e))
set_option maxHeartbeats 1600000 in
/-- Within the once: what makes it is called, and what it answers is kept. -/
theorem fillC (b c0 G : Nat) (C : Array Value) (S : Nat → Prop) (P : Value → Int → World → Prop) (w : World) (hE : ∀ x, (callFunc G C).run Tryz.prog x = .ok (.enter G C) x)
    (hb : w.heap[b]? = some (ceObj 0 1 (.func (.func G) #[] C) noP 0)) (hc : w.heap[c0]? = some (.cells #[.pointer (some ⟨b, 0, none⟩)] 132 (0, 0))) (hS : ¬ S b) (hS0 : ¬ S c0)
    (hT : ∀ x, x.heap = w.heap → Sav Non w x → Calls Tryz.prog G C x fun e y => ∃ ao n c r, e = .returned (.agg #[.slice ao n c, .int .i64 r]) ∧ Sav S x y ∧ P (.slice ao n c) r y) :
    Calls Tryz.prog 103 #[.pointer (some ⟨c0, 0, none⟩)] w fun e w' => e = .returned (.tuple #[]) ∧ ∃ ao n c r y, P (.slice ao n c) r y ∧ Sav S w y ∧ y.heap[b]? = w.heap[b]? ∧ Sav (Just b) y w' ∧ w'.heap[b]? = some (ceObj 0 1 (.func (.func G) #[] C) (.slice ao n c) r) := by
  have hne : c0 ≠ b := by
    rintro rfl
    rw [hb] at hc
    cases hc
  have HT := hid hT
  have HB := hid hb
  have HC := hid hc
  have HS := hid hS
  have HS0 := hid hS0
  have c3 : w.cell? ⟨b, 3, none⟩ = some (.func (.func G) #[] C) := cell_of_cells hb
  have c0' : w.cell? ⟨c0, 0, none⟩ = some (.pointer (some ⟨b, 0, none⟩)) := cell_of_cells hc
  clear hT hb hc hS hS0
  go_enter Tryz.func103, Tryz.ntmps103
  go_wp2
  go_region_held3 (fun w' => w'.cell? ⟨c0, 0, none⟩ = some (.pointer (some ⟨b, 0, none⟩)) ∧ w'.cell? ⟨b, 3, none⟩ = some (.func (.func G) #[] C)) (first | exact ⟨d0, d3⟩ | exact ⟨(set45_far hne).trans d0, set45_near.trans d3⟩ | go_keep) ((refine (HT.out w.drew rfl ((Sav.refl _ _).drew)).mono ?_; rintro e y ⟨ao, n, c, r, rfl, hs, hp⟩; have hyb := hs.at (show w.drew.heap[b]? = _ from HB.out) HS.out; have hyc := hs.at (show w.drew.heap[c0]? = _ from HC.out) HS0.out; have d0 : y.cell? ⟨c0, 0, none⟩ = some (.pointer (some ⟨b, 0, none⟩)) := cell_of_cells hyc; have d3 : y.cell? ⟨b, 3, none⟩ = some (.func (.func G) #[] C) := cell_of_cells hyb; have d4 : y.cell? ⟨b, 4, none⟩ = some noP := cell_of_cells hyb; have d5 : y.cell? ⟨b, 5, none⟩ = some (.int .i64 0) := cell_of_cells hyb; have f4 : y.frozen? ⟨b, 4, none⟩ = false := free_of_cells hyb; have f5 : y.frozen? ⟨b, 5, none⟩ = false := free_of_cells hyb; have HYB := hid hyb; have HSV := hid (((Sav.refl S w).drew).trans hs); have HP := hid hp; clear hs hp hyb hyc))
  go_end0
  have k1 : (y.setCell ⟨b, 4, none⟩ (.slice ao n c)).heap[b]? = some (ceObj 0 1 (.func (.func G) #[] C) (.slice ao n c) 0) := heap_setCell_same y b 4 _ _ _ HYB.out
  exact ⟨rfl, ao, n, c, r, y, HP.out, HSV.out, HYB.out.trans HB.out.symm, ((Sav.refl _ _).setCell (just b) 4 _).setCell (just b) 5 _, heap_setCell_same _ b 5 _ _ _ k1⟩

/-- What a cell has become. -/
def Made (b G : Nat) (C : Array Value) (d : Int) (S : Nat → Prop) (P : Value → Int → World → Prop) (w w' : World) (v : Value) (r : Int) : Prop :=
  ∃ y, P v r y ∧ Sav (Also S b) w y ∧ y.heap[b]? = some (ceObj 0 1 (.func (.func G) #[] C) noP 0) ∧ Sav (Just b) y w' ∧ w'.heap[b]? = some (ceObj d (1 - d) (.func (.func G) #[] C) v r)

set_option maxRecDepth 100000 in
set_option maxHeartbeats 1600000 in
theorem slowC (b c0 G : Nat) (C : Array Value) (S : Nat → Prop) (P : Value → Int → World → Prop) (w : World) (hE : ∀ x, (callFunc G C).run Tryz.prog x = .ok (.enter G C) x)
    (hb : w.heap[b]? = some (ceObj 0 0 (.func (.func G) #[] C) noP 0)) (hc : w.heap[c0]? = some (.cells #[.pointer (some ⟨b, 0, none⟩)] 132 (0, 0))) (hS : ¬ S b) (hS0 : ¬ S c0)
    (hT : ∀ x, Sav (Just b) w x → x.heap[b]? = some (ceObj 0 1 (.func (.func G) #[] C) noP 0) → Calls Tryz.prog G C x fun e y => ∃ ao n c r, e = .returned (.agg #[.slice ao n c, .int .i64 r]) ∧ Sav S x y ∧ P (.slice ao n c) r y) :
    Calls Tryz.prog 92 #[.pointer (some ⟨b, 0, none⟩), .func (.func 103) #[] #[.pointer (some ⟨c0, 0, none⟩)]] w fun e w' => e = .returned (.tuple #[]) ∧ ∃ ao n c r, Made b G C 1 S P w w' (.slice ao n c) r := by
  have hne : c0 ≠ b := by
    rintro rfl
    rw [hb] at hc
    cases hc
  have HT := hid hT
  have HB := hid hb
  have HC := hid hc
  have HS := hid hS
  have HS0 := hid hS0
  clear hT hb hc hS hS0
  have hnot : ∀ (x : Bool) (w : World), (Op.unary .not (.bool x)).run Tryz.prog w = .ok (.bool (!x)) w := fun _ _ => rfl
  have h1 : w.cell? ⟨b, 1, none⟩ = some (.int .i32 0) := cell_of_cells HB.out
  have f1 : w.frozen? ⟨b, 1, none⟩ = false := free_of_cells HB.out
  have H1 := hid h1
  have F1 := hid f1
  clear h1 f1
  go_enter_defers Tryz.func92, Tryz.ntmps92
  go_wp2_with fail
  refine (lock_free _ w H1.out F1.out).mono ?_
  rintro e w1 ⟨rfl, hw1⟩
  have hb1 : w1.heap[b]? = some (ceObj 0 1 (.func (.func G) #[] C) noP 0) := by
    rw [hw1]
    exact heap_setCell_same w b 1 _ _ _ HB.out
  have hs1 : Sav (Just b) w w1 := by
    rw [hw1]
    exact (Sav.refl _ _).setCell (just b) 1 _
  have hc1 := hs1.at HC.out hne
  clear hw1 H1 F1
  have HB1 := hid hb1
  have HS1 := hid hs1
  have HC1 := hid hc1
  clear hb1 hs1 hc1
  go_wp2_with fail
  refine (bload_any _ 0 w1 (cell_of_cells HB1.out)).mono ?_
  rintro e w2 ⟨rfl, rfl⟩
  have h00 : ((0 : Int) != 0) = false := rfl
  rw [h00]
  go_wp2_with fail
  refine (fillC b c0 G C S P w1 hE HB1.out HC1.out HS.out HS0.out (fun x hx hs => HT.out x (HS1.out.then hs (fun _ _ h => h.elim)) (by rw [hx]; exact HB1.out))).mono ?_
  rintro e w3 ⟨rfl, ao, n, c, r, y, hp, hsy, hyb, hs3, hb3⟩
  have HB3 := hid hb3
  have HS3 := hid hs3
  have HP := hid hp
  have HY := hid (Sav.then (HS1.out.mono (fun _ _ h => Or.inr h)) hsy (fun _ _ h => Or.inl h) : Sav (Also S b) w y)
  have HYB := hid (hyb.trans HB1.out)
  clear hb3 hs3 hp hsy hyb
  go_wp2
  refine leaves_cons (f := 114) (args := #[.pointer (some ⟨b, 0, none⟩), .bool true]) (by simp) (by simp [go_sem]) ?_
  refine (bstore_deferred ⟨b, 0, none⟩ (.int .u32 0) .returning _ (cell_of_cells HB3.out) (free_of_cells HB3.out)).mono ?_
  rintro e u' w4 ⟨rfl, rfl, hw4⟩
  have hb4 : w4.heap[b]? = some (ceObj 1 1 (.func (.func G) #[] C) (.slice ao n c) r) := by
    rw [hw4]
    exact heap_setCell_same w3.drew b 0 _ _ _ HB3.out
  have hs4 : Sav (Just b) w3 w4 := by
    rw [hw4]
    exact ((Sav.refl _ _).drew).setCell (just b) 0 _
  clear hw4
  refine leaves_cons (f := 113) (args := #[.pointer (some ⟨b, 1, none⟩)]) (by simp [settle]) (by simp [go_sem]) ?_
  refine (unlock_deferred ⟨b, 1, none⟩ _ _ (cell_of_cells hb4) (free_of_cells hb4)).mono ?_
  rintro e u' w5 ⟨rfl, rfl, hw5⟩
  have hb5 : w5.heap[b]? = some (ceObj 1 0 (.func (.func G) #[] C) (.slice ao n c) r) := by
    rw [hw5]
    exact heap_setCell_same w4 b 1 _ _ _ hb4
  have hs5 : Sav (Just b) w3 w5 := by
    rw [hw5]
    exact hs4.setCell (just b) 1 _
  simp [Leaves, settle, results, Tryz.results92]
  exact ⟨ao, n, c, r, y, HP.out, HY.out, HYB.out, HS3.out.trans hs5, hb5⟩

theorem doC (b c0 G : Nat) (C : Array Value) (S : Nat → Prop) (P : Value → Int → World → Prop) (w : World) (hE : ∀ x, (callFunc G C).run Tryz.prog x = .ok (.enter G C) x)
    (hb : w.heap[b]? = some (ceObj 0 0 (.func (.func G) #[] C) noP 0)) (hc : w.heap[c0]? = some (.cells #[.pointer (some ⟨b, 0, none⟩)] 132 (0, 0))) (hS : ¬ S b) (hS0 : ¬ S c0)
    (hT : ∀ x, Sav (Just b) w x → x.heap[b]? = some (ceObj 0 1 (.func (.func G) #[] C) noP 0) → Calls Tryz.prog G C x fun e y => ∃ ao n c r, e = .returned (.agg #[.slice ao n c, .int .i64 r]) ∧ Sav S x y ∧ P (.slice ao n c) r y) :
    Calls Tryz.prog 68 #[.pointer (some ⟨b, 0, none⟩), .func (.func 103) #[] #[.pointer (some ⟨c0, 0, none⟩)]] w fun e w' => e = .returned (.tuple #[]) ∧ ∃ ao n c r, Made b G C 1 S P w w' (.slice ao n c) r := by
  have H := hid (slowC b c0 G C S P w hE hb hc hS hS0 hT)
  have HB := hid hb
  clear hb hS hT hS0 hc hE
  have hnot : ∀ (x : Bool) (w : World), (Op.unary .not (.bool x)).run Tryz.prog w = .ok (.bool (!x)) w := fun _ _ => rfl
  go_enter Tryz.func68, Tryz.ntmps68
  go_wp2_with fail
  refine (bload_any _ 0 w (cell_of_cells HB.out)).mono ?_
  rintro e w2 ⟨rfl, rfl⟩
  have h00 : ((0 : Int) != 0) = false := rfl
  rw [h00]
  go_wp2_with fail
  refine H.out.mono ?_
  rintro e w3 ⟨rfl, hr⟩
  have HR := hid hr
  clear hr
  go_wp2
  go_end0
  exact ⟨rfl, HR.out⟩

theorem doC_done (b : Nat) (l r : Int) (f fv v : Value) (w : World) (hb : w.heap[b]? = some (ceObj 1 l f v r)) :
    Calls Tryz.prog 68 #[.pointer (some ⟨b, 0, none⟩), fv] w fun e w' => e = .returned (.tuple #[]) ∧ w' = w := by
  have HB := hid hb
  clear hb
  have hnot : ∀ (x : Bool) (w : World), (Op.unary .not (.bool x)).run Tryz.prog w = .ok (.bool (!x)) w := fun _ _ => rfl
  go_enter Tryz.func68, Tryz.ntmps68
  go_wp2_with fail
  refine (bload_any _ 1 w (cell_of_cells HB.out)).mono ?_
  rintro e w2 ⟨rfl, rfl⟩
  have h00 : ((1 : Int) != 0) = true := rfl
  rw [h00]
  go_wp2
  go_end0
  exact ⟨rfl, rfl⟩

/-- What asking a cell for the first time has done: its maker's doing, and then the cell and the result's place are written. -/
def Asked (b G : Nat) (C : Array Value) (S : Nat → Prop) (P : Value → Int → World → Prop) (w w' : World) (v : Value) (r : Int) : Prop :=
  ∃ y q cs, P v r y ∧ Sav (Also S b) w y ∧ y.heap[b]? = some (ceObj 0 1 (.func (.func G) #[] C) noP 0) ∧ w.heap.size ≤ q ∧ y.heap[q]? = some (.cells cs 113 (0, 0)) ∧ Sav (fun k => k = b ∨ k = q) y w' ∧ w'.heap[b]? = some (ceObj 1 0 (.func (.func G) #[] C) v r)

theorem set_two {w : World} {q : Nat} {v1 v2 : Value} (u1 u2 : Value) (h0 : w.cell? ⟨q, 0, none⟩ = some v1) (h1 : w.cell? ⟨q, 1, none⟩ = some v2) : ((w.setCell ⟨q, 0, none⟩ u1).setCell ⟨q, 1, none⟩ u2).cell? ⟨q, 0, none⟩ = some u1 ∧ ((w.setCell ⟨q, 0, none⟩ u1).setCell ⟨q, 1, none⟩ u2).cell? ⟨q, 1, none⟩ = some u2 :=
  ⟨(World.cell?_setCell_other _ _ _ _ (by intro e; cases e)).trans (World.cell?_setCell_same _ _ _ h0), World.cell?_setCell_same _ _ _ ((World.cell?_setCell_other _ _ _ _ (by intro e; cases e)).trans h1)⟩
set_option maxHeartbeats 1600000 in
theorem getC_first (b G : Nat) (C : Array Value) (S : Nat → Prop) (P : Value → Int → World → Prop) (w : World) (hE : ∀ x, (callFunc G C).run Tryz.prog x = .ok (.enter G C) x)
    (hb : w.heap[b]? = some (ceObj 0 0 (.func (.func G) #[] C) noP 0)) (hS : ¬ S b) (hlt : ∀ k, S k → k < w.heap.size)
    (hT : ∀ x, Sav (Just b) w x → x.heap[b]? = some (ceObj 0 1 (.func (.func G) #[] C) noP 0) → Calls Tryz.prog G C x fun e y => ∃ ao n c r, e = .returned (.agg #[.slice ao n c, .int .i64 r]) ∧ Sav S x y ∧ P (.slice ao n c) r y) :
    Calls Tryz.prog 82 #[.pointer (some ⟨b, 0, none⟩)] w fun e w' => ∃ ao n c r, e = .returned (.agg #[.slice ao n c, .int .i64 r]) ∧ Asked b G C S P w w' (.slice ao n c) r := by
  have hbl := lt_of_block hb
  have hw2 : Sav (Just b) w ((w.alloc (.cells #[.pointer (some ⟨b, 0, none⟩)] 132)).alloc (.cells #[.slice none 0 0, .int .i64 0] 113)) := ((Sav.refl _ _).alloc _).alloc _
  have hb2 : ((w.alloc (.cells #[.pointer (some ⟨b, 0, none⟩)] 132)).alloc (.cells #[.slice none 0 0, .int .i64 0] 113)).heap[b]? = some (ceObj 0 0 (.func (.func G) #[] C) noP 0) := (((Sav.refl Non _).alloc _).alloc _).at hb (fun h => h)
  have hc2 : ((w.alloc (.cells #[.pointer (some ⟨b, 0, none⟩)] 132)).alloc (.cells #[.slice none 0 0, .int .i64 0] 113)).heap[w.heap.size]? = some (.cells #[.pointer (some ⟨b, 0, none⟩)] 132 (0, 0)) := ((Sav.refl Non _).alloc _).at (new_block w _) (fun h => h)
  have hq2 : ((w.alloc (.cells #[.pointer (some ⟨b, 0, none⟩)] 132)).alloc (.cells #[.slice none 0 0, .int .i64 0] 113)).heap[w.heap.size + 1]? = some (.cells #[.slice none 0 0, .int .i64 0] 113 (0, 0)) := by
    have := new_block (w.alloc (.cells #[.pointer (some ⟨b, 0, none⟩)] 132)) (.cells #[.slice none 0 0, .int .i64 0] 113)
    simpa using this
  have HD := hid (doC b w.heap.size G C S P _ hE hb2 hc2 hS (fun h => Nat.lt_irrefl _ (hlt _ h)) (fun x hx hxb => hT x (hw2.trans hx) hxb))
  have HW2 := hid hw2
  have HC2 := hid hc2
  have HQ2 := hid hq2
  have HLT := hid hlt
  have HS := hid hS
  clear hw2 hb2 hc2 hq2 hT hS hlt hb hE
  go_enter Tryz.func82, Tryz.ntmps82
  go_wp2_with fail
  refine HD.out.mono ?_
  rintro e w3 ⟨rfl, ao, n, c, r, y, hp, hsy, hyb, hs3, hb3⟩
  have hq3 := hsy.at HQ2.out (fun h => h.elim (fun h => by have := HLT.out _ h; omega) (fun h => by omega))
  have hc3 := hsy.at HC2.out (fun h => h.elim (fun h => by have := HLT.out _ h; omega) (fun h => by omega))
  have hq4 := hs3.at hq3 (fun h => by unfold Just at h; omega)
  have hc4 := hs3.at hc3 (fun h => by unfold Just at h; omega)
  have x0 : w3.cell? ⟨w.heap.size, 0, none⟩ = some (.pointer (some ⟨b, 0, none⟩)) := cell_of_cells hc4
  have x4 : w3.cell? ⟨b, 4, none⟩ = some (.slice ao n c) := cell_of_cells hb3
  have x5 : w3.cell? ⟨b, 5, none⟩ = some (.int .i64 r) := cell_of_cells hb3
  have q0 : w3.cell? ⟨w.heap.size + 1, 0, none⟩ = some (.slice none 0 0) := cell_of_cells hq4
  have q1 : w3.cell? ⟨w.heap.size + 1, 1, none⟩ = some (.int .i64 0) := cell_of_cells hq4
  have z0 : w3.frozen? ⟨w.heap.size + 1, 0, none⟩ = false := free_of_cells hq4
  have z1 : w3.frozen? ⟨w.heap.size + 1, 1, none⟩ = false := free_of_cells hq4
  have hne : b ≠ w.heap.size + 1 := by omega
  have hA : ∀ u1 u2, Asked b G C S P w ((w3.setCell ⟨w.heap.size + 1, 0, none⟩ u1).setCell ⟨w.heap.size + 1, 1, none⟩ u2) (.slice ao n c) r := fun u1 u2 =>
    ⟨y, w.heap.size + 1, _, hp, (HW2.out.mono (fun _ _ h => Or.inr h)).trans hsy, hyb, by omega, hq3, ((hs3.mono (T := fun k => k = b ∨ k = w.heap.size + 1) (fun _ _ h => Or.inl h)).setCell (b := w.heap.size + 1) (.inr rfl) 0 u1).setCell (b := w.heap.size + 1) (.inr rfl) 1 u2, (((Sav.refl (fun k => k = w.heap.size + 1) _).setCell rfl 0 u1).setCell rfl 1 u2).at hb3 hne⟩
  have HA := hid hA
  have HE := hid (set_two (.slice ao n c) (.int .i64 r) q0 q1)
  clear hA hp hsy hyb hs3 hb3 hq3 hc3 hq4 hc4 HD HW2 HC2 HQ2 HLT HS
  go_wp2
  have HA2 := hid (HA.out (.slice ao n c) (.int .i64 r))
  clear HA
  generalize (w3.setCell ⟨w.heap.size + 1, 0, none⟩ (.slice ao n c)).setCell ⟨w.heap.size + 1, 1, none⟩ (.int .i64 r) = w5 at HE HA2 ⊢
  have e0 := HE.out.1
  have e1 := HE.out.2
  refine bodyPost_ret (by simp [results, Tryz.results82, go_sem, e0, e1]; try rfl) rfl ?_
  exact ⟨ao, n, c, r, rfl, HA2.out⟩

theorem alloc_oneC (w : World) (o : Obj) : Below w.heap.size w (w.alloc o) := (Below.refl _ w).alloc (Nat.le_refl _) o
/-- From then on. -/
theorem getC_done (b : Nat) (l : Int) (f : Value) (ao : Option Addr) (n c : Nat) (r : Int) (w : World) (hb : w.heap[b]? = some (ceObj 1 l f (.slice ao n c) r)) :
    Calls Tryz.prog 82 #[.pointer (some ⟨b, 0, none⟩)] w fun e w' => e = .returned (.agg #[.slice ao n c, .int .i64 r]) ∧ Below w.heap.size w w' := by
  have hbl := lt_of_block hb
  have hb2 : ((w.alloc (.cells #[.pointer (some ⟨b, 0, none⟩)] 132)).alloc (.cells #[.slice none 0 0, .int .i64 0] 113)).heap[b]? = some (ceObj 1 l f (.slice ao n c) r) := (((Sav.refl Non _).alloc _).alloc _).at hb (fun h => h)
  have H := hid (fun fv => doC_done b l r f fv (.slice ao n c) _ hb2)
  have HB2 := hid hb2
  have c4 : ((w.alloc (.cells #[.pointer (some ⟨b, 0, none⟩)] 132)).alloc (.cells #[.slice none 0 0, .int .i64 0] 113)).cell? ⟨b, 4, none⟩ = some (.slice ao n c) := cell_of_cells hb2
  have c5 : ((w.alloc (.cells #[.pointer (some ⟨b, 0, none⟩)] 132)).alloc (.cells #[.slice none 0 0, .int .i64 0] 113)).cell? ⟨b, 5, none⟩ = some (.int .i64 r) := cell_of_cells hb2
  clear hb hb2
  go_enter Tryz.func82, Tryz.ntmps82
  go_wp2_with fail
  refine (H.out _).mono ?_
  rintro e w3 ⟨rfl, rfl⟩
  go_wp2
  go_returns
  exact ⟨rfl, (alloc_oneC _ _).trans ((alloc_oneC _ _).mono (by simp))⟩
end Go.Proofs.YtfimoobgbodbmaaGreatDoor
/-! What holds of a job's outputs while they are asked for: cells that are fresh, or have what they must, and which worlds keep that. -/
namespace Go.Proofs.YtfimoobgbodbmaaGreatDoor
open Go.RowKit Go.Lib
set_option linter.unusedVariables false
set_option maxRecDepth 100000

/-- Where a job's lists lie. -/
structure SlJ where
  so : Option Addr
  mo : Option Addr
  co : Option Addr
  ro : Option Addr
  ko : Option Addr
  sc : Nat
  mc : Nat
  cc : Nat
  rc : Nat
  kc : Nat
/-- A job that may be, and all that is known of what comes in. -/
structure Given (wB : World) (s : SlJ) (j : JobV) : Prop where
  job : JobIs wB s.so s.mo s.co s.ro s.ko s.sc s.mc s.cc s.rc s.kc j
  fit : JobFit j
  may : mayJ j = true
  tabs : Tabs wB
/-- What a job that may be is. -/
structure MayIs (j : JobV) : Prop where
  sp : j.splits.length ≤ 6
  p1 : 1 ≤ j.parts
  p4 : j.parts ≤ 4
  mp : bad j.mp < 0
  cb : bad j.cb < 0
  rd : bad j.rd < 0
  recs : ∀ l ∈ j.splits, l.length ≤ 8 ∧ ∀ x ∈ l, x.1.size ≤ 16 ∧ x.2.size ≤ 64
  f1 : 1 ≤ j.fuel
  f2 : j.fuel ≤ 2000
theorem mayIs {j : JobV} (h : mayJ j = true) : MayIs j := by
  unfold mayJ at h
  simp only [Bool.and_eq_true, decide_eq_true_eq, inI_iff] at h
  obtain ⟨⟨⟨⟨⟨⟨⟨⟨⟨⟨⟨⟨h1, h2⟩, h3⟩, h4⟩, h5⟩, h6⟩, h7⟩, h8⟩, h9⟩, h10⟩, h11⟩, h12⟩, h13⟩ := h
  refine ⟨by omega, h2.1, h2.2, h5, h6, h7, fun l hl => ?_, h11.1, h11.2⟩
  have := List.all_eq_true.1 h8 l hl
  unfold splitJ at this
  simp only [Bool.and_eq_true, decide_eq_true_eq, List.all_eq_true] at this
  refine ⟨this.1, fun x hx => ?_⟩
  have := this.2 x hx
  unfold okJ at this
  simpa using this
theorem bad_short {l : List Inst} (h : bad l < 0) : l.length ≤ 40 := ((may_iff l).1 h).1

/-- The object. -/
abbrev ouObj (s : SlJ) (j : JobV) (vs vp : Value) : Obj := .cells #[.slice s.so j.splits.length s.sc, .int .i64 j.parts, .slice s.mo j.mp.length s.mc, .slice s.co j.cb.length s.cc, .slice s.ro j.rd.length s.rc, .int .i64 j.chunk, .int .i64 j.window, .int .i64 j.fuel, .slice s.ko j.marks.length s.kc, vs, vp] 130 (0, 0)
abbrev pt (b : Nat) : Value := .pointer (some ⟨b, 0, none⟩)
/-- A cell's maker. -/
abbrev clo (ib fb : Nat) : Value := .func (.func 98) #[] #[pt fb, pt ib]
/-- A method of the object at O, as a value. -/
abbrev mth (F O : Nat) : Value := .func (.func F) #[pt O] #[]
/-- What is told: pairs with memory of their own, and a reason. -/
def Tells (B : Nat) (R : List KV × Int) (v : Value) (r : Int) (w : World) : Prop := r = R.2 ∧ w.ownsRow B 105 2 v R.1.length (fl encP R.1)
/-- A cell: fresh, or it has what it must. -/
def CellAt (B : Nat) (fv : Value) (k : Nat) (R : List KV × Int) (b : Nat) (w : World) : Prop :=
  ∃ ib fb, w.heap[ib]? = some (.cells #[.int .i64 k] 3 (0, 0)) ∧ w.heap[fb]? = some (.cells #[fv] 114 (0, 0)) ∧
    (w.heap[b]? = some (ceObj 0 0 (clo ib fb) noP 0) ∨ ∃ ao c, w.heap[b]? = some (ceObj 1 0 (clo ib fb) (.slice ao R.1.length c) R.2) ∧ w.ownsRow B 105 2 (.slice ao R.1.length c) R.1.length (fl encP R.1))
/-- Blocks that may turn with no harm to what is known: lists of lists, answers' places, cells beside those. -/
def Calm (B : Nat) (bs : List Nat) (w : World) (U : Nat → Prop) : Prop := ∀ k, k < w.heap.size → U k → B ≤ k ∧ ∃ cs t, w.heap[k]? = some (.cells cs t (0, 0)) ∧ (t = 51 ∨ t = 113 ∨ (t = 146 ∧ k ∉ bs))
theorem Calm.at {B : Nat} {bs : List Nat} {w w' : World} {U : Nat → Prop} (hU : Calm B bs w U) (hs : Sav U w w') {x : Nat} {cs : Array Value} {t : TypeId} (h : w.heap[x]? = some (.cells cs t (0, 0))) (h1 : t ≠ 51) (h2 : t ≠ 113) (h3 : t = 146 → x ∈ bs) : w'.heap[x]? = some (.cells cs t (0, 0)) := by
  refine hs.at h fun hu => ?_
  obtain ⟨_, cs', t', h', ht⟩ := hU x (lt_of_block h) hu
  rw [h] at h'
  cases h'
  rcases ht with e | e | ⟨e, hn⟩
  · exact h1 e
  · exact h2 e
  · exact hn (h3 e)
theorem Calm.owns {B : Nat} {bs : List Nat} {w w' : World} {U : Nat → Prop} (hU : Calm B bs w U) (hs : Sav U w w') {C e s n : Nat} {v : Value} {xs : List Value} (h : w.ownsRow C e s v n xs) (h1 : e ≠ 51) (h2 : e ≠ 113) (h3 : e ≠ 146) : w'.ownsRow C e s v n xs := by
  refine ⟨h.1, ?_⟩
  rcases h.2 with h0 | ⟨g, cap, cur, hv, hb, hh, r⟩
  · exact .inl h0
  · exact .inr ⟨g, cap, cur, hv, hb, hU.at hs hh h1 h2 (fun e => absurd e h3), r⟩
theorem Calm.mono {B : Nat} {bs cs : List Nat} {w : World} {U : Nat → Prop} (h : Calm B bs w U) (hc : ∀ x ∈ cs, x ∈ bs) : Calm B cs w U := by
  intro k hk hu
  obtain ⟨h1, c, t, h2, h3⟩ := h k hk hu
  exact ⟨h1, c, t, h2, h3.imp id (Or.imp id (fun q => ⟨q.1, fun hn => q.2 (hc k hn)⟩))⟩
theorem calm_non (B : Nat) (bs : List Nat) (w : World) : Calm B bs w Non := fun k _ h => h.elim
theorem calm_two {B : Nat} {bs : List Nat} {w : World} {b q : Nat} {cs ds : Array Value} (hB : B ≤ b) (hq : B ≤ q) (h : w.heap[b]? = some (.cells cs 146 (0, 0))) (hn : b ∉ bs) (h2 : w.heap[q]? = some (.cells ds 113 (0, 0))) : Calm B bs w (fun k => k = b ∨ k = q) := by
  rintro k hk (rfl | rfl)
  · exact ⟨hB, cs, _, h, .inr (.inr ⟨rfl, hn⟩)⟩
  · exact ⟨hq, ds, _, h2, .inr (.inl rfl)⟩
theorem calm_one {B : Nat} {bs : List Nat} {w : World} {b : Nat} {cs : Array Value} (hB : B ≤ b) (h : w.heap[b]? = some (.cells cs 146 (0, 0))) (hn : b ∉ bs) : Calm B bs w (Just b) := by
  rintro k hk rfl
  exact ⟨hB, cs, _, h, .inr (.inr ⟨rfl, hn⟩)⟩
theorem calm_out {B : Nat} {bs : List Nat} {w : World} {q : Nat} {cs : Array Value} (hB : B ≤ q) (h : w.heap[q]? = some (.cells cs 113 (0, 0))) : Calm B bs w (Just q) := by
  rintro k hk rfl
  exact ⟨hB, cs, _, h, .inr (.inl rfl)⟩
theorem CellAt.sav {B : Nat} {fv : Value} {k b : Nat} {R : List KV × Int} {w w' : World} {U : Nat → Prop} {bs : List Nat} (h : CellAt B fv k R b w) (hU : Calm B bs w U) (hs : Sav U w w') (hb : b ∈ bs) : CellAt B fv k R b w' := by
  obtain ⟨ib, fb, h1, h2, h3⟩ := h
  refine ⟨ib, fb, hU.at hs h1 (by decide) (by decide) (fun e => absurd e (by decide)), hU.at hs h2 (by decide) (by decide) (fun e => absurd e (by decide)), ?_⟩
  rcases h3 with h3 | ⟨ao, c, h3, h4⟩
  · exact .inl (hU.at hs h3 (by decide) (by decide) (fun _ => hb))
  · exact .inr ⟨ao, c, hU.at hs h3 (by decide) (by decide) (fun _ => hb), hU.owns hs h4 (by decide) (by decide) (by decide)⟩
theorem CellAt.block {B : Nat} {fv : Value} {k b : Nat} {R : List KV × Int} {w : World} (h : CellAt B fv k R b w) : ∃ cs, w.heap[b]? = some (.cells cs 146 (0, 0)) := by
  obtain ⟨ib, fb, h1, h2, h3 | ⟨ao, c, h3, h4⟩⟩ := h
  · exact ⟨_, h3⟩
  · exact ⟨_, h3⟩
/-- What all splits come to; what all parts do. -/
def splitsD (j : JobV) : List (List KV × Int) := j.splits.map (splitL j.mp j.cb j.fuel)
def partD (j : JobV) (p : Int) : List KV × Int := partOfL j.rd j.fuel j.parts p (splitsD j)
def partsD (j : JobV) : List (List KV × Int) := (List.range j.parts.toNat).map fun (p : Nat) => partD j p
/-- A list of cells. -/
structure Cells (B : Nat) (fv : Value) (Rs : List (List KV × Int)) (u : Value) (bs : List Nat) (w : World) : Prop where
  len : bs.length = Rs.length
  row : w.ownsRow B 132 1 u bs.length (bs.map pt)
  cells : ∀ (k b : Nat) (R : List KV × Int), bs[k]? = some b → Rs[k]? = some R → CellAt B fv k R b w
theorem Cells.sav {B : Nat} {fv u : Value} {Rs : List (List KV × Int)} {bs cs : List Nat} {w w' : World} {U : Nat → Prop} (h : Cells B fv Rs u bs w) (hU : Calm B cs w U) (hs : Sav U w w') (hb : ∀ b ∈ bs, b ∈ cs) : Cells B fv Rs u bs w' :=
  ⟨h.len, hU.owns hs h.row (by decide) (by decide) (by decide), fun k b R hk hR => (h.cells k b R hk hR).sav hU hs (hb b (List.mem_of_getElem? hk))⟩
/-- One cell has turned, to what it must be. -/
theorem Cells.turn {B : Nat} {fv u : Value} {Rs : List (List KV × Int)} {bs : List Nat} {w w' : World} {U : Nat → Prop} (h : Cells B fv Rs u bs w) {k b : Nat} {R : List KV × Int} (hk : bs[k]? = some b) (hR : Rs[k]? = some R) (hU : ∀ cs, b ∉ cs → (∀ x ∈ cs, x ∈ bs) → Calm B cs w U) (hs : Sav U w w') (hd : bs.Nodup) (hn : CellAt B fv k R b w') : Cells B fv Rs u bs w' := by
  refine ⟨h.len, (hU [] (by simp) (by simp)).owns hs h.row (by decide) (by decide) (by decide), fun i c Q hi hQ => ?_⟩
  by_cases e : i = k
  · subst e
    rw [hk] at hi
    cases hi
    rw [hR] at hQ
    cases hQ
    exact hn
  · have hne : b ≠ c := by
      rintro rfl
      obtain ⟨h1, e1⟩ := List.getElem?_eq_some_iff.1 hk
      obtain ⟨h2, e2⟩ := List.getElem?_eq_some_iff.1 hi
      exact e ((List.getElem_inj hd).1 (e2.trans e1.symm))
    exact (h.cells i c Q hi hQ).sav (hU [c] (by simpa using hne) (by simpa using List.mem_of_getElem? hi)) hs (by simp)
/-- The outputs, but for the cells of parts. -/
structure Outs (wB : World) (s : SlJ) (j : JobV) (O : Nat) (vs vp : Value) (bs ps : List Nat) (w : World) : Prop where
  below : Below wB.heap.size wB w
  obj : w.heap[O]? = some (ouObj s j vs vp)
  cs : Cells wB.heap.size (mth 79 O) (splitsD j) vs bs w
  nd : (bs ++ ps).Nodup
  old : ∀ b ∈ bs ++ ps, wB.heap.size ≤ b
theorem sav_below {wB w w' : World} {B : Nat} {bs : List Nat} {U : Nat → Prop} (h : Below B wB w) (hU : Calm B bs w U) (hs : Sav U w w') (hB : B ≤ wB.heap.size) : Below B wB w' :=
  ⟨hs.os.trans h.os, hs.tape.trans h.tape, hs.output.trans h.output, Nat.le_trans h.size hs.size, fun k hk => by
    have hk2 : k < w.heap.size := by have := h.size; omega
    exact (hs.block k hk2 fun hu => by have := (hU k hk2 hu).1; omega).trans (h.block k hk)⟩
theorem Outs.sav {wB : World} {s : SlJ} {j : JobV} {O : Nat} {vs vp : Value} {bs ps : List Nat} {w w' : World} {U : Nat → Prop} (h : Outs wB s j O vs vp bs ps w) (hU : Calm wB.heap.size bs w U) (hs : Sav U w w') : Outs wB s j O vs vp bs ps w' :=
  ⟨sav_below h.below hU hs (Nat.le_refl _), hU.at hs h.obj (by decide) (by decide) (fun e => absurd e (by decide)), h.cs.sav hU hs (fun _ h => h), h.nd, h.old⟩
theorem Outs.on {wB : World} {s : SlJ} {j : JobV} {O : Nat} {vs vp : Value} {bs ps : List Nat} {w w' : World} (h : Outs wB s j O vs vp bs ps w) (hb : Below w.heap.size w w') : Outs wB s j O vs vp bs ps w' := h.sav (calm_non _ _ _) (Sav.of_below hb)
/-- The outputs, cells of parts too. -/
structure Alls (wB : World) (s : SlJ) (j : JobV) (O : Nat) (vs vp : Value) (bs ps : List Nat) (w : World) : Prop where
  outs : Outs wB s j O vs vp bs ps w
  ps : Cells wB.heap.size (mth 80 O) (partsD j) vp ps w
theorem Alls.sav {wB : World} {s : SlJ} {j : JobV} {O : Nat} {vs vp : Value} {bs ps : List Nat} {w w' : World} {U : Nat → Prop} (h : Alls wB s j O vs vp bs ps w) (hU : Calm wB.heap.size (bs ++ ps) w U) (hs : Sav U w w') : Alls wB s j O vs vp bs ps w' :=
  ⟨h.outs.sav (hU.mono fun x hx => List.mem_append_left _ hx) hs, h.ps.sav hU hs fun x hx => List.mem_append_right _ hx⟩
theorem Alls.on {wB : World} {s : SlJ} {j : JobV} {O : Nat} {vs vp : Value} {bs ps : List Nat} {w w' : World} (h : Alls wB s j O vs vp bs ps w) (hb : Below w.heap.size w w') : Alls wB s j O vs vp bs ps w' := h.sav (calm_non _ _ _) (Sav.of_below hb)
theorem Tells.sav {B C : Nat} {R : List KV × Int} {v : Value} {r : Int} {w w' : World} {bs : List Nat} {U : Nat → Prop} (h : Tells B R v r w) (hU : Calm C bs w U) (hs : Sav U w w') : Tells B R v r w' := ⟨h.1, hU.owns hs h.2 (by decide) (by decide) (by decide)⟩
end Go.Proofs.YtfimoobgbodbmaaGreatDoor
/-! New cells: a row of them, fresh; what the maker of one does. -/
namespace Go.Proofs.YtfimoobgbodbmaaGreatDoor
open Go.RowKit Go.Lib
set_option linter.unusedVariables false
set_option maxRecDepth 100000

theorem Tryz.infoC : (Tryz.prog.info? 132).map (fun i => (i.zero, i.size, i.bytes)) = some (some (.pointer none), 1, 8) := by kernel_rfl
def FreshAt (fv : Value) (k b : Nat) (w : World) : Prop :=
  ∃ ib fb, w.heap[ib]? = some (.cells #[.int .i64 k] 3 (0, 0)) ∧ w.heap[fb]? = some (.cells #[fv] 114 (0, 0)) ∧ w.heap[b]? = some (ceObj 0 0 (clo ib fb) noP 0)
theorem FreshAt.below {fv : Value} {k b : Nat} {w w' : World} (h : FreshAt fv k b w) (hb : Below w.heap.size w w') : FreshAt fv k b w' := by
  obtain ⟨ib, fb, h1, h2, h3⟩ := h
  exact ⟨ib, fb, (hb.block ib (lt_of_block h1)).trans h1, (hb.block fb (lt_of_block h2)).trans h2, (hb.block b (lt_of_block h3)).trans h3⟩
theorem heap_grown {w w' : World} {x : Nat} {cs : Array Value} {t : TypeId} {base e s n : Nat} {v : Value} {xs : List Value} (h : w.heap[x]? = some (.cells cs t (0, 0))) (ho : w.ownsRow base e s v n xs) (ht : t ≠ e) (hg : w.grownBy w' v.ownBlock) : w'.heap[x]? = some (.cells cs t (0, 0)) :=
  (hg.block x (lt_of_block h) (Ne.symm (owns_off ho h ht))).trans h
theorem FreshAt.grown {fv : Value} {k b : Nat} {w w' : World} {base n : Nat} {v : Value} {xs : List Value} (h : FreshAt fv k b w) (ho : w.ownsRow base 132 1 v n xs) (hg : w.grownBy w' v.ownBlock) : FreshAt fv k b w' := by
  obtain ⟨ib, fb, h1, h2, h3⟩ := h
  exact ⟨ib, fb, heap_grown h1 ho (by decide) hg, heap_grown h2 ho (by decide) hg, heap_grown h3 ho (by decide) hg⟩
theorem FreshAt.cell {fv : Value} {k b : Nat} {w : World} (h : FreshAt fv k b w) (B : Nat) (R : List KV × Int) : CellAt B fv k R b w := by
  obtain ⟨ib, fb, h1, h2, h3⟩ := h
  exact ⟨ib, fb, h1, h2, .inl h3⟩
/-- A row of fresh cells. -/
structure FreshRow (fv : Value) (w : World) (u : Value) (bs : List Nat) (w' : World) : Prop where
  row : w'.ownsRow w.heap.size 132 1 u bs.length (bs.map pt)
  below : Below w.heap.size w w'
  nd : bs.Nodup
  old : ∀ b ∈ bs, w.heap.size ≤ b ∧ b < w'.heap.size
  cells : ∀ (k b : Nat), bs[k]? = some b → FreshAt fv k b w'
theorem FreshRow.nil (fv : Value) {w w' : World} (h : Below w.heap.size w w') : FreshRow fv w (.slice none 0 0) [] w' := ⟨World.ownsRow_nil _ _ _ _, h, List.nodup_nil, fun b hb => by simp at hb, fun k b h => by simp at h⟩
theorem FreshRow.on {fv : Value} {w w1 w2 : World} {u : Value} {bs : List Nat} (h : FreshRow fv w u bs w1) (hb : Below w1.heap.size w1 w2) : FreshRow fv w u bs w2 :=
  ⟨owns_below h.row hb, below_then h.below hb h.below.size, h.nd, fun b hm => ⟨(h.old b hm).1, Nat.lt_of_lt_of_le (h.old b hm).2 hb.size⟩, fun k b hk => (h.cells k b hk).below hb⟩
/-- One cell more. -/
theorem FreshRow.more {fv : Value} {w w1 w2 w3 : World} {u u' : Value} {bs : List Nat} {b : Nat} (h : FreshRow fv w u bs w1) (hb : Below w1.heap.size w1 w2) (hn : w1.heap.size ≤ b) (hlt : b < w2.heap.size) (hf : FreshAt fv bs.length b w2) (h' : w3.ownsRow w.heap.size 132 1 u' (bs.length + 1) (bs.map pt ++ [pt b])) (hg : w2.grownBy w3 u.ownBlock) : FreshRow fv w u' (bs ++ [b]) w3 := by
  have h2 := h.on hb
  have hsz := hg.size
  refine ⟨by simpa using h', h2.below.grown hg h2.below.size (fun q hq => owns_base h2.row hq), ?_, fun c hc => ?_, fun k c hk => ?_⟩
  · rw [List.nodup_append]
    refine ⟨h.nd, by simp, fun x hx y hy => ?_⟩
    simp at hy
    subst hy
    have := (h.old x hx).2
    omega
  · rcases List.mem_append.1 hc with hc | hc
    · exact ⟨(h2.old c hc).1, Nat.lt_of_lt_of_le (h2.old c hc).2 hsz⟩
    · simp at hc
      subst hc
      exact ⟨Nat.le_trans h.below.size hn, Nat.lt_of_lt_of_le hlt hsz⟩
  · by_cases e : k < bs.length
    · rw [List.getElem?_append_left e] at hk
      exact (h2.cells k c hk).grown h2.row hg
    · have hk2 := (List.getElem?_eq_some_iff.1 hk).1
      simp at hk2
      obtain rfl : k = bs.length := by omega
      simp at hk
      subst hk
      exact hf.grown h2.row hg

set_option maxHeartbeats 4000000 in
theorem newCells_any (F O : Nat) (n : Nat) (hn : n ≤ 1000) (w : World) :
    Calls Tryz.prog 78 #[.int .i64 n, mth F O] w fun e w' => ∃ u bs, e = .returned u ∧ bs.length = n ∧ FreshRow (mth F O) w u bs w' := by
  obtain ⟨i0, hi, hz0, hz1, hz2⟩ := info_parts Tryz.infoC
  have hF0 := hid (new_block w (.cells #[mth F O] 114))
  have hR0 := hid (FreshRow.nil (mth F O) (alloc_oneC w (.cells #[mth F O] 114)))
  go_enter Tryz.func78, Tryz.ntmps78
  go_wp2
  go_loopw [5, 8] (fun u i wr => ∃ bs : List Nat, bs.length ≤ n ∧ i = .int .i64 bs.length ∧ FreshRow (mth F O) w u bs wr ∧ wr.heap[w.heap.size]? = some (.cells #[mth F O] 114 (0, 0))) (fun _ i _ => n - (intOf i).toNat)
  case atStart => exact ⟨[], by simp, rfl, hR0.out, hF0.out⟩
  case round =>
    obtain ⟨bs, hk, rfl, hfr, hfb⟩ := hrel
    have HFR := hid hfr
    have HFB := hid hfb
    clear hfr hfb
    by_cases hlt : bs.length < n
    · have d1 : decide ((bs.length : Int) < (n : Int)) = true := by simp; omega
      go_wp2_with fail
      refine (newCell_fn _ _ _ _).mono ?_
      rintro e w3 ⟨rfl, rfl⟩
      have hib := new_block wr (.cells #[.int .i64 bs.length] 3)
      have hcb := new_block (wr.alloc (.cells #[.int .i64 bs.length] 3)) (ceObj 0 0 (clo wr.heap.size w.heap.size) noP 0)
      have b2 : Below wr.heap.size wr ((wr.alloc (.cells #[.int .i64 bs.length] 3)).alloc (ceObj 0 0 (clo wr.heap.size w.heap.size) noP 0)) := below_then (alloc_oneC _ _) (alloc_oneC _ _) (by simp)
      have hib2 := ((Sav.refl Non (wr.alloc (.cells #[.int .i64 bs.length] 3))).alloc (ceObj 0 0 (clo wr.heap.size w.heap.size) noP 0)).at hib (fun h => h)
      have hfb2 := (b2.block _ (lt_of_block HFB.out)).trans HFB.out
      have hfr2 := HFR.out.on b2
      have hsz2 : ((wr.alloc (.cells #[.int .i64 bs.length] 3)).alloc (ceObj 0 0 (clo wr.heap.size w.heap.size) noP 0)).heap.size = wr.heap.size + 2 := by simp
      have hfa : FreshAt (mth F O) bs.length (wr.heap.size + 1) ((wr.alloc (.cells #[.int .i64 bs.length] 3)).alloc (ceObj 0 0 (clo wr.heap.size w.heap.size) noP 0)) := ⟨wr.heap.size, w.heap.size, hib2, hfb2, by simpa using hcb⟩
      generalize hW : (wr.alloc (.cells #[.int .i64 bs.length] 3)).alloc (ceObj 0 0 (clo wr.heap.size w.heap.size) noP 0) = w3 at b2 hib2 hfb2 hfr2 hsz2 hfa ⊢
      simp only [World.alloc, Array.size_push] at hfa ⊢
      have HB2 := hid b2
      have HFB2 := hid hfb2
      have HFR2 := hid hfr2
      have HFA := hid hfa
      have hszw := HFR2.out.below.size
      clear hW hib hcb b2 hib2 hfb2 hfr2 hfa
      go_wp2_with (at_builtin; refine wpList_append_own _ rfl _ _ 128 rfl w.heap.size 132 i0 (.pointer none) 1 8 Tryz.underlying128 hi hz0 hz1 hz2 rfl (by decide) _ bs.length _ rfl (HFR2.out.row.alloc _) ⟨wr.heap.size + 2, 0, none⟩ 1 1 [pt (wr.heap.size + 1)] rfl rfl (by rw [← hsz2]; exact one_new _ _ _) (by intro u hu; simp at hu; subst hu; rfl) (by unfold maxLen; omega) (by omega) (by simp; omega) ?_; intro v4 w4 ho4 hg4 _)
      have HN := hid (HFR.out.more (HB2.out.trans ((alloc_oneC w3 _).mono HB2.out.size)) (b := wr.heap.size + 1) (by omega) (by simp; omega) (HFA.out.below (alloc_oneC _ _)) ho4 hg4)
      have HFB4 := hid (heap_grown (((alloc_oneC w3 (.cells #[pt (wr.heap.size + 1)] 132)).block _ (lt_of_block HFB2.out)).trans HFB2.out) (HFR2.out.row.alloc _) (by decide) hg4)
      clear ho4 hg4 HFR HFB HB2 HFB2 HFR2 HFA
      go_wp2
      go_roundw
      case rel => exact ⟨bs ++ [wr.heap.size + 1], by simp; omega, by simp, HN.out, HFB4.out⟩
      case measure => simp [intOf]; omega
    · obtain rfl : bs.length = n := by omega
      have d1 : decide ((bs.length : Int) < (bs.length : Int)) = false := by simp
      go_wp2
      go_ret
      exact ⟨_, bs, rfl, rfl, HFR.out⟩
end Go.Proofs.YtfimoobgbodbmaaGreatDoor
/-! A cell's maker calls the method that it was made of; a cell that is asked tells what it must, and stays so. -/
namespace Go.Proofs.YtfimoobgbodbmaaGreatDoor
open Go.RowKit Go.Lib
set_option linter.unusedVariables false
set_option maxRecDepth 100000

/-- An output is answered. -/
def Answers (S : Nat → Prop) (P : Value → Int → World → Prop) (x : World) (e : Ending) (y : World) : Prop := ∃ ao n c r, e = .returned (.agg #[.slice ao n c, .int .i64 r]) ∧ Sav S x y ∧ P (.slice ao n c) r y
/-- What was told stays told when an answer's place is written. -/
def Firm (P : Value → Int → World → Prop) (B : Nat) : Prop := ∀ v r y y' q cs, B ≤ q → y.heap[q]? = some (.cells cs 113 (0, 0)) → Sav (Just q) y y' → P v r y → P v r y'

set_option maxHeartbeats 2000000 in
theorem makeC (F O ib fb k : Nat) (S : Nat → Prop) (P : Value → Int → World → Prop) (x : World) (hib : x.heap[ib]? = some (.cells #[.int .i64 k] 3 (0, 0))) (hfb : x.heap[fb]? = some (.cells #[mth F O] 114 (0, 0)))
    (hE : ∀ c y, (callFunc F c).run Tryz.prog y = .ok (.enter F c) y) (hS : ∀ k, S k → k < x.heap.size) (hP : Firm P x.heap.size)
    (hT : ∀ x', Below x.heap.size x x' → Calls Tryz.prog F #[pt O, .int .i64 k] x' (Answers S P x')) :
    Calls Tryz.prog 98 #[pt fb, pt ib] x (Answers S P x) := by
  have hb1 := alloc_oneC x (.cells #[.slice none 0 0, .int .i64 0] 113)
  have hn1 := new_block x (.cells #[.slice none 0 0, .int .i64 0] 113)
  have ci : x.cell? ⟨ib, 0, none⟩ = some (.int .i64 k) := cell_of_cells hib
  have cf : x.cell? ⟨fb, 0, none⟩ = some (mth F O) := cell_of_cells hfb
  have ni := lt_of_block hib
  have nf := lt_of_block hfb
  have ci1 := (hb1.cell (p := ⟨ib, 0, none⟩) ni).trans ci
  have cf1 := (hb1.cell (p := ⟨fb, 0, none⟩) nf).trans cf
  have HT := hid (hT _ hb1)
  have HP := hid hP
  have HS := hid hS
  have HB1 := hid hb1
  have HN1 := hid hn1
  have hE2 := hE #[pt O, .int .i64 k]
  clear hT hP hS hb1 hn1 hib hfb ci cf
  go_enter Tryz.func98, Tryz.ntmps98
  go_wp2_with fail
  refine HT.out.mono ?_
  rintro e y ⟨ao, n, c, r, rfl, hs, hp⟩
  have hny := hs.at HN1.out (fun h => by have := HS.out _ h; omega)
  have q0 : y.cell? ⟨x.heap.size, 0, none⟩ = some (.slice none 0 0) := cell_of_cells hny
  have q1 : y.cell? ⟨x.heap.size, 1, none⟩ = some (.int .i64 0) := cell_of_cells hny
  have z0 : y.frozen? ⟨x.heap.size, 0, none⟩ = false := free_of_cells hny
  have z1 : y.frozen? ⟨x.heap.size, 1, none⟩ = false := free_of_cells hny
  have HE := hid (set_two (.slice ao n c) (.int .i64 r) q0 q1)
  have HPN := hid (HP.out (.slice ao n c) r y _ x.heap.size _ (Nat.le_refl _) hny (((Sav.refl (Just x.heap.size) y).setCell (just _) 0 (.slice ao n c)).setCell (just _) 1 (.int .i64 r)) hp)
  have HSV := hid (((Sav.of_below (S := S) HB1.out).trans hs).trans (Sav.refl S y) |>.setNew (b := x.heap.size) (Nat.le_refl _) 0 (.slice ao n c) |>.setNew (b := x.heap.size) (Nat.le_refl _) 1 (.int .i64 r))
  clear hs hp hny HT HP HS HB1 HN1
  go_wp2
  generalize (y.setCell ⟨x.heap.size, 0, none⟩ (.slice ao n c)).setCell ⟨x.heap.size, 1, none⟩ (.int .i64 r) = w5 at HE HPN HSV ⊢
  have e0 := HE.out.1
  have e1 := HE.out.2
  refine bodyPost_ret (by simp [results, Tryz.results98, go_sem, e0, e1]; try rfl) rfl ?_
  exact ⟨ao, n, c, r, rfl, HSV.out, HPN.out⟩

/-- What lies behind: nothing old has turned, or the cell and an answer's place. -/
def Late (B b : Nat) (y w' : World) : Prop := Below y.heap.size y w' ∨ ∃ q cs ds, B ≤ q ∧ y.heap[b]? = some (.cells cs 146 (0, 0)) ∧ y.heap[q]? = some (.cells ds 113 (0, 0)) ∧ Sav (fun k => k = b ∨ k = q) y w'
theorem enterF {F : Nat} {fn : Func} (hf : Tryz.prog.funcs[F]? = some fn) (hn : (fn.name == "runtime.NumGoroutine") = false) (hb : fn.body.isNone = false) : ∀ c y, (callFunc F c).run Tryz.prog y = .ok (.enter F c) y := fun c y => enter_any hf hn hb c y

set_option maxHeartbeats 1000000 in
/-- A cell that is asked. -/
theorem ask_any (B F O k b : Nat) (R : List KV × Int) (S : Nat → Prop) (P2 : World → Prop) (w : World) (h : CellAt B (mth F O) k R b w) (hB : B ≤ w.heap.size) (hBb : B ≤ b) (hE : ∀ c y, (callFunc F c).run Tryz.prog y = .ok (.enter F c) y) (hS : ¬ S b) (hSt : ∀ k, S k → ∃ cs, w.heap[k]? = some (.cells cs 146 (0, 0)))
    (hP2 : ∀ y y' q cs, B ≤ q → y.heap[q]? = some (.cells cs 113 (0, 0)) → Sav (Just q) y y' → P2 y → P2 y')
    (hT : ∀ x, Sav (Just b) w x → (∃ cs, x.heap[b]? = some (.cells cs 146 (0, 0))) → Calls Tryz.prog F #[pt O, .int .i64 k] x (Answers S (fun v r y => Tells B R v r y ∧ P2 y) x)) :
    Calls Tryz.prog 82 #[pt b] w fun e w' => ∃ ao n c r, e = .returned (.agg #[.slice ao n c, .int .i64 r]) ∧ Tells B R (.slice ao n c) r w' ∧ CellAt B (mth F O) k R b w' ∧ Sav (Also S b) w w' ∧ ∃ y, (y = w ∨ P2 y) ∧ Late B b y w' := by
  have hlt : ∀ k, S k → k < w.heap.size := fun k hk => by
    obtain ⟨cs, h⟩ := hSt k hk
    exact lt_of_block h
  obtain ⟨ib, fb, h1, h2, h3⟩ := h
  rcases h3 with h3 | ⟨ao, c, h3, h4⟩
  · have hib : ib ≠ b := by
      rintro rfl
      rw [h1] at h3
      cases h3
    have hfb : fb ≠ b := by
      rintro rfl
      rw [h2] at h3
      cases h3
    refine (getC_first b 98 #[pt fb, pt ib] S (fun v r y => Tells B R v r y ∧ P2 y) w (enter_any Tryz.func98 (by kernel_rfl) (by kernel_rfl) _) h3 hS hlt (fun x hx hxb => ?_)).mono ?_
    · have hsz := hx.size
      exact makeC F O ib fb k S _ x (hx.at h1 hib) (hx.at h2 hfb) hE (fun k hk => Nat.lt_of_lt_of_le (hlt k hk) hsz) (fun v r y y' q cs hq hc hs hp => ⟨hp.1.sav (calm_out (B := B) (bs := []) (by omega) hc) hs, hP2 y y' q cs (by omega) hc hs hp.2⟩) (fun x' hx' => hT x' (hx.trans (Sav.of_below hx')) ⟨_, (hx'.block _ (lt_of_block hxb)).trans hxb⟩)
    · rintro e w' ⟨ao, n, c, r, rfl, y, q, cs, ⟨ht, hp2⟩, hsy, hyb, hq, hyq, hs, hb'⟩
      have hnq : b ≠ q := by have := lt_of_block h3; omega
      have hcalm : Calm B [] y (fun k => k = b ∨ k = q) := calm_two hBb (by omega) hyb (by simp) hyq
      have ht' := ht.sav hcalm hs
      obtain ⟨hr, ho⟩ := ht'
      obtain ⟨ao', c', e'⟩ := own_slice ho
      cases e'
      have hsw : Sav (Also S b) w w' := hsy.then hs (fun i hi h => h.elim (fun h => .inr h) (fun h => by omega))
      have hoff : ∀ {x : Nat} {cs : Array Value} {t : TypeId}, w.heap[x]? = some (.cells cs t (0, 0)) → t ≠ 146 → x ≠ b → w'.heap[x]? = some (.cells cs t (0, 0)) := by
        intro x cs t hx htag hxb
        refine hsw.at hx fun h => h.elim (fun h => ?_) (fun h => hxb h)
        obtain ⟨ds, hd⟩ := hSt x h
        rw [hx] at hd
        cases hd
        exact htag rfl
      exact ⟨ao, _, c, r, rfl, ⟨hr, ho⟩, ⟨ib, fb, hoff h1 (by decide) hib, hoff h2 (by decide) hfb, .inr ⟨ao, c, by rw [hb', hr], ho⟩⟩, hsw, y, .inr hp2, .inr ⟨q, _, _, by omega, hyb, hyq, hs⟩⟩
  · refine (getC_done b 0 _ ao R.1.length c R.2 w h3).mono ?_
    rintro e w' ⟨rfl, hb⟩
    refine ⟨ao, _, c, _, rfl, ⟨rfl, owns_below h4 hb⟩, ?_, Sav.of_below hb, w, .inl rfl, .inl hb⟩
    exact ⟨ib, fb, (hb.block ib (lt_of_block h1)).trans h1, (hb.block fb (lt_of_block h2)).trans h2, .inr ⟨ao, c, (hb.block b (lt_of_block h3)).trans h3, owns_below h4 hb⟩⟩
end Go.Proofs.YtfimoobgbodbmaaGreatDoor
