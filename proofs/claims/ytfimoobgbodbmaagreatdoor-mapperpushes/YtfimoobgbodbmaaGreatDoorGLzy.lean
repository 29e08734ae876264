/- Laid together: Once LzyV LzyGetV. -/
import Derived.Test.YtfimoobgbodbmaaGreatDoorProg
import Derived.Test.YtfimoobgbodbmaaGreatDoorGSeq
import Derived.WalkSpells
import Derived.WalkLawsBesides
import Derived.Defers
import Derived.Recover
import Derived.RegionCalls
import Derived.Laws.LoneSync
import Derived.Laws.NewBlocks
import Derived.Laws.EntriesVeiled
/-! What sync.Once, sync.Mutex and sync/atomic.Bool do for one goroutine: Load, Store, Lock, Unlock. -/
namespace Go.Proofs.YtfimoobgbodbmaaGreatDoor
open Go.RowKit
set_option linter.unusedVariables false
set_option maxRecDepth 100000

theorem disable (w : World) : (callFunc 156 #[]).run Tryz.prog w = .ok (.value (.tuple #[])) w := run_call_mark0 Tryz.func156 (by kernel_rfl) (by kernel_rfl) (by kernel_rfl) .disable (by kernel_rfl) w
theorem enable (w : World) : (callFunc 158 #[]).run Tryz.prog w = .ok (.value (.tuple #[])) w := run_call_mark0 Tryz.func158 (by kernel_rfl) (by kernel_rfl) (by kernel_rfl) .enable (by kernel_rfl) w
theorem acquire (a : Addr) (w : World) : (callFunc 159 #[.pointer (some a)]).run Tryz.prog w = .ok (.value (.tuple #[])) w := run_call_marked Tryz.func159 (by kernel_rfl) (by kernel_rfl) (by kernel_rfl) .acquire (by kernel_rfl) a w
theorem releaseMerge (a : Addr) (w : World) : (callFunc 161 #[.pointer (some a)]).run Tryz.prog w = .ok (.value (.tuple #[])) w := run_call_marked Tryz.func161 (by kernel_rfl) (by kernel_rfl) (by kernel_rfl) .releaseMerge (by kernel_rfl) a w

theorem bload_any (a : Addr) (x : Int) (w : World) (h : w.cell? a = some (.int .u32 x)) : Calls Tryz.prog 91 #[.pointer (some a)] w fun e w' => e = .returned (.bool (x != 0)) ∧ w = w' := by
  have hl := run_call_load (P := Tryz.prog) Tryz.func111 (by kernel_rfl) (by kernel_rfl) (by kernel_rfl) .u32 (by kernel_rfl) h
  go_enter Tryz.func91, Tryz.ntmps91
  go_wp2
  go_ret
  exact ⟨rfl, rfl⟩

theorem bstore_any (a : Addr) (x : Value) (w : World) (hc : w.cell? a = some x) (hz : w.frozen? a = false) :
    Calls Tryz.prog 114 #[.pointer (some a), .bool true] w fun e w' => e = .returned (.tuple #[]) ∧ w' = w.drew.setCell a (.int .u32 1) := by
  have hc' : w.drew.cell? a = some x := by go_simp
  have hz' : w.drew.frozen? a = false := by go_simp
  have hst := run_call_store (P := Tryz.prog) Tryz.func132 (by kernel_rfl) (by kernel_rfl) (by kernel_rfl) (by kernel_rfl) (k := .u32) (y := 1) hc' hz'
  go_enter Tryz.func114, Tryz.ntmps114
  go_wp2
  go_region_calls
  all_goals (go_end0; exact ⟨rfl, rfl⟩)

/-- Entered as a deferred call. -/
theorem bstore_deferred (a : Addr) (x : Value) (u : FrameMode) (w : World) (hc : w.cell? a = some x) (hz : w.frozen? a = false) :
    CallsD Tryz.prog 114 #[.pointer (some a), .bool true] u w fun e u' w' => u' = u ∧ (e = .returned (.tuple #[]) ∧ w' = w.drew.setCell a (.int .u32 1)) := by
  have hc' : w.drew.cell? a = some x := by go_simp
  have hz' : w.drew.frozen? a = false := by go_simp
  have hst := run_call_store (P := Tryz.prog) Tryz.func132 (by kernel_rfl) (by kernel_rfl) (by kernel_rfl) (by kernel_rfl) (k := .u32) (y := 1) hc' hz'
  go_enter_d Tryz.func114, Tryz.ntmps114
  go_wp2
  go_region_calls
  all_goals (go_end0; exact ⟨rfl, rfl⟩)

/-- The lock held and nobody waiting: it is let go. -/
theorem unlock_deferred (a : Addr) (u : FrameMode) (w : World) (hc : w.cell? a = some (.int .i32 1)) (hz : w.frozen? a = false) :
    CallsD Tryz.prog 113 #[.pointer (some a)] u w fun e u' w' => u' = u ∧ (e = .returned (.tuple #[]) ∧ w' = w.setCell a (.int .i32 0)) := by
  have hd := disable
  have he := enable
  have hr := releaseMerge
  have hadd := run_call_add (P := Tryz.prog) Tryz.func162 (by kernel_rfl) (by kernel_rfl) (by kernel_rfl) .i32 (by kernel_rfl) (y := -1) (s := 0) hc hz (by simp [go_sem]; rfl)
  have hcv := run_convert_to_unsafe (P := Tryz.prog) (src := 205) (dst := 209) Tryz.underlying205 Tryz.underlying209 (by kernel_rfl) hc
  go_enter_d Tryz.func113, Tryz.ntmps113
  go_wp2
  go_end0
  go_wp2
  go_end0
  exact ⟨rfl, rfl⟩

/-- The lock free: it is taken. -/
theorem lock_free (a : Addr) (w : World) (hc : w.cell? a = some (.int .i32 0)) (hz : w.frozen? a = false) :
    Calls Tryz.prog 112 #[.pointer (some a)] w fun e w' => e = .returned (.tuple #[]) ∧ w' = w.setCell a (.int .i32 1) := by
  have hd := disable
  have he := enable
  have ha := acquire
  have hcas := run_call_cas_hit (P := Tryz.prog) Tryz.func157 (by kernel_rfl) (by kernel_rfl) (by kernel_rfl) .i32 (by kernel_rfl) (y := 1) hc hz
  have hc' : (w.setCell a (.int .i32 1)).cell? a = some (.int .i32 1) := World.cell?_setCell_same w a _ hc
  have hcv := run_convert_to_unsafe (P := Tryz.prog) (src := 205) (dst := 209) Tryz.underlying205 Tryz.underlying209 (by kernel_rfl) hc'
  go_enter Tryz.func112, Tryz.ntmps112
  go_wp2
  first | go_end0 | (simp only [Exit.inBlock, Exit.then]; refine bodyPost_ret (results_none rfl _ _ _) rfl ?_) | refine bodyPost_ret (results_none rfl _ _ _) rfl ?_
  go_wp2
  go_end0
  exact ⟨rfl, rfl⟩
end Go.Proofs.YtfimoobgbodbmaaGreatDoor
/-! What the methods of lazy.Cell do: New, textOf, fill, sync.Once's Do, Get. -/
namespace Go.Proofs.YtfimoobgbodbmaaGreatDoor
open Go.RowKit
set_option linter.unusedVariables false
set_option maxRecDepth 100000

/-- A cell's block: is it done, the lock, is it made, what is to make it, its text. -/
abbrev clObj (d l m : Int) (f : Value) (t : ByteArray) : Obj := .cells #[.int .u32 d, .int .i32 l, .int .u32 0, .int .u32 m, f, .string t] 213 (0, 0)

theorem lnew_fn (fn : Fn) (a c : Array Value) (w : World) : Calls Tryz.prog 135 #[.func fn a c] w fun e w' => e = .returned (.pointer (some ⟨w.heap.size, 0, none⟩)) ∧ w' = w.alloc (clObj 0 0 0 (.func fn a c) ByteArray.empty) := by
  go_enter Tryz.func135, Tryz.ntmps135
  go_wp2
  go_ret
  exact ⟨rfl, rfl⟩

theorem feq_fn (w : World) (fn : Fn) (a c : Array Value) : (binOp .eql 189 (.func fn a c) .nilFunc).run Tryz.prog w = .ok (.bool false) w := by kernel_rfl

/-- The deferred closure, where nothing panics. -/
theorem catch_idle (p : Addr) (w : World) :
    CallsD Tryz.prog 238 #[.pointer (some p)] .returning w fun e u' w' => e = .returned (.tuple #[]) ∧ u' = .returning ∧ w' = w := by
  refine callsD_of_wpS Tryz.func238 rfl fun c₀ cs hu => ?_
  apply wpS_seq
  apply wpS_region
  simp [wpOpsS, go_sem, recoverD, hu, Tryz.ntmps238, Exit.thenS]
  refine wpS_cond (t := false) (by simp [Act.eval, Array.replicate]) ?_
  simp only [Bool.false_eq_true, if_false]
  refine wpS_of_wp (wp_skip ?_)
  cases c₀
  simp_all [bodyPostS, results, Tryz.results238]

/-- The closure G, called in whatever world that is as w was but for what is new, answers t, and turns blocks of S alone; then so does textOf. -/
theorem textOf_fn (G : Nat) (c : Array Value) (t : ByteArray) (S : Nat → Prop) (Q : World → Prop) (w : World) (hE : ∀ x, (callFunc G c).run Tryz.prog x = .ok (.enter G c) x) (hS : ∀ k, S k → k < w.heap.size)
    (hQ : ∀ x y, Sav (fun k => w.heap.size ≤ k) x y → Q x → Q y)
    (hf : ∀ x, Sav Non w x → Calls Tryz.prog G c x fun e y => e = .returned (.string t) ∧ Sav S x y ∧ Q y) :
    Calls Tryz.prog 221 #[.func (.func G) #[] c] w fun e w' => e = .returned (.string t) ∧ Sav S w w' ∧ Q w' := by
  have hq := feq_fn
  have hmf : ∀ (fn : Fn) (first cap : Array Value) (w : World), (Instr.makeFunc fn first cap).run Tryz.prog w = .ok (.func fn first cap) w := fun _ _ _ _ => rfl
  have HQ := hid hQ
  have HS := hid hS
  have HF := hid hf
  clear hQ hS hf
  have hs : Sav Non w (w.alloc (.cells #[.string { data := #[] }] 9)) := (Sav.refl _ _).alloc _
  have hn : (w.alloc (.cells #[.string { data := #[] }] 9)).heap[w.heap.size]? = some (.cells #[.string { data := #[] }] 9 (0, 0)) := new_block _ _
  have HA := hid hs
  have HN := hid hn
  clear hs hn
  go_enter_defers Tryz.func221, Tryz.ntmps221
  go_wp2_with fail
  refine (HF.out _ HA.out).mono ?_
  rintro e w2 ⟨rfl, hs2, hq2⟩
  have hb2 := hs2.at HN.out (fun h => Nat.lt_irrefl _ (HS.out _ h))
  have hv2 := cell_of_one hb2
  have hz2 := free_of_one hb2
  have h3 : Sav S w (w2.setCell ⟨w.heap.size, 0, none⟩ (.string t)) := Sav.setNew (Sav.trans (HA.out.mono (fun _ _ h => h.elim)) hs2) (Nat.le_refl _) 0 _
  have q3 : Q (w2.setCell ⟨w.heap.size, 0, none⟩ (.string t)) := HQ.out w2 _ (Sav.setCell (Sav.refl _ _) (Nat.le_refl _) 0 _) hq2
  have c3 : (w2.setCell ⟨w.heap.size, 0, none⟩ (.string t)).cell? ⟨w.heap.size, 0, none⟩ = some (.string t) := World.cell?_setCell_same _ _ _ hv2
  clear hq2 hs2 hb2
  go_wp2
  refine leaves_cons (f := 238) (args := #[.pointer (some ⟨w.heap.size, 0, none⟩)]) (by simp) (by simp [go_sem]) ?_
  refine (catch_idle ⟨w.heap.size, 0, none⟩ _).mono ?_
  rintro e u' w'' ⟨rfl, rfl, rfl⟩
  simp [Leaves, settle, results, Tryz.results221, go_sem, c3]
  exact ⟨h3, q3⟩
end Go.Proofs.YtfimoobgbodbmaaGreatDoor
/-! What lazy.Cell's Get does: the first time, and from then on. -/
namespace Go.Proofs.YtfimoobgbodbmaaGreatDoor
open Go.RowKit
set_option linter.unusedVariables false
set_option maxRecDepth 100000

/-- Within the once: the flag is set, what makes the text is forgotten, the text is kept. -/
theorem fill_any (b : Nat) (f : Value) (t : ByteArray) (S : Nat → Prop) (Q : World → Prop) (w : World) (hb : w.heap[b]? = some (clObj 0 1 0 f ByteArray.empty)) (hS : ¬ S b)
    (hQ : ∀ x y, Sav (Just b) x y → Q x → Q y)
    (hT : ∀ x, Sav (Just b) w x → Calls Tryz.prog 221 #[f] x fun e y => e = .returned (.string t) ∧ Sav S x y ∧ Q y) :
    Calls Tryz.prog 206 #[.pointer (some ⟨b, 0, none⟩)] w fun e w' => e = .returned (.tuple #[]) ∧ w'.heap[b]? = some (clObj 0 1 1 .nilFunc t) ∧ Sav (Also S b) w w' ∧ Q w' := by
  have HQ := hid hQ
  have HS := hid hS
  have HT := hid hT
  have HB := hid hb
  clear hQ hS hT hb
  have h3 : w.cell? ⟨b, 3, none⟩ = some (.int .u32 0) := cell_of_cells HB.out
  have f3 : w.frozen? ⟨b, 3, none⟩ = false := free_of_cells HB.out
  have H3 := hid h3
  have F3 := hid f3
  clear h3 f3
  go_enter Tryz.func206, Tryz.ntmps206
  go_wp2_with fail
  refine (bstore_any _ _ w H3.out F3.out).mono ?_
  rintro e w1 ⟨rfl, hw1⟩
  have hb1 : w1.heap[b]? = some (clObj 0 1 1 f ByteArray.empty) := by
    rw [hw1]
    exact heap_setCell_same w.drew b 3 _ _ _ HB.out
  have hs1 : Sav (Just b) w w1 := by
    rw [hw1]
    exact ((Sav.refl _ _).drew).setCell (just b) 3 _
  clear hw1 H3 F3
  have c4 : w1.cell? ⟨b, 4, none⟩ = some f := cell_of_cells hb1
  have z4 : w1.frozen? ⟨b, 4, none⟩ = false := free_of_cells hb1
  have hb2 : (w1.setCell ⟨b, 4, none⟩ .nilFunc).heap[b]? = some (clObj 0 1 1 .nilFunc ByteArray.empty) := heap_setCell_same w1 b 4 _ _ _ hb1
  have hs2 : Sav (Just b) w (w1.setCell ⟨b, 4, none⟩ .nilFunc) := hs1.setCell (just b) 4 _
  have HB2 := hid hb2
  have HS2 := hid hs2
  clear hb2 hs2 hb1 hs1
  go_wp2_with fail
  refine (HT.out _ HS2.out).mono ?_
  rintro e w3 ⟨rfl, hs3, hq3⟩
  have hb3 := hs3.at HB2.out HS.out
  have c5 : w3.cell? ⟨b, 5, none⟩ = some (.string ByteArray.empty) := cell_of_cells hb3
  have z5 : w3.frozen? ⟨b, 5, none⟩ = false := free_of_cells hb3
  have hb4 : (w3.setCell ⟨b, 5, none⟩ (.string t)).heap[b]? = some (clObj 0 1 1 .nilFunc t) := heap_setCell_same w3 b 5 _ _ _ hb3
  have hs4 : Sav (Also S b) w (w3.setCell ⟨b, 5, none⟩ (.string t)) := Sav.setCell (Sav.then (HS2.out.mono (fun _ _ h => Or.inr h)) hs3 (fun _ _ h => Or.inl h)) (Or.inr rfl) 5 _
  have hq4 : Q (w3.setCell ⟨b, 5, none⟩ (.string t)) := HQ.out w3 _ ((Sav.refl _ _).setCell (just b) 5 _) hq3
  have HB4 := hid hb4
  have HS4 := hid hs4
  have HQ4 := hid hq4
  clear hb4 hs4 hq4 hb3 hs3 hq3
  go_wp2
  go_end0
  exact ⟨rfl, HB4.out, HS4.out, HQ4.out⟩

set_option maxRecDepth 100000 in
set_option maxHeartbeats 1600000 in
theorem slow_any (b : Nat) (f : Value) (t : ByteArray) (S : Nat → Prop) (Q : World → Prop) (w : World) (hb : w.heap[b]? = some (clObj 0 0 0 f ByteArray.empty)) (hS : ¬ S b)
    (hQ : ∀ x y, Sav (Just b) x y → Q x → Q y)
    (hT : ∀ x, Sav (Just b) w x → Calls Tryz.prog 221 #[f] x fun e y => e = .returned (.string t) ∧ Sav S x y ∧ Q y) :
    Calls Tryz.prog 92 #[.pointer (some ⟨b, 0, none⟩), .func (.func 206) #[.pointer (some ⟨b, 0, none⟩)] #[]] w fun e w' => e = .returned (.tuple #[]) ∧ w'.heap[b]? = some (clObj 1 0 1 .nilFunc t) ∧ Sav (Also S b) w w' ∧ Q w' := by
  have HQ := hid hQ
  have HS := hid hS
  have HT := hid hT
  have HB := hid hb
  clear hQ hS hT hb
  have hnot : ∀ (x : Bool) (w : World), (Op.unary .not (.bool x)).run Tryz.prog w = .ok (.bool (!x)) w := fun _ _ => rfl
  have h1 : w.cell? ⟨b, 1, none⟩ = some (.int .i32 0) := cell_of_cells HB.out
  have f1 : w.frozen? ⟨b, 1, none⟩ = false := free_of_cells HB.out
  have H1 := hid h1
  have F1 := hid f1
  clear h1 f1
  go_enter_defers Tryz.func92, Tryz.ntmps92
  go_wp2_with fail
  refine (lock_free _ w H1.out F1.out).mono ?_
  rintro e w1 ⟨rfl, hw1⟩
  have hb1 : w1.heap[b]? = some (clObj 0 1 0 f ByteArray.empty) := by
    rw [hw1]
    exact heap_setCell_same w b 1 _ _ _ HB.out
  have hs1 : Sav (Just b) w w1 := by
    rw [hw1]
    exact (Sav.refl _ _).setCell (just b) 1 _
  clear hw1 H1 F1
  have HB1 := hid hb1
  have HS1 := hid hs1
  clear hb1 hs1
  go_wp2_with fail
  refine (bload_any _ 0 w1 (cell_of_cells HB1.out)).mono ?_
  rintro e w2 ⟨rfl, rfl⟩
  have h00 : ((0 : Int) != 0) = false := rfl
  rw [h00]
  go_wp2_with fail
  refine (fill_any b f t S Q w1 HB1.out HS.out HQ.out (fun x hx => HT.out x (HS1.out.trans hx))).mono ?_
  rintro e w3 ⟨rfl, hb3, hs3, hq3⟩
  have HB3 := hid hb3
  have HS3 := hid (Sav.trans (HS1.out.mono (fun _ _ h => Or.inr h)) hs3)
  have HQ3 := hid hq3
  clear hb3 hs3 hq3
  go_wp2
  refine leaves_cons (f := 114) (args := #[.pointer (some ⟨b, 0, none⟩), .bool true]) (by simp) (by simp [go_sem]) ?_
  refine (bstore_deferred ⟨b, 0, none⟩ (.int .u32 0) .returning _ (cell_of_cells HB3.out) (free_of_cells HB3.out)).mono ?_
  rintro e u' w4 ⟨rfl, rfl, hw4⟩
  have hb4 : w4.heap[b]? = some (clObj 1 1 1 .nilFunc t) := by
    rw [hw4]
    exact heap_setCell_same w3.drew b 0 _ _ _ HB3.out
  have hs4 : Sav (Just b) w3 w4 := by
    rw [hw4]
    exact ((Sav.refl _ _).drew).setCell (just b) 0 _
  clear hw4
  refine leaves_cons (f := 113) (args := #[.pointer (some ⟨b, 1, none⟩)]) (by simp [settle]) (by simp [go_sem]) ?_
  refine (unlock_deferred ⟨b, 1, none⟩ _ _ (cell_of_cells hb4) (free_of_cells hb4)).mono ?_
  rintro e u' w5 ⟨rfl, rfl, hw5⟩
  have hb5 : w5.heap[b]? = some (clObj 1 0 1 .nilFunc t) := by
    rw [hw5]
    exact heap_setCell_same w4 b 1 _ _ _ hb4
  have hs5 : Sav (Just b) w3 w5 := by
    rw [hw5]
    exact hs4.setCell (just b) 1 _
  simp [Leaves, settle, results, Tryz.results92]
  exact ⟨hb5, HS3.out.then hs5 (fun _ _ h => Or.inr h), HQ.out _ _ hs5 HQ3.out⟩

theorem do_first (b : Nat) (f : Value) (t : ByteArray) (S : Nat → Prop) (Q : World → Prop) (w : World) (hb : w.heap[b]? = some (clObj 0 0 0 f ByteArray.empty)) (hS : ¬ S b)
    (hQ : ∀ x y, Sav (Just b) x y → Q x → Q y)
    (hT : ∀ x, Sav (Just b) w x → Calls Tryz.prog 221 #[f] x fun e y => e = .returned (.string t) ∧ Sav S x y ∧ Q y) :
    Calls Tryz.prog 68 #[.pointer (some ⟨b, 0, none⟩), .func (.func 206) #[.pointer (some ⟨b, 0, none⟩)] #[]] w fun e w' => e = .returned (.tuple #[]) ∧ w'.heap[b]? = some (clObj 1 0 1 .nilFunc t) ∧ Sav (Also S b) w w' ∧ Q w' := by
  have H := hid (slow_any b f t S Q w hb hS hQ hT)
  have HB := hid hb
  clear hb hS hQ hT
  have hnot : ∀ (x : Bool) (w : World), (Op.unary .not (.bool x)).run Tryz.prog w = .ok (.bool (!x)) w := fun _ _ => rfl
  go_enter Tryz.func68, Tryz.ntmps68
  go_wp2_with fail
  refine (bload_any _ 0 w (cell_of_cells HB.out)).mono ?_
  rintro e w2 ⟨rfl, rfl⟩
  have h00 : ((0 : Int) != 0) = false := rfl
  rw [h00]
  go_wp2_with fail
  refine H.out.mono ?_
  rintro e w3 ⟨rfl, hr⟩
  have HR := hid hr
  clear hr
  go_wp2
  go_end0
  exact ⟨rfl, HR.out⟩

theorem do_done (b : Nat) (l m : Int) (f fv : Value) (t : ByteArray) (w : World) (hb : w.heap[b]? = some (clObj 1 l m f t)) :
    Calls Tryz.prog 68 #[.pointer (some ⟨b, 0, none⟩), fv] w fun e w' => e = .returned (.tuple #[]) ∧ w' = w := by
  have HB := hid hb
  clear hb
  have hnot : ∀ (x : Bool) (w : World), (Op.unary .not (.bool x)).run Tryz.prog w = .ok (.bool (!x)) w := fun _ _ => rfl
  go_enter Tryz.func68, Tryz.ntmps68
  go_wp2_with fail
  refine (bload_any _ 1 w (cell_of_cells HB.out)).mono ?_
  rintro e w2 ⟨rfl, rfl⟩
  have h00 : ((1 : Int) != 0) = true := rfl
  rw [h00]
  go_wp2
  go_end0
  exact ⟨rfl, rfl⟩

/-- The first time. -/
theorem get_first (b : Nat) (f : Value) (t : ByteArray) (S : Nat → Prop) (Q : World → Prop) (w : World) (hb : w.heap[b]? = some (clObj 0 0 0 f ByteArray.empty)) (hS : ¬ S b)
    (hQ : ∀ x y, Sav (Just b) x y → Q x → Q y)
    (hT : ∀ x, Sav (Just b) w x → Calls Tryz.prog 221 #[f] x fun e y => e = .returned (.string t) ∧ Sav S x y ∧ Q y) :
    Calls Tryz.prog 170 #[.pointer (some ⟨b, 0, none⟩)] w fun e w' => e = .returned (.string t) ∧ w'.heap[b]? = some (clObj 1 0 1 .nilFunc t) ∧ Sav (Also S b) w w' ∧ Q w' := by
  have H := hid (do_first b f t S Q w hb hS hQ hT)
  have HB := hid hb
  clear hb hS hQ hT
  have hmf : ∀ (fn : Fn) (first cap : Array Value) (w : World), (Instr.makeFunc fn first cap).run Tryz.prog w = .ok (.func fn first cap) w := fun _ _ _ _ => rfl
  go_enter Tryz.func170, Tryz.ntmps170
  go_wp2_with fail
  refine H.out.mono ?_
  rintro e w3 ⟨rfl, hb3, hr⟩
  have c5 : w3.cell? ⟨b, 5, none⟩ = some (.string t) := cell_of_cells hb3
  have HR := hid hr
  have HB3 := hid hb3
  clear hr hb3
  go_wp2
  go_ret
  exact ⟨rfl, HB3.out, HR.out⟩

/-- From then on. -/
theorem get_done (b : Nat) (l m : Int) (f : Value) (t : ByteArray) (w : World) (hb : w.heap[b]? = some (clObj 1 l m f t)) :
    Calls Tryz.prog 170 #[.pointer (some ⟨b, 0, none⟩)] w fun e w' => e = .returned (.string t) ∧ w = w' := by
  have H := hid (fun fv => do_done b l m f fv t w hb)
  have c5 : w.cell? ⟨b, 5, none⟩ = some (.string t) := cell_of_cells hb
  clear hb
  have hmf : ∀ (fn : Fn) (first cap : Array Value) (w : World), (Instr.makeFunc fn first cap).run Tryz.prog w = .ok (.func fn first cap) w := fun _ _ _ _ => rfl
  go_enter Tryz.func170, Tryz.ntmps170
  go_wp2_with fail
  refine (H.out _).mono ?_
  rintro e w3 ⟨rfl, rfl⟩
  go_wp2
  go_ret
  exact ⟨rfl, rfl⟩
end Go.Proofs.YtfimoobgbodbmaaGreatDoor
