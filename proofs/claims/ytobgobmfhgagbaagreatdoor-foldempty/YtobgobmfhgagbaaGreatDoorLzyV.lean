/- What the methods of lazy.Cell do: New, textOf, fill, sync.Once's Do, Get. -/
import Derived.Test.YtobgobmfhgagbaaGreatDoorOnce
namespace Go.Proofs.YtobgobmfhgagbaaGreatDoor
open Go.RowKit
set_option linter.unusedVariables false
set_option maxRecDepth 100000

/-- A cell's block: is it done, the lock, is it made, what is to make it, its text. -/
abbrev clObj (d l m : Int) (f : Value) (t : ByteArray) : Obj := .cells #[.int .u32 d, .int .i32 l, .int .u32 0, .int .u32 m, f, .string t] 124 (0, 0)

theorem lnew_fn (fn : Fn) (a c : Array Value) (w : World) : Calls Tryz.prog 59 #[.func fn a c] w fun e w' => e = .returned (.pointer (some ⟨w.heap.size, 0, none⟩)) ∧ w' = w.alloc (clObj 0 0 0 (.func fn a c) ByteArray.empty) := by
  go_enter Tryz.func59, Tryz.ntmps59
  go_wp2
  go_ret
  exact ⟨rfl, rfl⟩

theorem feq_fn (w : World) (fn : Fn) (a c : Array Value) : (binOp .eql 103 (.func fn a c) .nilFunc).run Tryz.prog w = .ok (.bool false) w := by kernel_rfl

/-- The deferred closure, where nothing panics. -/
theorem catch_idle (p : Addr) (w : World) :
    CallsD Tryz.prog 120 #[.pointer (some p)] .returning w fun e u' w' => e = .returned (.tuple #[]) ∧ u' = .returning ∧ w' = w := by
  refine callsD_of_wpS Tryz.func120 rfl fun c₀ cs hu => ?_
  apply wpS_seq
  apply wpS_region
  simp [wpOpsS, go_sem, recoverD, hu, Tryz.ntmps120, Exit.thenS]
  refine wpS_cond (t := false) (by simp [Act.eval, Array.replicate]) ?_
  simp only [Bool.false_eq_true, if_false]
  refine wpS_of_wp (wp_skip ?_)
  cases c₀
  simp_all [bodyPostS, results, Tryz.results120]

/-- The closure G, called in whatever world that is as w was but for what is new, answers t, and turns blocks of S alone; then so does textOf. -/
theorem textOf_fn (G : Nat) (c : Array Value) (t : ByteArray) (S : Nat → Prop) (Q : World → Prop) (w : World) (hE : ∀ x, (callFunc G c).run Tryz.prog x = .ok (.enter G c) x) (hS : ∀ k, S k → k < w.heap.size)
    (hQ : ∀ x y, Sav (fun k => w.heap.size ≤ k) x y → Q x → Q y)
    (hf : ∀ x, Sav Non w x → Calls Tryz.prog G c x fun e y => e = .returned (.string t) ∧ Sav S x y ∧ Q y) :
    Calls Tryz.prog 112 #[.func (.func G) #[] c] w fun e w' => e = .returned (.string t) ∧ Sav S w w' ∧ Q w' := by
  have hq := feq_fn
  have hmf : ∀ (fn : Fn) (first cap : Array Value) (w : World), (Instr.makeFunc fn first cap).run Tryz.prog w = .ok (.func fn first cap) w := fun _ _ _ _ => rfl
  have HQ := hid hQ
  have HS := hid hS
  have HF := hid hf
  clear hQ hS hf
  have hs : Sav Non w (w.alloc (.cells #[.string { data := #[] }] 9)) := (Sav.refl _ _).alloc _
  have hn : (w.alloc (.cells #[.string { data := #[] }] 9)).heap[w.heap.size]? = some (.cells #[.string { data := #[] }] 9 (0, 0)) := new_block _ _
  have HA := hid hs
  have HN := hid hn
  clear hs hn
  go_enter_defers Tryz.func112, Tryz.ntmps112
  go_wp2_with fail
  refine (HF.out _ HA.out).mono ?_
  rintro e w2 ⟨rfl, hs2, hq2⟩
  have hb2 := hs2.at HN.out (fun h => Nat.lt_irrefl _ (HS.out _ h))
  have hv2 := cell_of_one hb2
  have hz2 := free_of_one hb2
  have h3 : Sav S w (w2.setCell ⟨w.heap.size, 0, none⟩ (.string t)) := Sav.setNew (Sav.trans (HA.out.mono (fun _ _ h => h.elim)) hs2) (Nat.le_refl _) 0 _
  have q3 : Q (w2.setCell ⟨w.heap.size, 0, none⟩ (.string t)) := HQ.out w2 _ (Sav.setCell (Sav.refl _ _) (Nat.le_refl _) 0 _) hq2
  have c3 : (w2.setCell ⟨w.heap.size, 0, none⟩ (.string t)).cell? ⟨w.heap.size, 0, none⟩ = some (.string t) := World.cell?_setCell_same _ _ _ hv2
  clear hq2 hs2 hb2
  go_wp2
  refine leaves_cons (f := 120) (args := #[.pointer (some ⟨w.heap.size, 0, none⟩)]) (by simp) (by simp [go_sem]) ?_
  refine (catch_idle ⟨w.heap.size, 0, none⟩ _).mono ?_
  rintro e u' w'' ⟨rfl, rfl, rfl⟩
  simp [Leaves, settle, results, Tryz.results112, go_sem, c3]
  exact ⟨h3, q3⟩
end Go.Proofs.YtobgobmfhgagbaaGreatDoor
