/- Two disks, the program's and the document's own, and an act in a block of its own. -/
import Derived.Test.YtnbikfgbjfcenaaDkRef
import Derived.Test.YtnbikfgbjfcenaaDiskKeeps
namespace Go.Proofs.Ytnbikfgbjfcenaa
open Go.RowKit
set_option linter.unusedVariables false

/-- The program's disk in block p, the document's in block q: each its bytes, told by a list and how many are synced; in block g an act. -/
structure Two (B p q g : Nat) (act : Array Value) (v u : Value) (L : List Int) (n : Nat) (M : List Int) (m : Nat) (W w : World) : Prop where
  dp : Dk 42 B p v L n w
  dq : Dk 30 B q u M m w
  ga : w.heap[g]? = some (.cells act 32 (0, 0))
  Bp : B ≤ p
  Bq : B ≤ q
  ap : Apart v u
  bel : Below B W w

section
variable {B p q g : Nat} {act : Array Value} {v u v' u' : Value} {L M L' M' : List Int} {n m n' m' : Nat} {W w w' : World}
theorem Two.pq (h : Two B p q g act v u L n M m W w) : p ≠ q := tag_ne h.dp.obj h.dq.obj (by decide)
theorem Two.gp (h : Two B p q g act v u L n M m W w) : g ≠ p := tag_ne h.ga h.dp.obj (by decide)
theorem Two.gq (h : Two B p q g act v u L n M m W w) : g ≠ q := tag_ne h.ga h.dq.obj (by decide)
theorem Two.atP (h : Two B p q g act v u L n M m W w) (k : Dk 42 B p v' L' n' w') (hs : Sav (Ow p v) w w') (hn : Next w v v') : Two B p q g act v' u L' n' M m W w' :=
  ⟨k, h.dq.sav hs (fun e => by
    rcases e with e | e
    · exact h.pq e.symm
    · exact owns_ne h.dp.own h.dq.obj (by decide) e.symm) (fun k hk e => by
    rcases e with rfl | e
    · exact owns_ne h.dq.own h.dp.obj (by decide) hk.symm
    · exact h.ap k e hk),
    hs.at h.ga (fun e => by
    rcases e with e | e
    · exact h.gp e
    · exact owns_ne h.dp.own h.ga (by decide) e.symm), h.Bp, h.Bq, h.ap.next hn h.dq.own, h.bel.trans (hs.below (fun i hi => by
    rcases hi with rfl | hi
    · exact h.Bp
    · exact (h.dp.own.lt i hi).1) h.dp.low)⟩
theorem Two.justP (h : Two B p q g act v u L n M m W w) (k : Dk 42 B p v' L' n' w') (hs : Sav (Just p) w w') (hn : v'.ownBlock = v.ownBlock) : Two B p q g act v' u L' n' M m W w' :=
  h.atP k (hs.mono (fun _ _ e => .inl e)) (.inl hn)
theorem Two.atQ (h : Two B p q g act v u L n M m W w) (k : Dk 30 B q u' M' m' w') (hs : Sav (Just q) w w') (hn : ∀ k, u'.ownBlock = some k → w.heap.size ≤ k) : Two B p q g act v u' L n M' m' W w' :=
  ⟨h.dp.sav hs h.pq (fun k hk e => owns_ne h.dp.own h.dq.obj (by decide) (by rw [hk]; exact congrArg some e.symm)), k,
    hs.at h.ga h.gq, h.Bp, h.Bq, (fun k hk e => by have := (h.dp.own.lt k hk).2; have := hn k e; omega), h.bel.trans (hs.below (fun i hi => by rw [show i = q from hi]; exact h.Bq) h.dp.low)⟩
theorem Two.markQ (h : Two B p q g act v u L n M m W w) (hm : m' ≤ M.length) : Two B p q g act v u L n M m' W (w.setCell ⟨q, 1, none⟩ (.int .i64 m')) :=
  have hs : Sav (Just q) w (w.setCell ⟨q, 1, none⟩ (.int .i64 m')) := (Sav.refl _ _).setCell (just q) 1 _
  ⟨h.dp.sav hs h.pq (fun k hk e => owns_ne h.dp.own h.dq.obj (by decide) (by rw [hk]; exact congrArg some e.symm)), Dk.mark (by decide) h.dq hm,
    hs.at h.ga h.gq, h.Bp, h.Bq, h.ap, h.bel.trans (hs.below (fun i hi => by rw [show i = q from hi]; exact h.Bq) h.dp.low)⟩
theorem Two.far (h : Two B p q g act v u L n M m W w) (hb : Below w.heap.size w w') : Two B p q g act v u L n M m W w' :=
  ⟨h.dp.below hb, h.dq.below hb, (hb.block g (lt_of_block h.ga)).trans h.ga, h.Bp, h.Bq, h.ap, h.bel.trans (hb.mono h.dp.low)⟩
/-- A row that lies apart from both is written. -/
theorem Two.over (h : Two B p q g act v u L n M m W w) {r : Nat} (hg : w.grownBy w' (some r)) (hr : B ≤ r) (h1 : r ≠ p) (h2 : r ≠ q) (h3 : r ≠ g) (h4 : v.ownBlock ≠ some r) (h5 : u.ownBlock ≠ some r) : Two B p q g act v u L n M m W w' :=
  have hs : Sav (Just r) w w' := Sav.grown hg (fun k hk => (Option.some.inj hk).symm)
  ⟨h.dp.sav hs (fun e => h1 e.symm) (fun k hk e => h4 (by rw [hk]; exact congrArg some e)), h.dq.sav hs (fun e => h2 e.symm) (fun k hk e => h5 (by rw [hk]; exact congrArg some e)),
    hs.at h.ga (fun e => h3 e.symm), h.Bp, h.Bq, h.ap, h.bel.trans (hs.below (fun i hi => by rw [show i = r from hi]; exact hr) h.dp.low)⟩
end
set_option maxHeartbeats 400000 in
theorem over_none (w : World) : Calls Try.prog 13 #[.slice none 0 0] w fun e w' => e = .returned (.tuple #[]) ∧ Below w.heap.size w w' := by
  obtain ⟨i0, hi, hz0, hz1, hz2⟩ := info_parts Try.info5
  go_enter Try.func13, Try.ntmps13
  go_wp2
  go_loop [2] (fun i => i = .int .i64 0) (fun _ => 0)
  case atStart => rfl
  case round =>
    subst hrel
    go_wp2_with (at_builtin; refine wpList_append_own _ rfl _ _ 28 rfl w.heap.size 5 i0 (.int .u8 0) 1 1 Try.underlying28 hi hz0 hz1 hz2 rfl (by decide) (.slice none 0 0) 0 [] rfl (World.ownsRow_nil _ _ _ _) ⟨w.heap.size, 0, none⟩ 1 1 [.int .u8 238] rfl rfl (cell_one_new _ _ _) (by intro u hu; simp at hu; subst hu; rfl) (by unfold maxLen; omega) (by omega) (by simp) ?_; intro v1 w1 ho1 hg1 _)
    go_end0
    exact ⟨rfl, ((Below.refl _ _).alloc (Nat.le_refl _) _).grown hg1 (by simp) (by intro q hq; cases hq)⟩
/-- A row of the call's own, nil or not, is written over. -/
theorem over_row (base n : Nat) (ao : Option Addr) (c : Nat) (xs : List Value) (w : World) (ho : w.ownsRow base 5 1 (.slice ao n c) n xs) (hb : base ≤ w.heap.size) (hn : n + 1 ≤ 140737488355328) :
    Calls Try.prog 13 #[.slice ao n c] w fun e w' => e = .returned (.tuple #[]) ∧ Sav (fun k => (Value.slice ao n c).ownBlock = some k) w w' := by
  rcases ho.2 with ⟨h1, rfl⟩ | ⟨g, cap, cur, h1, _⟩
  · obtain ⟨rfl, rfl⟩ : ao = none ∧ c = 0 := by simpa using h1
    exact (over_none w).mono fun e w' ⟨h1, h2⟩ => ⟨h1, Sav.of_below h2⟩
  · obtain ⟨rfl, rfl⟩ : ao = some ⟨g, 0, none⟩ ∧ c = cap := by simpa using h1
    exact (over_any g n c base xs w ho hb hn).mono fun e w' ⟨h1, h2⟩ => ⟨h1, Sav.grown h2 (fun k hk => hk)⟩
theorem Dk.heap {T base b : Nat} {v : Value} {l : List Int} {n : Nat} {w w' : World} (h : Dk T base b v l n w) (e : w'.heap = w.heap) : Dk T base b v l n w' := by
  obtain ⟨h1, h2, h3, h4, h5⟩ := h
  refine ⟨by rw [e]; exact h1, ?_, h3, by rw [e]; exact h4, h5⟩
  unfold World.ownsRow at h2 ⊢
  rw [e]
  exact h2
theorem Bs.heap {w w' : World} {v : Value} {l : List Int} (h : Bs w v l) (e : w'.heap = w.heap) : Bs w' v l := by
  obtain ⟨ao, cap, rfl, h1, h2, h3, h4⟩ := h
  refine ⟨ao, cap, rfl, h1, h2, h3, fun hl => ?_⟩
  obtain ⟨b, off, rfl, hb, hc⟩ := h4 hl
  exact ⟨b, off, rfl, by rw [e]; exact hb, fun j hj => (World.cell?_of_block (w := w) (w' := w') (by rw [e])).trans (hc j hj)⟩
/-- A row that lies apart from both is written over. -/
theorem Two.row {B p q g : Nat} {act : Array Value} {v u b : Value} {L M : List Int} {n m k : Nat} {W w w' : World} {xs : List Value} (h : Two B p q g act v u L n M m W w) (ho : w.ownsRow B 5 1 b k xs) (h1 : Apart v b) (h2 : Apart u b) (hs : Sav (fun k => b.ownBlock = some k) w w') : Two B p q g act v u L n M m W w' :=
  ⟨h.dp.sav hs (fun e => owns_ne ho h.dp.obj (by decide) e.symm) (fun k hk e => h1 k hk e), h.dq.sav hs (fun e => owns_ne ho h.dq.obj (by decide) e.symm) (fun k hk e => h2 k hk e),
    hs.at h.ga (fun e => owns_ne ho h.ga (by decide) e.symm), h.Bp, h.Bq, h.ap, h.bel.trans (hs.below (fun i hi => (ho.lt i hi).1) h.dp.low)⟩
/-- Bytes that were lent, in block r, apart from both disks. -/
structure Lent (r : Nat) (xs : List Int) (v u : Value) (w : World) : Prop where
  own : w.ownsRow r 5 1 (.slice (some ⟨r, 0, none⟩) (xs.length + 3) (xs.length + 3)) (xs.length + 3) (cel (xs ++ [119, 119, 119]))
  nv : v.ownBlock ≠ some r
  nu : u.ownBlock ≠ some r
theorem Lent.lt {r : Nat} {xs : List Int} {v u : Value} {w : World} (h : Lent r xs v u w) : r < w.heap.size := (h.own.lt r rfl).2
theorem Lent.full {r : Nat} {xs : List Int} {v u : Value} {w : World} (h : Lent r xs v u w) : Bs w (.slice (some ⟨r, 0, none⟩) (xs.length + 3) (xs.length + 3)) (xs ++ [119, 119, 119]) := Bs.own h.own
theorem Lent.bs {r : Nat} {xs : List Int} {v u : Value} {w : World} (h : Lent r xs v u w) : Bs w (.slice (some ⟨r, 0, none⟩) xs.length (xs.length + 3)) xs := by
  have := h.full.take xs.length (by omega)
  rwa [List.take_left] at this
theorem Lent.cut {r : Nat} {xs : List Int} {v u : Value} {w : World} (h : Lent r xs v u w) : ∃ ys, w.ownsRow r 5 1 (.slice (some ⟨r, 0, none⟩) xs.length (xs.length + 3)) xs.length ys := ⟨_, owns_cut h.own (by omega)⟩
theorem Lent.far {r : Nat} {xs : List Int} {v u : Value} {w w' : World} (h : Lent r xs v u w) (hb : Below w.heap.size w w') : Lent r xs v u w' := ⟨owns_far h.own hb, h.nv, h.nu⟩
section
variable {B p q g r : Nat} {act : Array Value} {v u v' u' : Value} {L M L' M' xs : List Int} {n m n' m' : Nat} {W w w' : World}
theorem Lent.mk0 (h : Two B p q g act v u L n M m W w) (ho : w'.ownsRow w.heap.size 5 1 (.slice (some ⟨w.heap.size, 0, none⟩) (xs.length + 3) (xs.length + 3)) (xs.length + 3) (cel (xs ++ [119, 119, 119]))) : Lent w.heap.size xs v u w' :=
  ⟨ho, fun e => Nat.lt_irrefl _ (h.dp.own.lt _ e).2, fun e => Nat.lt_irrefl _ (h.dq.own.lt _ e).2⟩
theorem Lent.atP (k : Lent r xs v u w) (h : Two B p q g act v u L n M m W w) (hs : Sav (Ow p v) w w') (hn : Next w v v') : Lent r xs v' u w' :=
  ⟨owns_sav k.own hs (fun i hi e => by
    cases hi
    rcases e with e | e
    · exact owns_ne k.own h.dp.obj (by decide) (congrArg some e.symm)
    · exact k.nv e), (fun e => by
    rcases hn with hn | hn
    · exact k.nv (hn ▸ e)
    · have := hn r e
      have := k.lt
      omega), k.nu⟩
theorem Lent.atQ (k : Lent r xs v u w) (h : Two B p q g act v u L n M m W w) (hs : Sav (Just q) w w') (hn : ∀ k, u'.ownBlock = some k → w.heap.size ≤ k) : Lent r xs v u' w' :=
  ⟨owns_sav k.own hs (fun i hi e => by
    cases hi
    exact owns_ne k.own h.dq.obj (by decide) (congrArg some e.symm)), k.nv, (fun e => by
    have := hn r e
    have := k.lt
    omega)⟩
theorem Two.lent (h : Two B p q g act v u L n M m W w) (k : Lent r xs v u w) (hr : B ≤ r) (hg : w.grownBy w' (some r)) : Two B p q g act v u L n M m W w' :=
  h.over hg hr (fun e => owns_ne k.own h.dp.obj (by decide) (congrArg some e.symm)) (fun e => owns_ne k.own h.dq.obj (by decide) (congrArg some e.symm)) (fun e => owns_ne k.own h.ga (by decide) (congrArg some e.symm)) k.nv k.nu
end
end Go.Proofs.Ytnbikfgbjfcenaa
