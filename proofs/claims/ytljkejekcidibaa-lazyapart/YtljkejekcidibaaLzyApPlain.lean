/- LazyApart: the state of its cells, what a Get does to it; its own closure. -/
import Derived.Test.YtljkejekcidibaaLzyAwake
import Derived.Test.YtljkejekcidibaaLow
import Derived.Test.YtljkejekcidibaaRds
import Derived.Laws.AppendOwnNone
namespace Go.Proofs.Ytljkejekcidibaa
open Go.RowKit
set_option linter.unusedVariables false

theorem opens_texts : Opens Try.prog 28 1 (rSlice 1 rStr) := opens_slice Try.underlying28 (by kernel_rfl) (by decide) (opens_str Try.underlying9)
theorem opens_ints : Opens Try.prog 29 1 (rSlice 1 (rInt .i64)) := opens_slice Try.underlying29 (by kernel_rfl) (by decide) (opens_int Try.underlying3)

/-- Twenty cells, by a function. -/
def cells20 (f : Nat → Value) : Array Value := ((List.range 20).map f).toArray
theorem cells20_at (f : Nat → Value) {j : Nat} (h : j < 20) : (cells20 f)[j]? = some (f j) := by simp [cells20, h]
theorem cells20_set (f : Nat → Value) {k : Nat} (v : Value) : (cells20 f).setIfInBounds k v = cells20 (fun j => if j = k then v else f j) := by
  apply Array.ext_getElem?
  intro i
  rw [Array.getElem?_setIfInBounds]
  by_cases hi : i < 20
  · rw [cells20_at _ hi, cells20_at _ hi]
    by_cases e : k = i
    · subst e; simp [cells20, hi]
    · simp [e, Ne.symm e]
  · have : ∀ f : Nat → Value, (cells20 f)[i]? = none := fun f => by simp [cells20]; omega
    rw [this, this]
    by_cases e : k = i
    · subst e; simp [cells20]; omega
    · simp [e]
/-- How often each was made. -/
def mk20 (f : Nat → Bool) : Array Value := cells20 fun j => .int .i64 (if f j then 1 else 0)
/-- Which were asked. -/
def ask20 (f : Nat → Bool) : Array Value := cells20 fun j => .bool (f j)
/-- And k. -/
def with1 (f : Nat → Bool) (k j : Nat) : Bool := if j = k then true else f j
theorem with1_same (f : Nat → Bool) {k : Nat} (h : f k = true) : with1 f k = f := by
  funext j; unfold with1; split
  · next e => rw [e, h]
  · rfl
theorem mk20_set (f : Nat → Bool) (k : Nat) : (mk20 f).setIfInBounds k (.int .i64 1) = mk20 (with1 f k) := by
  unfold mk20; rw [cells20_set]
  congr 1; funext j; unfold with1; by_cases e : j = k <;> simp [e]
theorem ask20_set (f : Nat → Bool) (k : Nat) : (ask20 f).setIfInBounds k (.bool true) = ask20 (with1 f k) := by
  unfold ask20; rw [cells20_set]
  congr 1; funext j; unfold with1; by_cases e : j = k <;> simp [e]

abbrev apFn (m kb p : Nat) : Value := .func (.func 11) #[] #[.pointer (some ⟨m, 0, none⟩), .pointer (some ⟨kb, 0, none⟩), .pointer (some ⟨p, 0, none⟩)]
/-- Cell j: made, or not yet. -/
def apObj (b : Bool) (m kb p : Nat) (t : ByteArray) : Obj := if b then clObj 1 0 1 .nilFunc t else clObj 0 0 0 (apFn m kb p) ByteArray.empty

/-- The closure of cell k, which was not made: it counts, and answers its text. -/
theorem apart1_go (m kb p k n cap b off : Nat) (f : Nat → Bool) (t : ByteArray) (x : World) (hk : k < n) (hn : n ≤ 20) (hf : f k = false)
    (hm : x.heap[m]? = some (.cells (mk20 f) 31 (0, 0))) (hkb : x.heap[kb]? = some (.cells #[.int .i64 k] 3 (0, 0))) (hp : x.heap[p]? = some (.cells #[.slice (some ⟨b, off, none⟩) n cap] 28 (0, 0)))
    (ht : x.cell? ⟨b, off + k, none⟩ = some (.string t)) (hbm : b ≠ m) :
    Calls Try.prog 11 #[.pointer (some ⟨m, 0, none⟩), .pointer (some ⟨kb, 0, none⟩), .pointer (some ⟨p, 0, none⟩)] x fun e y => e = .returned (.string t) ∧ Sav (Just m) x y ∧ y.heap[m]? = some (.cells (mk20 (with1 f k)) 31 (0, 0)) := by
  have ck := cell_of_one hkb
  have cp := cell_of_one hp
  have cm : x.cell? ⟨m, k, none⟩ = some (.int .i64 0) := by
    rw [cell_of_cells hm, mk20, cells20_at _ (by omega)]
    simp [hf]
  have zm : x.frozen? ⟨m, k, none⟩ = false := free_of_cells hm
  have h0 : (0 : Int) ≤ (k : Int) := by omega
  have h20 : (k : Int) < 20 := by omega
  have hnn : (k : Int) < (n : Int) := by omega
  have HM := hid ((heap_setCell_same x m k _ _ (.int .i64 1) hm).trans (by rw [mk20_set]))
  have dk : (x.setCell ⟨m, k, none⟩ (.int .i64 1)).cell? ⟨kb, 0, none⟩ = some (.int .i64 k) := by
    rw [World.cell?_setCell_other _ _ _ _ (fun e => ?_)]
    · exact ck
    · have e1 := (Addr.mk.inj e).1
      subst e1
      rw [hm] at hkb
      simp at hkb
  have dp : (x.setCell ⟨m, k, none⟩ (.int .i64 1)).cell? ⟨p, 0, none⟩ = some (.slice (some ⟨b, off, none⟩) n cap) := by
    rw [World.cell?_setCell_other _ _ _ _ (fun e => ?_)]
    · exact cp
    · have e1 := (Addr.mk.inj e).1
      subst e1
      rw [hm] at hp
      simp at hp
  have dt : (x.setCell ⟨m, k, none⟩ (.int .i64 1)).cell? ⟨b, off + k, none⟩ = some (.string t) := by
    rw [World.cell?_setCell_other _ _ _ _ (fun e => hbm ((Addr.mk.inj e).1.symm))]
    exact ht
  clear hm hkb hp hbm hf
  go_enter Try.func11, Try.ntmps11
  go_wp2
  go_ret
  exact ⟨rfl, Sav.setCell (Sav.refl _ _) (just m) k _, HM.out⟩

theorem tag_ne {w : World} {a b : Nat} {c1 c2 : Array Value} {t1 t2 : TypeId} {r1 r2 : Nat × Nat} (ha : w.heap[a]? = some (.cells c1 t1 r1)) (hb : w.heap[b]? = some (.cells c2 t2 r2)) (h : t1 ≠ t2) : a ≠ b := by
  intro e
  subst e
  rw [ha] at hb
  simp at hb
  exact h hb.2.1
theorem own_ne {w : World} {base n a : Nat} {e t : TypeId} {v : Value} {xs : List Value} {cs : Array Value} {r : Nat × Nat} (h : w.ownsRow base e 1 v n xs) (ha : w.heap[a]? = some (.cells cs t r)) (ht : t ≠ e) : some a ≠ v.ownBlock := by
  rcases h.2 with ⟨rfl, _⟩ | ⟨g, cap, cur, rfl, _, hg, _⟩
  · simp [Value.ownBlock]
  · intro e1
    simp only [Value.ownBlock, Option.some.injEq] at e1
    exact tag_ne ha hg ht e1
theorem grown_at {w w' : World} {base n a : Nat} {e t : TypeId} {v : Value} {xs : List Value} {cs : Array Value} {r : Nat × Nat} (h : w.ownsRow base e 1 v n xs) (hg : w.grownBy w' v.ownBlock) (ha : w.heap[a]? = some (.cells cs t r)) (ht : t ≠ e) : w'.heap[a]? = some (.cells cs t r) :=
  (hg.block a (lt_of_block ha) (own_ne h ha ht)).trans ha
theorem old_block {w : World} {b : Nat} {o o' : Obj} (h : w.heap[b]? = some o) : (w.alloc o').heap[b]? = some o := (Below.heap_alloc _ _ _ (lt_of_block h)).trans h

def upd (f : Nat → Nat) (k x j : Nat) : Nat := if j = k then x else f j
theorem upd_same (f : Nat → Nat) (k x : Nat) : upd f k x k = x := by simp [upd]
theorem upd_other (f : Nat → Nat) {k x j : Nat} (h : j ≠ k) : upd f k x j = f j := by simp [upd, h]

/-- Behind k rounds of the first loop. -/
structure A1 (W : World) (p m n cap : Nat) (ao : Option Addr) (k : Nat) (cv : Value) (kf qf : Nat → Nat) (w : World) : Prop where
  hp : w.heap[p]? = some (.cells #[.slice ao n cap] 28 (0, 0))
  hm : w.heap[m]? = some (.cells (mk20 fun _ => false) 31 (0, 0))
  own : w.ownsRow W.heap.size 23 1 cv k ((List.range k).map fun j => .pointer (some ⟨qf j, 0, none⟩))
  hk : ∀ j, j < k → w.heap[kf j]? = some (.cells #[.int .i64 j] 3 (0, 0))
  hq : ∀ j, j < k → w.heap[qf j]? = some (clObj 0 0 0 (apFn m (kf j) p) ByteArray.empty)
  up : ∀ i j, i < j → j < k → qf i < qf j
  lo : ∀ j, j < k → W.heap.size ≤ qf j
  Wm : W.heap.size ≤ m
  sav : Sav Non W w

theorem A1.start {W w : World} {p m n cap : Nat} {ao : Option Addr} (hp : w.heap[p]? = some (.cells #[.slice ao n cap] 28 (0, 0))) (hm : w.heap[m]? = some (.cells (mk20 fun _ => false) 31 (0, 0))) (hW : W.heap.size ≤ m) (hs : Sav Non W w) :
    A1 W p m n cap ao 0 (.slice none 0 0) (fun _ => 0) (fun _ => 0) w :=
  ⟨hp, hm, World.ownsRow_nil _ _ _ _, fun j h => absurd h (Nat.not_lt_zero _), fun j h => absurd h (Nat.not_lt_zero _), fun i j _ h => absurd h (Nat.not_lt_zero _), fun j h => absurd h (Nat.not_lt_zero _), hW, hs⟩

/-- The world ahead of the append. -/
abbrev apW (m p k : Nat) (w : World) : World := ((w.alloc (.cells #[.int .i64 k] 3)).alloc (clObj 0 0 0 (apFn m w.heap.size p) ByteArray.empty)).alloc (.cells #[.pointer (some ⟨w.heap.size + 1, 0, none⟩)] 23)

theorem A1.step {W w w' : World} {p m n cap : Nat} {ao : Option Addr} {k : Nat} {cv cv' : Value} {kf qf : Nat → Nat} (h : A1 W p m n cap ao k cv kf qf w)
    (ho : w'.ownsRow W.heap.size 23 1 cv' (k + 1) (((List.range k).map fun j => .pointer (some ⟨qf j, 0, none⟩)) ++ [.pointer (some ⟨w.heap.size + 1, 0, none⟩)])) (hg : (apW m p k w).grownBy w' cv.ownBlock) :
    A1 W p m n cap ao (k + 1) cv' (upd kf k w.heap.size) (upd qf k (w.heap.size + 1)) w' := by
  have hw3 : (apW m p k w).ownsRow W.heap.size 23 1 cv k ((List.range k).map fun j => .pointer (some ⟨qf j, 0, none⟩)) := ((h.own.alloc _).alloc _).alloc _
  have hold : ∀ b o, w.heap[b]? = some o → (apW m p k w).heap[b]? = some o := fun b o hb => old_block (old_block (old_block hb))
  have hnk : (apW m p k w).heap[w.heap.size]? = some (.cells #[.int .i64 k] 3 (0, 0)) := old_block (old_block (new_block _ _))
  have hnq : (apW m p k w).heap[w.heap.size + 1]? = some (clObj 0 0 0 (apFn m w.heap.size p) ByteArray.empty) := by
    have := new_block (w.alloc (.cells #[.int .i64 k] 3)) (clObj 0 0 0 (apFn m w.heap.size p) ByteArray.empty)
    rw [World.size_alloc] at this
    exact old_block this
  have hs3 : Sav Non W (apW m p k w) := ((h.sav.alloc _).alloc _).alloc _
  have hlt : ∀ j, j < k → qf j < w.heap.size := fun j hj => lt_of_block (h.hq j hj)
  refine ⟨grown_at hw3 hg (hold _ _ h.hp) (by decide), grown_at hw3 hg (hold _ _ h.hm) (by decide), ?_, fun j hj => ?_, fun j hj => ?_, fun i j hij hj => ?_, fun j hj => ?_, h.Wm, ?_⟩
  · have e : (List.range (k + 1)).map (fun j => Value.pointer (some ⟨upd qf k (w.heap.size + 1) j, 0, none⟩)) = ((List.range k).map fun j => .pointer (some ⟨qf j, 0, none⟩)) ++ [.pointer (some ⟨w.heap.size + 1, 0, none⟩)] := by
      rw [List.range_succ, List.map_append]
      congr 1
      · apply List.map_congr_left
        intro j hj
        rw [upd_other _ (by have := List.mem_range.1 hj; omega)]
      · simp [upd_same]
    rw [e]
    exact ho
  · by_cases e : j = k
    · subst e
      rw [upd_same]
      exact grown_at hw3 hg hnk (by decide)
    · rw [upd_other _ e]
      exact grown_at hw3 hg (hold _ _ (h.hk j (by omega))) (by decide)
  · by_cases e : j = k
    · subst e
      rw [upd_same, upd_same]
      exact grown_at hw3 hg hnq (by decide)
    · rw [upd_other _ e, upd_other _ e]
      exact grown_at hw3 hg (hold _ _ (h.hq j (by omega))) (by decide)
  · by_cases e : j = k
    · subst e
      rw [upd_same, upd_other _ (by omega)]
      have := hlt i hij
      omega
    · rw [upd_other _ e, upd_other _ (by omega)]
      exact h.up i j hij (by omega)
  · by_cases e : j = k
    · subst e
      rw [upd_same]
      have := h.sav.size
      omega
    · rw [upd_other _ e]
      exact h.lo j (by omega)
  · exact Sav.of_below ((hs3.below (fun _ h => h.elim) (Nat.le_refl _)).grown hg hs3.size (fun b hb => (hw3.lt b hb).1))

/-- Behind the first loop. -/
structure Ap (W : World) (p m n cap b off g : Nat) (ts : List ByteArray) (kf qf : Nat → Nat) (f : Nat → Bool) (w : World) : Prop where
  hp : w.heap[p]? = some (.cells #[.slice (some ⟨b, off, none⟩) n cap] 28 (0, 0))
  hm : w.heap[m]? = some (.cells (mk20 f) 31 (0, 0))
  tg : ∃ cur, w.heap[g]? = some (.cells cur 23 (0, 0))
  hg : ∀ j, j < n → w.cell? ⟨g, j, none⟩ = some (.pointer (some ⟨qf j, 0, none⟩))
  hk : ∀ j, j < n → w.heap[kf j]? = some (.cells #[.int .i64 j] 3 (0, 0))
  hq : ∀ j, j < n → w.heap[qf j]? = some (apObj (f j) m (kf j) p (ts.getD j ByteArray.empty))
  up : ∀ i j, i < j → j < n → qf i < qf j
  lo : ∀ j, j < n → W.heap.size ≤ qf j
  Wm : W.heap.size ≤ m
  sav : Sav Non W w
  bW : b < W.heap.size
  ht : ∀ j, j < n → W.cell? ⟨b, off + j, none⟩ = some (.string (ts.getD j ByteArray.empty))

theorem apObj_tag (x : Bool) (m kb p : Nat) (t : ByteArray) : ∃ cs, apObj x m kb p t = .cells cs 48 (0, 0) := by
  cases x
  · exact ⟨_, rfl⟩
  · exact ⟨_, rfl⟩

/-- What is not the counts' block and not a cell's is not turned. -/
theorem Ap.at {W w w' : World} {p m n cap b off g : Nat} {ts : List ByteArray} {kf qf : Nat → Nat} {f : Nat → Bool} (h : Ap W p m n cap b off g ts kf qf f w) {k : Nat} (hk : k < n) (hs : Sav (Also (Just m) (qf k)) w w')
    {a : Nat} {cs : Array Value} {t : TypeId} {r : Nat × Nat} (ha : w.heap[a]? = some (.cells cs t r)) (h1 : t ≠ 31) (h2 : t ≠ 48) : w'.heap[a]? = some (.cells cs t r) := by
  refine hs.at ha (fun e => ?_)
  rcases e with e | e
  · exact tag_ne ha h.hm h1 e
  · obtain ⟨c2, hc2⟩ := apObj_tag (f k) m (kf k) p (ts.getD k ByteArray.empty)
    have := h.hq k hk
    rw [hc2] at this
    exact tag_ne ha this h2 e

theorem get_ap {W : World} {p m n cap b off g : Nat} {ts : List ByteArray} {kf qf : Nat → Nat} {f : Nat → Bool} (w : World) (h : Ap W p m n cap b off g ts kf qf f w) (hn : n ≤ 20) (k : Nat) (hk : k < n) :
    Calls Try.prog 10 #[.pointer (some ⟨qf k, 0, none⟩)] w fun e w' => e = .returned (.string (ts.getD k ByteArray.empty)) ∧ Ap W p m n cap b off g ts kf qf (with1 f k) w' ∧ Sav (Also (Just m) (qf k)) w w' := by
  by_cases hf : f k = true
  · have hq := h.hq k hk
    rw [hf] at hq
    refine (get_done (qf k) 0 1 .nilFunc _ w hq).mono ?_
    rintro e w' ⟨rfl, rfl⟩
    rw [with1_same f hf]
    exact ⟨rfl, h, Sav.refl _ _⟩
  · have hf0 : f k = false := by simpa using hf
    have hq := h.hq k hk
    rw [hf0] at hq
    have hqm : qf k ≠ m := tag_ne hq h.hm (by decide)
    have hWs := h.sav.size
    have hmlt := lt_of_block h.hm
    refine (get_first (qf k) _ (ts.getD k ByteArray.empty) (Just m) (fun y => y.heap[m]? = some (.cells (mk20 (with1 f k)) 31 (0, 0))) w hq hqm (fun x y hs hx => hs.at hx (Ne.symm hqm))
      (fun x hx => textOf_fn 11 _ _ (Just m) (fun y => y.heap[m]? = some (.cells (mk20 (with1 f k)) 31 (0, 0))) x (enter_fn Try.func11 (by kernel_rfl) (by kernel_rfl) _)
        (fun j hj => by cases hj; exact Nat.lt_of_lt_of_le hmlt hx.size) (fun y z hs hy => hs.at hy (by have := hx.size; omega))
        (fun y hy => apart1_go m (kf k) p k n cap b off f _ y hk hn hf0 (hy.at (hx.at h.hm (Ne.symm hqm)) (fun h => h))
          (hy.at (hx.at (h.hk k hk) (tag_ne (h.hk k hk) hq (by decide))) (fun h => h)) (hy.at (hx.at h.hp (tag_ne h.hp hq (by decide))) (fun h => h))
          (by
            have hlo := h.lo k hk
            have hbW := h.bW
            rw [hy.cell (a := ⟨b, off + k, none⟩) (by have := hx.size; simp only; omega) (fun h => h), hx.cell (a := ⟨b, off + k, none⟩) (by simp only; omega) (by unfold Just; simp only; omega), h.sav.cell (a := ⟨b, off + k, none⟩) hbW (fun h => h)]
            exact h.ht k hk) (by have := h.bW; have := h.Wm; omega)))).mono ?_
    rintro e w' ⟨rfl, hb, hs, hQ⟩
    have hs' : Sav (Also (Just m) (qf k)) w w' := hs
    obtain ⟨cur, hcur⟩ := h.tg
    have hcur' := h.at hk hs' hcur (by decide) (by decide)
    refine ⟨rfl, ⟨h.at hk hs' h.hp (by decide) (by decide), hQ, ⟨cur, hcur'⟩, fun j hj => ?_, fun j hj => h.at hk hs' (h.hk j hj) (by decide) (by decide), fun j hj => ?_, h.up, h.lo, h.Wm, ?_, h.bW, h.ht⟩, hs'⟩
    · rw [← h.hg j hj]
      exact World.cell?_of_block (w := w) (hcur'.trans hcur.symm)
    · by_cases e : j = k
      · subst e
        have e1 : with1 f j j = true := by simp [with1]
        rw [e1]
        exact hb
      · have e1 : with1 f k j = f j := by simp [with1, e]
        rw [e1]
        refine hs'.at (h.hq j hj) (fun e2 => ?_)
        rcases e2 with e2 | e2
        · obtain ⟨c2, hc2⟩ := apObj_tag (f j) m (kf j) p (ts.getD j ByteArray.empty)
          have hj2 := h.hq j hj
          rw [hc2] at hj2
          exact tag_ne hj2 h.hm (by decide) e2
        · rcases Nat.lt_or_gt_of_ne e with l | l
          · have := h.up j k l hk; omega
          · have := h.up k j l hj; omega
    · exact h.sav.then hs' (fun i hi e2 => by have := h.lo k hk; have := h.Wm; rcases e2 with e2 | e2 <;> (unfold Just at *; omega))

theorem made_ap {W : World} {p m n cap b off g : Nat} {ts : List ByteArray} {kf qf : Nat → Nat} {f : Nat → Bool} (w : World) (h : Ap W p m n cap b off g ts kf qf f w) (k : Nat) (hk : k < n) :
    Calls Try.prog 9 #[.pointer (some ⟨qf k, 0, none⟩)] w fun e w' => e = .returned (.bool (f k)) ∧ w = w' := by
  have hq := h.hq k hk
  cases hf : f k
  · rw [hf] at hq
    exact (made_any (qf k) 0 w (cell_of_cells hq)).mono fun e w' h => h
  · rw [hf] at hq
    exact (made_any (qf k) 1 w (cell_of_cells hq)).mono fun e w' h => h
theorem Ap.drew {W w : World} {p m n cap b off g : Nat} {ts : List ByteArray} {kf qf : Nat → Nat} {f : Nat → Bool} (h : Ap W p m n cap b off g ts kf qf f w) : Ap W p m n cap b off g ts kf qf f w.drew :=
  ⟨h.hp, h.hm, h.tg, h.hg, h.hk, h.hq, h.up, h.lo, h.Wm, h.sav.drew, h.bW, h.ht⟩
theorem Ap.drewN {W w : World} {p m n cap b off g : Nat} {ts : List ByteArray} {kf qf : Nat → Nat} {f : Nat → Bool} (h : Ap W p m n cap b off g ts kf qf f w) (i : Nat) : Ap W p m n cap b off g ts kf qf f (w.drewN i) :=
  ⟨h.hp, h.hm, h.tg, h.hg, h.hk, h.hq, h.up, h.lo, h.Wm, h.sav.drewN i, h.bW, h.ht⟩
/-- Another block is turned, or made. -/
theorem Ap.other {W w w' : World} {p m n cap b off g a : Nat} {ts : List ByteArray} {kf qf : Nat → Nat} {f : Nat → Bool} (h : Ap W p m n cap b off g ts kf qf f w) (hs : Sav (Just a) w w') (ha : w.heap.size ≤ a ∨ ∃ cs t r, w.heap[a]? = some (.cells cs t r) ∧ t ≠ 28 ∧ t ≠ 31 ∧ t ≠ 23 ∧ t ≠ 3 ∧ t ≠ 48) (hW : W.heap.size ≤ a) : Ap W p m n cap b off g ts kf qf f w' := by
  have key : ∀ {c : Nat} {cs : Array Value} {t : TypeId} {r : Nat × Nat}, w.heap[c]? = some (.cells cs t r) → (t = 28 ∨ t = 31 ∨ t = 23 ∨ t = 3 ∨ t = 48) → w'.heap[c]? = some (.cells cs t r) := by
    intro c cs t r hc ht
    refine hs.at hc (fun e => ?_)
    have e1 : c = a := e
    subst e1
    rcases ha with h1 | ⟨cs2, t2, r2, h1, h2⟩
    · have := lt_of_block hc; omega
    · rw [hc] at h1
      simp at h1
      obtain ⟨_, rfl, _⟩ := h1
      obtain ⟨n1, n2, n3, n4, n5⟩ := h2
      rcases ht with e | e | e | e | e
      · exact n1 e
      · exact n2 e
      · exact n3 e
      · exact n4 e
      · exact n5 e
  obtain ⟨cur, hcur⟩ := h.tg
  have hcur' := key hcur (by simp)
  refine ⟨key h.hp (by simp), key h.hm (by simp), ⟨cur, hcur'⟩, fun j hj => ?_, fun j hj => key (h.hk j hj) (by simp), fun j hj => ?_, h.up, h.lo, h.Wm, ?_, h.bW, h.ht⟩
  · rw [← h.hg j hj]
    exact World.cell?_of_block (w := w) (hcur'.trans hcur.symm)
  · obtain ⟨c2, hc2⟩ := apObj_tag (f j) m (kf j) p (ts.getD j ByteArray.empty)
    have hj2 := h.hq j hj
    rw [hc2] at hj2 ⊢
    exact key hj2 (by simp)
  · exact h.sav.then hs (fun i hi e => by unfold Just at e; omega)

theorem A1.done {W w : World} {p m n cap b off : Nat} {cv : Value} {ts : List ByteArray} {kf qf : Nat → Nat} (h : A1 W p m n cap (some ⟨b, off, none⟩) n cv kf qf w) (hn : 0 < n) (bW : b < W.heap.size)
    (ht : ∀ j, j < n → W.cell? ⟨b, off + j, none⟩ = some (.string (ts.getD j ByteArray.empty))) : ∃ g vcap, cv = .slice (some ⟨g, 0, none⟩) n vcap ∧ n ≤ vcap ∧ Ap W p m n cap b off g ts kf qf (fun _ => false) w := by
  rcases h.own.2 with ⟨_, h0⟩ | ⟨g, vcap, cur, rfl, _, hg, h1, _⟩
  · omega
  · refine ⟨g, vcap, rfl, h1, h.hp, h.hm, ⟨cur, hg⟩, fun j hj => ?_, h.hk, fun j hj => h.hq j hj, h.up, h.lo, h.Wm, h.sav, bW, ht⟩
    rw [h.own.cellAt j (by omega)]
    simp [hj]

/-- The numbers' cells. -/
theorem ints_at {W : World} {bo : Option Addr} {ns : List Int}
    (h : ns ≠ [] → ∃ b off, bo = some ⟨b, off, none⟩ ∧ b < W.heap.size ∧ ∀ j a, ns[j]? = some a → ∃ ds : List Value, ds.length = 1 ∧ rInt .i64 W ds a ∧ ∀ (k : Nat) (u : Value), ds[k]? = some u → W.cell? ⟨b, off + j * 1 + k, none⟩ = some u) {j : Nat} (hj : j < ns.length) :
    ∃ b off, bo = some ⟨b, off, none⟩ ∧ b < W.heap.size ∧ W.cell? ⟨b, off + j, none⟩ = some (.int .i64 (ns.getD j 0)) := by
  obtain ⟨b, off, rfl, hb, hc⟩ := h (by intro e; rw [e] at hj; simp at hj)
  obtain ⟨ds, _, ⟨rfl, _⟩, hcell⟩ := hc j ns[j] (List.getElem?_eq_getElem hj)
  have := hcell 0 _ rfl
  rw [Nat.mul_one, Nat.add_zero] at this
  refine ⟨b, off, rfl, hb, ?_⟩
  simpa [List.getD, List.getElem?_eq_getElem hj] using this
theorem uwrap_nat {n : Nat} (h : n ≤ 20) : IntKind.u64.wrap (n : Int) = n := by
  rw [uwrap_eq]; omega
theorem low_i64 (x n : Int) (h1 : 1 ≤ n) (h2 : n ≤ 4611686018427387904) : IntKind.i64.wrap ((IntKind.u64.wrap x).tmod n) = low x n := by
  rw [← low_eq x n h1 h2]
  exact IntWalk.i64_left _
end Go.Proofs.Ytljkejekcidibaa
