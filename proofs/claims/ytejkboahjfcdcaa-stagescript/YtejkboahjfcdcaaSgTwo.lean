/- Both stages, the program's and the document's own, apart from each other. -/
import Derived.Test.YtejkboahjfcdcaaSgLaw
import Derived.Test.YtejkboahjfcdcaaSfPut
import Derived.Test.YtejkboahjfcdcaaSfTake
namespace Go.Proofs.Ytejkboahjfcdcaa
open Go.RowKit
set_option linter.unusedVariables false

/-- What the document's Put answers, and leaves. -/
def RPutIs (B q : Nat) (v : Value) (Y : List ((Int × Int) × Pay)) (k : Int × Int) (seq : Int) (ps : List KV) (w : World) (e : Ending) (w' : World) : Prop :=
  e = .returned (.int .i64 (putN (chS Y) k seq : Nat)) ∧ ∃ v' Y', Sf B q v' Y' w' ∧ chS Y' = putS (chS Y) k seq ps ∧ Sav (InF q v Y) w w' ∧ NextF w q v Y v' Y'
theorem rput_any (B q : Nat) (v : Value) (Y : List ((Int × Int) × Pay)) (k : Int × Int) (seq : Int) (a : Value) (ps : List KV) (w : World) (h : Sf B q v Y w) (ho : OkS (chS Y)) (ha : ∀ w', Sav (InF q v Y) w w' → Prs w' a ps) (hps : ps.length ≤ 1000) :
    Calls Try.prog 13 #[.pointer (some ⟨q, 0, none⟩), .int .i64 k.1, .int .i64 k.2, .int .i64 seq, a] w (RPutIs B q v Y k seq ps w) := by
  cases ht : takesS (chS Y) k seq with
  | true =>
    obtain ⟨h1, h2, h3⟩ := (takesS_iff _ _ _).1 ht
    subst h2
    refine (rput_take B q v Y k a ps w h ho ha hps _ rfl h1 (by omega)).mono ?_
    rintro e w' ⟨rfl, v', Y', p1, p2, p3, p4⟩
    refine ⟨?_, v', Y', p1, ?_, p3, p4⟩
    · unfold putN
      rw [if_pos ht]
    · unfold putS
      rw [if_pos ht]
      exact p2
  | false =>
    refine (rput_not B q v Y k seq a w h ho ht).mono ?_
    rintro e w' ⟨rfl, rfl⟩
    refine ⟨by rw [putN_not ho ht], v, Y, h, ?_, Sav.refl _ _, NextF.refl _ _ _ _⟩
    unfold putS
    rw [if_neg (by rw [ht]; simp)]
/-- Both, apart from each other, made behind B. -/
structure Both (B b q : Nat) (mv v : Value) (X Y : List ((Int × Int) × Pay)) (W w : World) : Prop where
  og : OnG B b mv X W w
  sf : Sf B q v Y w
  off : ∀ g, InG b mv X g → ¬ InF q v Y g
/-- A block that belongs to neither. -/
structure Rest (b q : Nat) (mv v : Value) (X Y : List ((Int × Int) × Pay)) (P : Nat) (o : Obj) (w : World) : Prop where
  obj : w.heap[P]? = some o
  g : ¬ InG b mv X P
  f : ¬ InF q v Y P
section
variable {B b q P : Nat} {mv mv' v v' : Value} {X X' Y Y' : List ((Int × Int) × Pay)} {W w w' : World} {o : Obj}
theorem Both.below (h : Both B b q mv v X Y W w) (hb : Below w.heap.size w w') : Both B b q mv v X Y W w' := ⟨h.og.below hb, h.sf.below hb, h.off⟩
theorem Both.turnG (h : Both B b q mv v X Y W w) (k : Sg B b mv' X' w') (hs : Sav (InG b mv X) w w') (hn : NextG w b mv X mv' X') : Both B b q mv' v X' Y W w' :=
  ⟨h.og.turn k hs, h.sf.sav hs (fun g hf hg => h.off g hg hf), fun g hg hf => (hn g hg).elim (fun e => h.off g e hf) (fun e => by have := (h.sf.lt hf).2; omega)⟩
theorem Both.turnF (h : Both B b q mv v X Y W w) (k : Sf B q v' Y' w') (hs : Sav (InF q v Y) w w') (hn : NextF w q v Y v' Y') : Both B b q mv v' X Y' W w' :=
  ⟨⟨h.og.sg.sav hs h.off, h.og.bel.trans (h.sf.bel hs)⟩, k, fun g hg hf => (hn g hf).elim (fun e => h.off g hg e) (fun e => by have := (h.og.sg.lt hg).2; omega)⟩
theorem Rest.new (h : Both B b q mv v X Y W w) (o : Obj) : Rest b q mv v X Y w.heap.size o (w.alloc o) :=
  ⟨new_block _ _, fun e => Nat.lt_irrefl _ (h.og.sg.lt e).2, fun e => Nat.lt_irrefl _ (h.sf.lt e).2⟩
theorem Rest.below (h : Rest b q mv v X Y P o w) (hb : Below w.heap.size w w') : Rest b q mv v X Y P o w' := ⟨(hb.block _ (lt_of_block h.obj)).trans h.obj, h.g, h.f⟩
theorem Rest.turnG (h : Rest b q mv v X Y P o w) (hs : Sav (InG b mv X) w w') (hn : NextG w b mv X mv' X') : Rest b q mv' v X' Y P o w' :=
  ⟨hs.at h.obj h.g, fun e => (hn P e).elim h.g (fun e2 => by have := lt_of_block h.obj; omega), h.f⟩
theorem Rest.turnF (h : Rest b q mv v X Y P o w) (hs : Sav (InF q v Y) w w') (hn : NextF w q v Y v' Y') : Rest b q mv v' X Y' P o w' :=
  ⟨hs.at h.obj h.f, h.g, fun e => (hn P e).elim h.f (fun e2 => by have := lt_of_block h.obj; omega)⟩
/-- A row of neither is written over. -/
theorem Both.over {u : Value} {n : Nat} {xs : List Value} (h : Both B b q mv v X Y W w) (ho : w.ownsRow B 53 2 u n xs) (hg : w.grownBy w' u.ownBlock) (h1 : ∀ g, u.ownBlock = some g → ¬ InG b mv X g ∧ ¬ InF q v Y g) : Both B b q mv v X Y W w' := by
  have hs : Sav (fun g => u.ownBlock = some g) w w' := Sav.grown hg (fun g hg => hg)
  exact ⟨⟨h.og.sg.sav hs (fun g hg2 e => (h1 g e).1 hg2), h.og.bel.trans (hs.below (fun g e => (ho.lt g e).1) h.og.sg.low)⟩, h.sf.sav hs (fun g hg2 e => (h1 g e).2 hg2), h.off⟩
theorem Rest.over {u : Value} {n : Nat} {xs : List Value} {cs : Array Value} {t : TypeId} (h : Rest b q mv v X Y P (.cells cs t (0, 0)) w) (ho : w.ownsRow B 53 2 u n xs) (ht : t ≠ 53) (hg : w.grownBy w' u.ownBlock) : Rest b q mv v X Y P (.cells cs t (0, 0)) w' := by
  exact ⟨grown_at ho hg h.obj ht, h.g, h.f⟩
/-- Each list that is no longer than the heap was is of neither. -/
theorem Both.new (h : Both B b q mv v X Y W w) {g : Nat} (hg : w.heap.size ≤ g) : ¬ InG b mv X g ∧ ¬ InF q v Y g :=
  ⟨fun e => by have := (h.og.sg.lt e).2; omega, fun e => by have := (h.sf.lt e).2; omega⟩
theorem Both.len (h : Both B b q mv v X Y W w) (he : chS X = chS Y) : Y.length = (chS X).length := by rw [he, chS_len]
end
theorem count_q (B b : Nat) (mv : Value) (X : List ((Int × Int) × Pay)) (L : Nat) (w : World) (h : Sg B b mv X w) (hL : (chS X).length = L) : ∀ n, Calls Try.prog 21 #[.pointer (some ⟨b, 0, none⟩)] (w.drewN n) fun e w' => e = .returned (.int .i64 (L : Nat)) ∧ ∃ m, w' = w.drewN m := fun n =>
  (count_any B b mv X (w.drewN n) (h.below (below_drew w n))).mono fun e w' ⟨h1, h2⟩ => ⟨by rw [h1, hL], n, h2.symm⟩
theorem nextg_q (B b : Nat) (mv : Value) (X : List ((Int × Int) × Pay)) (k : Int × Int) (hk : W64 k) (N : Nat) (w : World) (h : Sg B b mv X w) (hN : (getS (chS X) k).length = N) : ∀ n, Calls Try.prog 22 #[.pointer (some ⟨b, 0, none⟩), .int .i64 k.1, .int .i64 k.2] (w.drewN n) fun e w' => e = .returned (.int .i64 (N : Nat)) ∧ ∃ m, w' = w.drewN m := fun n =>
  (next_any B b mv X k hk (w.drewN n) (h.below (below_drew w n))).mono fun e w' ⟨h1, h2⟩ => ⟨by rw [h1, hN], n, h2.symm⟩
theorem rnext_q (B q : Nat) (v : Value) (Y : List ((Int × Int) × Pay)) (k : Int × Int) (N : Nat) (w : World) (h : Sf B q v Y w) (ho : OkS (chS Y)) (hN : (getS (chS Y) k).length = N) : ∀ n, Calls Try.prog 23 #[.pointer (some ⟨q, 0, none⟩), .int .i64 k.1, .int .i64 k.2] (w.drewN n) fun e w' => e = .returned (.int .i64 (N : Nat)) ∧ ∃ m, w' = w.drewN m := fun n =>
  (rnext_any B q v Y k (w.drewN n) (h.below (below_drew w n)) ho).mono fun e w' ⟨h1, h2⟩ => ⟨by rw [h1, hN], n, h2.symm⟩
end Go.Proofs.Ytejkboahjfcdcaa
