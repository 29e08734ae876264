/- Two nets, the program's and the document's own, side by side. -/
import Derived.Test.YtocedfagfmkgdaaLtAwake
import Derived.Test.YtocedfagfmkgdaaLtOver
import Derived.Test.YtocedfagfmkgdaaLtRefTake
import Derived.Test.YtocedfagfmkgdaaLtRefSend
namespace Go.Proofs.Ytocedfagfmkgdaa
open Go.RowKit
set_option linter.unusedVariables false

/-- Acts that lie in blocks of their own stay. -/
def KeepA (w w' : World) : Prop := ∀ (g : Nat) (A : Array Value), w.heap[g]? = some (.cells A 38 (0, 0)) → w'.heap[g]? = some (.cells A 38 (0, 0))
theorem KeepA.below {w w' : World} (h : Below w.heap.size w w') : KeepA w w' := fun g A hg => (h.block _ (lt_of_block hg)).trans hg
theorem KeepA.trans {x y z : World} (h : KeepA x y) (k : KeepA y z) : KeepA x z := fun g A hg => k g A (h g A hg)
/-- The program's net in block p, the document's in block q; nothing is told of their letters yet. -/
structure Two (Z : World) (p q : Nat) (u v : Value) (ns rs : List LetX) (w : World) : Prop where
  net : Nt Z.heap.size p u ns w
  ref : Rf Z.heap.size q v rs w
  is : ∀ r ∈ rs, r.Is Z
  apart : ∀ k, u.ownBlock = some k → v.ownBlock ≠ some k
  bel : Below Z.heap.size Z w
  lp : Z.heap.size ≤ p
  lq : Z.heap.size ≤ q
/-- A slice of two letters, apart from the program's net and from the document's object. -/
structure Sl (p q : Nat) (u : Value) (a : Nat) (x y : LetX) (w : World) : Prop where
  reads : Reads 12 encL w (.slice (some ⟨a, 0, none⟩) 2 2) [x, y]
  lt : a < w.heap.size
  np : a ≠ p
  nq : a ≠ q
  nu : u.ownBlock ≠ some a
section
variable {Z : World} {p q a : Nat} {u v u' v' : Value} {ns rs : List LetX} {x y : LetX} {l : List LetV} {w w' : World}
theorem Two.low (h : Two Z p q u v ns rs w) : Z.heap.size ≤ w.heap.size := h.bel.size
theorem Two.pq (h : Two Z p q u v ns rs w) : p ≠ q := tag_ne h.net.obj h.ref.obj (by decide)
theorem Two.on (h : Two Z p q u v ns rs w) (hb : Below w.heap.size w w') : Two Z p q u v ns rs w' := ⟨h.net.below hb, h.ref.below hb, h.is, h.apart, below_then h.bel hb h.low, h.lp, h.lq⟩
theorem Two.here (h : Two Z p q u v ns rs w) {z : LetX} (hz : z.Is Z) : z.Is w := hz.below h.bel
theorem Sl.on (h : Sl p q u a x y w) (hb : Below w.heap.size w w') : Sl p q u a x y w' := ⟨h.reads.below hb, Nat.lt_of_lt_of_le h.lt hb.size, h.np, h.nq, h.nu⟩
theorem Two.ow (h : Two Z p q u v ns rs w) : ∀ k, Ow p u k → Z.heap.size ≤ k := fun k hk => by
  rcases hk with hk | hk
  · rw [hk]; exact h.lp
  · exact (h.net.row.row.lt k hk).1
theorem Sl.new (h : Two Z p q u v ns rs w) (x y : LetX) : Sl p q u w.heap.size x y (w.alloc (.cells (twoCs x y) 36)) :=
  ⟨by have := Reads.made encL_len (by decide) 36 [x, y] w (by simp); simp only [fl, List.flatMap_cons, List.flatMap_nil, List.append_nil] at this; exact this, by simp, by have := h.net.lt; omega, by have := h.ref.lt; omega, fun e => by have := (h.net.row.row.lt _ e).2; omega⟩
theorem Sl.send (h : Sl p q u a x y w) (hT : Two Z p q u v ns rs w) (hx : x.Is Z) (hy : y.Is Z) : ∀ w', Sav (Ow p u) w w' → LetsX w' (.slice (some ⟨a, 0, none⟩) 2 2) [x, y] := fun w' hs => by
  have hb : Below Z.heap.size Z w' := hT.bel.trans (hs.below hT.ow hT.low)
  refine ⟨h.reads.sav hs h.lt (fun e => ?_), fun z hz => ?_⟩
  · rcases e with e | e
    · exact h.np e
    · exact h.nu e
  · rcases List.mem_cons.1 hz with rfl | hz
    · exact hx.below hb
    · rw [List.mem_singleton.1 hz]; exact hy.below hb
theorem Sl.sendR (h : Sl p q u a x y w) : ∀ w', Sav (Just q) w w' → Reads 12 encL w' (.slice (some ⟨a, 0, none⟩) 2 2) [x, y] := fun w' hs => h.reads.sav hs h.lt h.nq
/-- The program's net turns. -/
theorem Two.turnN (h : Two Z p q u v ns rs w) (ht : Turns Z.heap.size p u l w w') : ∃ u' ns', plain ns' = l ∧ Two Z p q u' v ns' rs w' ∧ KeepA w w' ∧ ∀ a x y, Sl p q u a x y w → Sl p q u' a x y w' := by
  obtain ⟨u', ns', h1, h2, h3, h4⟩ := ht
  have hnp : ∀ k, v.ownBlock = some k → ¬ Ow p u k := fun k hk e => by
    rcases e with e | e
    · exact owns_ne h.ref.row h.net.obj (by decide) (by rw [hk]; exact congrArg some e.symm)
    · exact h.apart k e hk
  refine ⟨u', ns', h1, ⟨h2, h.ref.sav h3 (fun e => ?_) hnp, h.is, fun k hk hv => ?_, h.bel.trans (h3.below h.ow h.low), h.lp, h.lq⟩, fun g A hg => h3.at hg (fun e => ?_), fun a x y hs => ⟨hs.reads.sav h3 hs.lt (fun e => ?_), Nat.lt_of_lt_of_le hs.lt h3.size, hs.np, hs.nq, fun e => ?_⟩⟩
  · rcases e with e | e
    · exact h.pq e.symm
    · exact owns_ne h.net.row.row h.ref.obj (by decide) e.symm
  · rcases h4 with e | e
    · exact h.apart k (by rw [← e]; exact hk) hv
    · have h5 := e k hk
      have h6 := (h.ref.row.lt k hv).2
      omega
  · rcases e with e | e
    · exact tag_ne hg h.net.obj (by decide) e
    · exact owns_ne h.net.row.row hg (by decide) e.symm
  · rcases e with e | e
    · exact hs.np e
    · exact hs.nu e
  · rcases h4 with r | r
    · exact hs.nu (by rw [← r]; exact e)
    · have h5 := r a e
      have h6 := hs.lt
      omega
/-- The document's turns. -/
theorem Two.turnR {rs' : List LetX} (h : Two Z p q u v ns rs w) (ht : RTurns Z.heap.size q v rs' w w') (hi : ∀ r ∈ rs', r.Is Z) : ∃ v', Two Z p q u v' ns rs' w' ∧ KeepA w w' := by
  obtain ⟨v', h2, h3, h4⟩ := ht
  refine ⟨v', ⟨h.net.sav h3 h.pq (fun k hk e => ?_) (fun k cs t f hk hc => ?_), h2, hi, fun k hk hv => ?_, h.bel.trans (h3.below (fun k hk => by rw [show k = q from hk]; exact h.lq) h.low), h.lp, h.lq⟩, fun g A hg => h3.at hg (fun e => tag_ne hg h.ref.obj (by decide) e)⟩
  · exact owns_ne h.net.row.row h.ref.obj (by decide) (by rw [hk]; exact congrArg some (show k = q from e).symm)
  · rw [show k = q from hk, h.ref.obj] at hc
    cases hc
    exact ⟨by decide, by decide⟩
  · rcases h4 with e | e
    · exact h.apart k hk (by rw [← e]; exact hv)
    · have h5 := e k hv
      have h6 := (h.net.row.row.lt k hk).2
      omega
end
theorem Two.ownR {Z : World} {p q B : Nat} {u v : Value} {ns rs : List LetX} {y : LetX} {w w' : World} (h : Two Z p q u v ns rs w) (hs : Sav (Just q) w w') (hy : y.Own B w) : y.Own B w' := hy.tag hs (fun k cs t f hk hc => by
  rw [show k = q from hk, h.ref.obj] at hc
  cases hc
  exact ⟨by decide, by decide⟩)
theorem lost_same {ns rs : List LetX} (h : plain ns = plain rs) (ls : List LetX) : lostN rs ls = lostN (plain ns) (plain ls) := by
  unfold lostN
  rw [plain_len, h, plain_len]
theorem sent_same {ns rs : List LetX} (h : plain ns = plain rs) (ls : List LetX) : plain (sendN rs ls) = sendN (plain ns) (plain ls) := by
  unfold sendN
  rw [h, plain_len]
  unfold plain
  rw [List.map_append, List.map_take]
theorem sent_is {Z : World} {rs ls : List LetX} (h : ∀ r ∈ rs, r.Is Z) (k : ∀ r ∈ ls, r.Is Z) : ∀ r ∈ sendN rs ls, r.Is Z := by
  intro r hr
  unfold sendN at hr
  rcases List.mem_append.1 hr with e | e
  · exact h r e
  · exact k r (List.mem_of_mem_take e)
theorem place_same {ns rs : List LetX} (h : plain ns = plain rs) (i : Int) : placeN rs i = placeN (plain ns) i := by
  unfold placeN
  rw [h, plain_len]
theorem left_same {ns rs : List LetX} (h : plain ns = plain rs) (i : Int) : plain (leftN rs i) = leftN (plain ns) i := by
  unfold leftN
  rw [place_same h]
  split
  · rw [h]; exact map_outN _ _ _
  · exact h.symm
theorem left_is {Z : World} {rs : List LetX} (h : ∀ r ∈ rs, r.Is Z) (i : Int) : ∀ r ∈ leftN rs i, r.Is Z := by
  intro r hr
  unfold leftN at hr
  split at hr
  · unfold outN at hr
    rcases List.mem_append.1 hr with e | e
    · exact h r (List.mem_of_mem_take e)
    · exact h r (List.mem_of_mem_drop e)
  · exact h r hr
theorem took_is {Z : World} {rs : List LetX} (h : ∀ r ∈ rs, r.Is Z) (i : Int) : (tookN zeroX rs i).Is Z := by
  unfold tookN
  split
  · rw [List.getD_eq_getElem?_getD]
    cases e : rs[i.toNat]? with
    | none => exact plainX_is 0 0 Z
    | some r => exact h r (List.mem_of_getElem? e)
  · exact plainX_is 0 0 Z
theorem took_same {ns rs : List LetX} (h : plain ns = plain rs) (i : Int) : (tookN zeroX rs i).r = tookN zeroL (plain ns) i := by
  unfold tookN
  rw [place_same h, h]
  split
  · rw [List.getD_eq_getElem?_getD, List.getD_eq_getElem?_getD]
    unfold plain
    rw [List.getElem?_map]
    cases rs[i.toNat]? with
    | none => rfl
    | some r => rfl
  · rfl
theorem ok_same {ns rs : List LetX} (h : plain ns = plain rs) (i : Int) : okD rs i = okD (plain ns) i := by
  unfold okD
  rw [place_same h, h, plain_len]
theorem dbl_same {ns rs : List LetX} (h : plain ns = plain rs) (i : Int) : plain (dblN rs i) = dblN (plain ns) i := by
  unfold dblN
  rw [ok_same h, h]
  split
  · unfold plain
    rw [List.map_append, List.getElem?_map]
    cases rs[i.toNat]? with
    | none => rfl
    | some r => rfl
  · rfl
theorem dbl_is {Z : World} {rs : List LetX} (h : ∀ r ∈ rs, r.Is Z) (i : Int) : ∀ r ∈ dblN rs i, r.Is Z := by
  intro r hr
  unfold dblN at hr
  split at hr
  · rcases List.mem_append.1 hr with e | e
    · exact h r e
    · exact h r (List.mem_of_getElem? (by simpa using e))
  · exact h r hr
theorem two_mem {Z : World} {x y : LetX} (hx : x.Is Z) (hy : y.Is Z) : ∀ r ∈ [x, y], r.Is Z := fun r hr => by
  rcases List.mem_cons.1 hr with rfl | hr
  · exact hx
  · rw [List.mem_singleton.1 hr]; exact hy
theorem two_sm {x y : LetX} (hx : Sm x.r) (hy : Sm y.r) : ∀ r ∈ [x, y], Sm r.r := fun r hr => by
  rcases List.mem_cons.1 hr with rfl | hr
  · exact hx
  · rw [List.mem_singleton.1 hr]; exact hy
end Go.Proofs.Ytocedfagfmkgdaa
