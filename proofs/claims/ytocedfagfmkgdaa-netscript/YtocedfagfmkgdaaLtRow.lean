/- Rows of letters that are owned; cells written one behind the other; clear of one element. -/
import Derived.Test.YtocedfagfmkgdaaLtGreat
import Derived.Test.YtocedfagfmkgdaaLtSame
import Derived.Laws.IdiomCopy
namespace Go.Proofs.Ytocedfagfmkgdaa
open Go.RowKit
set_option linter.unusedVariables false

theorem Try.infoL : (Try.prog.info? 36).map (fun i => (i.zero, i.size, i.bytes)) = some (some (.agg #[.int .i64 zeroX.r.from_, .int .i64 zeroX.r.to_, .int .i64 zeroX.r.kind, .int .i64 zeroX.r.split, .int .i64 zeroX.r.attempt, .int .i64 zeroX.r.part, .int .i64 zeroX.r.seq, .int .i64 zeroX.r.next, .int .i64 zeroX.r.epoch, .int .i64 zeroX.r.reason, .slice zeroX.so zeroX.r.set.length zeroX.sc, .slice zeroX.po zeroX.r.prs.length zeroX.pc]), 12, 128) := by kernel_rfl
def LetX.sv (x : LetX) : Value := .slice x.so x.r.set.length x.sc
def LetX.pv (x : LetX) : Value := .slice x.po x.r.prs.length x.pc
/-- Its lists are owned. -/
structure LetX.Own (B : Nat) (x : LetX) (w : World) : Prop where
  set : w.ownsRow B 3 1 x.sv x.r.set.length (ict x.r.set)
  prs : w.ownsRow B 80 2 x.pv x.r.prs.length (fl encP x.r.prs)
section
variable {B C : Nat} {x : LetX} {w w' : World}
theorem LetX.Own.is (h : x.Own B w) : x.Is w := ⟨ints_own h.set, Reads.own encP_len (by decide) h.prs⟩
theorem LetX.Own.below (h : x.Own B w) (hb : Below w.heap.size w w') : x.Own B w' := ⟨owns_below h.set hb, owns_below h.prs hb⟩
theorem LetX.Own.low (h : x.Own B w) (hc : C ≤ B) : x.Own C w := ⟨owns_low h.set hc, owns_low h.prs hc⟩
theorem LetX.Own.grown {n s : Nat} {u : Value} {ys : List Value} (h : x.Own B w) (ho : w.ownsRow C 36 s u n ys) (hg : w.grownBy w' u.ownBlock) : x.Own B w' := ⟨owns_grown h.set ho (by decide) hg, owns_grown h.prs ho (by decide) hg⟩
/-- Only blocks of other types turn. -/
theorem LetX.Own.sav {S : Nat → Prop} (h : x.Own B w) (hs : Sav S w w') (h1 : ∀ k, x.sv.ownBlock = some k → ¬ S k) (h2 : ∀ k, x.pv.ownBlock = some k → ¬ S k) : x.Own B w' := ⟨owns_sav h.set hs h1, owns_sav h.prs hs h2⟩
end
/-- Blocks turn that are of other types than its lists'. -/
theorem LetX.Own.tag {B : Nat} {x : LetX} {w w' : World} {S : Nat → Prop} (h : x.Own B w) (hs : Sav S w w') (h1 : ∀ k cs t f, S k → w.heap[k]? = some (.cells cs t f) → t ≠ 3 ∧ t ≠ 80) : x.Own B w' := by
  have off : ∀ {e s n ys} {v : Value}, w.ownsRow B e s v n ys → (e = 3 ∨ e = 80) → ∀ k, v.ownBlock = some k → ¬ S k := by
    intro e s n ys v ho he k hk hS
    rcases ho.2 with ⟨rfl, _⟩ | ⟨g, cap, cur, rfl, _, hg, _⟩
    · cases hk
    · cases hk
      have := h1 _ _ _ _ hS hg
      rcases he with rfl | rfl
      · exact this.1 rfl
      · exact this.2 rfl
  exact h.sav hs (off h.set (.inl rfl)) (off h.prs (.inr rfl))
/-- Their lists share no memory. -/
def LetX.Apart (x y : LetX) : Prop := (∀ g, x.sv.ownBlock = some g → y.sv.ownBlock ≠ some g) ∧ (∀ g, x.pv.ownBlock = some g → y.pv.ownBlock ≠ some g)
/-- A row of letters that is owned from B on; each one's lists are owned. -/
structure LRow (B : Nat) (xs : List LetX) (u : Value) (w : World) : Prop where
  row : w.ownsRow B 36 12 u xs.length (fl encL xs)
  own : ∀ x ∈ xs, x.Own B w
section
variable {B C b : Nat} {xs : List LetX} {x : LetX} {u u' : Value} {w w' : World}
theorem LRow.nil (B : Nat) (w : World) : LRow B [] (.slice none 0 0) w := ⟨World.ownsRow_nil _ _ _ _, fun x hx => by simp at hx⟩
theorem LRow.below (h : LRow B xs u w) (hb : Below w.heap.size w w') : LRow B xs u w' := ⟨owns_below h.row hb, fun x hx => (h.own x hx).below hb⟩
theorem LRow.lets (h : LRow B xs u w) : LetsX w u xs := ⟨Reads.own encL_len (by decide) h.row, fun x hx => (h.own x hx).is⟩
theorem LRow.low (h : LRow B xs u w) (hc : C ≤ B) : LRow C xs u w := ⟨owns_low h.row hc, fun x hx => (h.own x hx).low hc⟩
/-- Blocks turn that are none of its own. -/
theorem LRow.sav {S : Nat → Prop} (h : LRow B xs u w) (hs : Sav S w w') (h0 : ∀ k, u.ownBlock = some k → ¬ S k) (h1 : ∀ k cs t f, S k → w.heap[k]? = some (.cells cs t f) → t ≠ 3 ∧ t ≠ 80) : LRow B xs u w' := by
  exact ⟨owns_sav h.row hs h0, fun x hx => (h.own x hx).tag hs h1⟩
theorem fl_single (x : LetX) : fl encL [x] = encL x := by simp [fl]
/-- One more letter, whose lists are owned. -/
theorem LRow.push (h : LRow B xs u w) (hx : x.Own B w) (ho : w'.ownsRow B 36 12 u' (xs.length + 1) (fl encL xs ++ encL x)) (hg : w.grownBy w' u.ownBlock) : LRow B (xs ++ [x]) u' w' := by
  refine ⟨by rw [List.length_append, fl_append, List.length_singleton, fl_single]; exact ho, fun y hy => ?_⟩
  rcases List.mem_append.1 hy with e | e
  · exact (h.own y e).grown h.row hg
  · rw [List.mem_singleton.1 e]
    exact hx.grown h.row hg
end
theorem new_cells (w : World) (xs : Array Value) (t : TypeId) : ∀ j u, xs.toList[j]? = some u → (w.alloc (.cells xs t)).cell? ((⟨w.heap.size, 0, none⟩ : Addr).add j) = some u := by
  intro j u h
  rw [addr_add, Nat.zero_add, cell_of_cells (new_block w (.cells xs t))]
  simpa using h

/-- append onto what the call owns, as one step of a region that draws its order: the slot is written out, and where the new row lies. -/
theorem step_append_to {P : Program} {ops : Array Oper} {o : Oper} {a : Act} {w : World} {K : Act → World → Prop} {Q : Exit → Act → World → Prop} {C : Prop}
    (d : Nat) (hdst : o.dst = some d) (hg : o.guard = none) (s x : Operand) (t : TypeId) (hop : o.op = Op.call { callee := Callee.builtin Builtin.append, args := #[s, x], argTypes := #[t, t] })
    (base : Nat) (e : TypeId) (i : TypeInfo) (z : Value) (size bytes : Nat) (h1 : P.underlying t = some (.slice e)) (h2 : P.info? e = some i) (h3 : i.zero = some z) (h4 : i.size = size) (h5 : i.bytes = bytes) (h6 : z.cells.size = size) (h7 : 0 < size)
    (v : Value) (n : Nat) (xs : List Value) (hs : a.eval s = v) (hown : w.ownsRow base e size v n xs)
    (ad : Addr) (m c : Nat) (news : List Value) (hx : a.eval x = .slice (some ad) m c) (hn : news.length = m * size) (hc : ∀ j u, news[j]? = some u → w.cell? (ad.add j) = some u) (h1c : ∀ u ∈ news, u.oneCell' = true)
    (b1 : n + m ≤ maxLen) (b2 : (n + m) * bytes ≤ 140737488355328) (hb : base ≤ w.heap.size)
    (hK : ∀ v' w', w'.ownsRow base e size v' (n + m) (xs ++ news) → w.grownBy w' v.ownBlock → (v'.ownBlock = v.ownBlock ∨ v'.ownBlock = some w.heap.size) → K (a.put (some d) v') w') :
    if Region.wanted o (yielded ops a.tmps) = true then Oper.wp P o a w K Q else C := by
  have hw : Region.wanted o (yielded ops a.tmps) = true := by simp [Region.wanted, hg]
  rw [if_pos hw]
  have hK2 : ∀ v' w', w'.ownsRow base e size v' (n + m) (xs ++ news) → w.grownBy w' v.ownBlock → (v'.ownBlock = v.ownBlock ∨ v'.ownBlock = some w.heap.size) → K (a.put o.dst v') w' := by rw [hdst]; exact hK
  obtain ⟨v', w', hrun, r1, r2, _, r3⟩ := run_append_own_at (P := P) w base t o.type e i z size bytes h1 h2 h3 h4 h5 h6 h7 v n xs hown ad m c news hn hc h1c b1 b2 hb
  unfold Oper.wp
  simp [execOp, hop, resolve, invoke, builtin, hs, hx, hrun, Result.andThen]
  exact hK2 v' w' r1 r2 r3

/-! ### Cells one behind the other -/
/-- A list with another one written over it from place o on. -/
def over (xs l : List Value) (o : Nat) : List Value := xs.take o ++ l ++ xs.drop (o + l.length)
theorem over_cons (xs : List Value) (v : Value) (l : List Value) (o : Nat) (h : o < xs.length) : over (xs.set o v) l (o + 1) = over xs (v :: l) o := by
  unfold over
  rw [List.take_add_one, List.take_set_of_le (by omega), List.drop_set_of_lt (by omega), List.getElem?_set_self (by omega), List.length_cons, show o + 1 + l.length = o + (l.length + 1) by omega]
  simp
theorem owns_over {B e s g n cap : Nat} : ∀ (l : List Value) (o : Nat) (xs : List Value) (w : World), w.ownsRow B e s (.slice (some ⟨g, 0, none⟩) n cap) n xs → o + l.length ≤ xs.length →
    (w.setCells g o l).ownsRow B e s (.slice (some ⟨g, 0, none⟩) n cap) n (over xs l o) ∧ w.grownBy (w.setCells g o l) (some g)
  | [], o, xs, w, h, _ => by
    have : over xs [] o = xs := by simp [over]
    rw [this]
    exact ⟨h, World.grownBy.refl _ _⟩
  | v :: l, o, xs, w, h, hl => by
    rw [List.length_cons] at hl
    have s1 := h.stored o v
    have s2 := owns_over l (o + 1) _ _ s1.1 (by rw [List.length_set]; omega)
    rw [over_cons _ _ _ _ (by omega)] at s2
    exact ⟨s2.1, grownBy_trans s1.2 s2.2⟩
/-- Without the letter at a place. -/
def outL (xs : List LetX) (i : Nat) : List LetX := xs.take i ++ xs.drop (i + 1)
theorem outL_length {xs : List LetX} {i : Nat} (h : i < xs.length) : (outL xs i).length = xs.length - 1 := by
  unfold outL
  rw [List.length_append, List.length_take, List.length_drop]
  omega
theorem fl_take (xs : List LetX) (i : Nat) : (fl encL xs).take (i * 12) = fl encL (xs.take i) := by
  by_cases h : i ≤ xs.length
  · have hl : (fl encL (xs.take i)).length = i * 12 := by rw [fl_length encL_len, List.length_take, Nat.min_eq_left h]
    conv => lhs; rw [← List.take_append_drop i xs, fl_append, ← hl]
    rw [List.take_left]
  · rw [List.take_of_length_le (by rw [fl_length encL_len]; omega), List.take_of_length_le (by omega)]
theorem fl_drop (xs : List LetX) (i : Nat) : (fl encL xs).drop (i * 12) = fl encL (xs.drop i) := by
  by_cases h : i ≤ xs.length
  · have hl : (fl encL (xs.take i)).length = i * 12 := by rw [fl_length encL_len, List.length_take, Nat.min_eq_left h]
    conv => lhs; rw [← List.take_append_drop i xs, fl_append, ← hl]
    rw [List.drop_left]
  · rw [List.drop_of_length_le (by rw [fl_length encL_len]; omega), List.drop_of_length_le (by omega)]
    rfl
theorem out_cells {xs : List LetX} {i : Nat} (hi : i < xs.length) (z : List Value) (hz : z.length = 12) :
    (over (over (fl encL xs) (fl encL (xs.drop (i + 1))) (i * 12)) z ((xs.length - 1) * 12)).take ((xs.length - 1) * 12) = fl encL (outL xs i) := by
  have h1 : over (fl encL xs) (fl encL (xs.drop (i + 1))) (i * 12) = fl encL (outL xs i) ++ (fl encL xs).drop (i * 12 + (fl encL (xs.drop (i + 1))).length) := by
    unfold over outL
    rw [fl_take, fl_append]
  have hl : (fl encL (outL xs i)).length = (xs.length - 1) * 12 := by rw [fl_length encL_len, outL_length hi]
  rw [h1]
  unfold over
  rw [← hl, List.take_left, List.append_assoc, List.take_left]
/-- A row cut to its first elements. -/
theorem owns_first {w : World} {base e s n k : Nat} {ao : Option Addr} {c : Nat} {xs : List Value} (h : w.ownsRow base e s (.slice ao n c) n xs) (hk : k ≤ n) : w.ownsRow base e s (.slice ao k c) k (xs.take (k * s)) := by
  have hl := h.1
  have hks : k * s ≤ n * s := Nat.mul_le_mul_right _ hk
  rcases h.2 with ⟨h1, rfl⟩ | ⟨g, cap, cur, h1, h2, h3, h4, h5, h6, h7⟩
  · cases h1
    obtain rfl : k = 0 := by omega
    exact ⟨by simp, .inl ⟨rfl, rfl⟩⟩
  · cases h1
    refine ⟨by rw [List.length_take]; omega, .inr ⟨g, c, cur, rfl, h2, h3, by omega, h5, h6, ?_⟩⟩
    rw [← h7, List.take_take]
    congr 1
    omega

/-- clear of one element of several cells. -/
theorem run_clear_one {P : Program} (w : World) (t e ty : TypeId) (z : Value) (ht : P.underlying t = some (.slice e)) (hv : ∀ w, (zeroValue e).run P w = .ok z w) (h1 : ∀ v ∈ z.cells.toList, v.oneCell' = true) (b o c : Nat)
    (hc : ∀ j, j < z.cells.size → (w.cell? ⟨b, o + j, none⟩).isSome = true ∧ w.frozen? ⟨b, o + j, none⟩ = false) :
    (Builtin.clear_ #[t] ty #[.slice (some ⟨b, o, none⟩) 1 c]).run P w = .ok (.tuple #[]) (w.setCells b o z.cells.toList) := by
  have hzc : (Builtin.zeroCells z.cells 1) = z.cells := by
    unfold Builtin.zeroCells
    apply Array.ext
    · simp
    · intro i h1 h2
      simp only [Array.getElem_map, Array.getElem_range]
      rw [Nat.mod_eq_of_lt h2, getElem!_pos z.cells i h2]
  have hst := run_storeCells_cells (P := P) b o z.cells.toList 0 w (by intro j hj; rw [Nat.add_zero]; exact (hc j (by simpa using hj)).1) (by intro j hj; rw [Nat.add_zero]; exact (hc j (by simpa using hj)).2) h1
  simp only [Nat.add_zero] at hst
  simp [Builtin.clear_, run_underlying ht, hv, hzc, hst]
end Go.Proofs.Ytocedfagfmkgdaa
