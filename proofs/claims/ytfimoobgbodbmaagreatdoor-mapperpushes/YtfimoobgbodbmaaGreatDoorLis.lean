/- Slices of lists of pairs: how they read, cuts of them, and rows of lists that are owned. -/
import Derived.Test.YtfimoobgbodbmaaGreatDoorLPairs
import Derived.Test.YtfimoobgbodbmaaGreatDoorGArg
namespace Go.Proofs.YtfimoobgbodbmaaGreatDoor
open Go.RowKit
set_option linter.unusedVariables false
set_option maxRecDepth 100000

/-- A cut out of the midst. -/
theorem Reads.sub {α : Type} {n : Nat} {enc : α → List Value} {w : World} {b off m cap : Nat} {l : List α} (h : Reads n enc w (.slice (some ⟨b, off, none⟩) m cap) l) {k j : Nat} (hk : k + j ≤ l.length) : Reads n enc w (.slice (some ⟨b, off + k * n, none⟩) j (cap - k)) ((l.drop k).take j) := by
  obtain ⟨ao, cap', hv, h1, h2, h3, h4⟩ := h
  cases hv
  have hlen : ((l.drop k).take j).length = j := by rw [List.length_take, List.length_drop]; omega
  refine ⟨_, _, by rw [hlen], by omega, by omega, (fun e => by cases e), fun hl => ?_⟩
  have hj0 : 0 < j := by
    rcases Nat.eq_zero_or_pos j with e | e
    · subst e; simp at hl
    · exact e
  obtain ⟨b', off', e, hlt, hc⟩ := h4 (by intro e; rw [e] at hk; simp at hk; omega)
  cases e
  refine ⟨b, _, rfl, hlt, fun i x hi q u hu => ?_⟩
  have hij : i < j := by
    have := (List.getElem?_eq_some_iff.1 hi).1
    omega
  have := hc (k + i) x (by rw [List.getElem?_take_of_lt hij, List.getElem?_drop] at hi; exact hi) q u hu
  rw [Nat.add_mul] at this
  rw [show off + k * n + i * n + q = off + (k * n + i * n) + q by omega]
  exact this
/-- Those behind the first k, as the program writes their address. -/
theorem Reads.far {α : Type} {n : Nat} {enc : α → List Value} {w : World} {ao ao2 : Option Addr} {cap : Nat} {l : List α} (h : Reads n enc w (.slice ao l.length cap) l) {k : Nat} (hk : k ≤ l.length) (hao : (if cap = k then ao else Option.map (fun x => x.add (k * n)) ao) = ao2) : Reads n enc w (.slice ao2 (l.length - k) (cap - k)) (l.drop k) := by
  obtain ⟨ao', cap', hv, h1, h2, h3, h4⟩ := id h
  simp only [Value.slice.injEq, true_and] at hv
  obtain ⟨rfl, rfl⟩ := hv
  refine ⟨ao2, cap - k, by rw [List.length_drop], by rw [List.length_drop]; omega, by omega, fun e => ?_, fun hl => ?_⟩
  · subst e
    by_cases hc : cap = k
    · rw [if_pos hc] at hao
      exact ⟨List.drop_eq_nil_of_le (by omega), by omega⟩
    · rw [if_neg hc] at hao
      cases ao with
      | none =>
        obtain ⟨rfl, rfl⟩ := h3 rfl
        exact ⟨by simp, by omega⟩
      | some ad => cases hao
  · have hlt : k < l.length := by
      rcases Nat.lt_or_ge k l.length with h | h
      · exact h
      · exact absurd (List.drop_eq_nil_of_le h) hl
    obtain ⟨b, off, e, hb, hc⟩ := h4 (by intro e; rw [e] at hlt; simp at hlt)
    subst e
    rw [if_neg (by omega), Option.map_some, addr_add] at hao
    refine ⟨b, off + k * n, hao.symm, hb, fun j x hj q u hu => ?_⟩
    rw [List.getElem?_drop] at hj
    have := hc (k + j) x hj q u hu
    rw [Nat.add_mul] at this
    rw [show off + k * n + j * n + q = off + (k * n + j * n) + q by omega]
    exact this
theorem Reads.noneOf {α : Type} {n : Nat} {enc : α → List Value} {w : World} {ao : Option Addr} {m cap : Nat} {l : List α} (h : Reads n enc w (.slice ao m cap) l) : ao = none → m = 0 ∧ cap = 0 := by
  intro e
  obtain ⟨ao', cap', hv, _, _, h3, _⟩ := h
  cases hv
  exact ⟨by rw [(h3 e).1]; rfl, (h3 e).2⟩
/-- A slice's cell. -/
def encL (v : Value) : List Value := [v]
theorem encL_len : ∀ x, (encL x).length = 1 := fun _ => rfl
/-- v is a slice of lists of pairs. -/
def Lis (w : World) (v : Value) (ls : List (List KV)) : Prop := ∃ vs, Reads 1 encL w v vs ∧ vs.length = ls.length ∧ ∀ (j : Nat) (l : List KV), ls[j]? = some l → ∃ x, vs[j]? = some x ∧ Prs w x l
theorem Lis.below {w w' : World} {v : Value} {ls : List (List KV)} (h : Lis w v ls) (hb : Below w.heap.size w w') : Lis w' v ls := by
  obtain ⟨vs, h1, h2, h3⟩ := h
  refine ⟨vs, h1.below hb, h2, fun j l hj => ?_⟩
  obtain ⟨x, hx, hp⟩ := h3 j l hj
  exact ⟨x, hx, hp.below hb⟩
theorem Lis.slice {w : World} {v : Value} {ls : List (List KV)} (h : Lis w v ls) : ∃ ao cap, v = .slice ao ls.length cap ∧ ls.length ≤ cap ∧ cap ≤ maxLen ∧ (ao = none → ls = [] ∧ cap = 0) := by
  obtain ⟨vs, ⟨ao, cap, rfl, h1, h2, h3, h4⟩, hl, _⟩ := h
  rw [hl] at h1 ⊢
  refine ⟨ao, cap, rfl, h1, h2, fun e => ⟨?_, (h3 e).2⟩⟩
  rw [(h3 e).1] at hl
  exact List.eq_nil_of_length_eq_zero hl.symm
theorem Lis.cell {w : World} {ao : Option Addr} {m cap : Nat} {ls : List (List KV)} (h : Lis w (.slice ao m cap) ls) {j : Nat} (hj : j < ls.length) :
    ∃ b off l xo xc, ls[j]? = some l ∧ ao = some ⟨b, off, none⟩ ∧ b < w.heap.size ∧ w.cell? ⟨b, off + j, none⟩ = some (.slice xo l.length xc) ∧ Prs w (.slice xo l.length xc) l := by
  obtain ⟨vs, h1, h2, h3⟩ := h
  obtain ⟨x, hx, hp⟩ := h3 j ls[j] (List.getElem?_eq_getElem hj)
  obtain ⟨b, off, e, hlt, hc⟩ := h1.cells (j := j) (by omega)
  have hxe : vs[j]'(by omega) = x := by
    rw [List.getElem?_eq_getElem (by omega)] at hx
    exact Option.some.inj hx
  have h0 := hc 0 x (by rw [hxe]; rfl)
  rw [Nat.mul_one] at h0
  obtain ⟨xo, xc, rfl, _⟩ := id hp
  exact ⟨b, off, _, xo, xc, List.getElem?_eq_getElem hj, e, hlt, h0, hp⟩
theorem Lis.nil (w : World) : Lis w (.slice none 0 0) [] := ⟨[], Reads.nil w, rfl, fun j l h => by simp at h⟩
theorem flat_take {ls : List (List KV)} {k : Nat} {l : List KV} (h : ls[k]? = some l) : (ls.take (k + 1)).flatten = (ls.take k).flatten ++ l := by
  rw [List.take_add_one, h]
  simp
theorem flat_take_le (ls : List (List KV)) (k : Nat) : (ls.take k).flatten.length ≤ ls.flatten.length := by
  have : ls.flatten = (ls.take k).flatten ++ (ls.drop k).flatten := by rw [← List.flatten_append, List.take_append_drop]
  rw [this, List.length_append]
  omega
theorem fl_encL : ∀ vs : List Value, fl encL vs = vs
  | [] => rfl
  | v :: vs => by
    have h : fl encL (v :: vs) = v :: fl encL vs := rfl
    rw [h, fl_encL vs]
/-- A new slice of lists. -/
theorem lis_made (vs : List Value) (ls : List (List KV)) (w : World) (hn : vs.length ≤ 1000) (hl : vs.length = ls.length) (h : ∀ (j : Nat) (l : List KV), ls[j]? = some l → ∃ x, vs[j]? = some x ∧ Prs w x l) :
    Lis (w.alloc (.cells vs.toArray 51)) (.slice (some ⟨w.heap.size, 0, none⟩) vs.length vs.length) ls := by
  have h1 := Reads.made encL_len (by decide) 51 vs w hn
  rw [fl_encL] at h1
  refine ⟨vs, h1, hl, fun j l hj => ?_⟩
  obtain ⟨x, hx, hp⟩ := h j l hj
  exact ⟨x, hx, hp.below (alloc_one _ _)⟩
theorem lis_two {w : World} {x y : Value} {l m : List KV} (hx : Prs w x l) (hy : Prs w y m) : Lis (w.alloc (.cells #[x, y] 51)) (.slice (some ⟨w.heap.size, 0, none⟩) 2 2) [l, m] := by
  refine lis_made [x, y] [l, m] w (by simp) rfl fun j z hj => ?_
  match j, hj with
  | 0, hj => simp at hj; subst hj; exact ⟨x, rfl, hx⟩
  | 1, hj => simp at hj; subst hj; exact ⟨y, rfl, hy⟩
  | j + 2, hj => simp at hj
theorem opens_lists : Opens Tryz.prog 22 1 (rSlice 1 (rSlice 2 rPr)) := @opens_slice _ ⟨[]⟩ _ _ _ _ _ Tryz.underlying22 (by kernel_rfl) (by decide) opens_pairs
theorem Lis.arg {w : World} {v : Value} {ls : List (List KV)} (h : rSlice 1 (rSlice 2 rPr) w [v] ls) : Lis w v ls := by
  obtain ⟨ao, cap, hv, h1, h2, h3, h4⟩ := h
  by_cases hl : ls = []
  · subst hl
    refine ⟨[], ⟨ao, cap, by simpa using hv, h1, h2, fun e => ⟨rfl, (h3 e).2⟩, fun h => absurd rfl h⟩, rfl, fun j l h => by simp at h⟩
  · obtain ⟨b, off, rfl, hlt, hc⟩ := h4 hl
    obtain ⟨f, hf⟩ := Go.Deep.choose_lt (α := Value) (n := ls.length) (p := fun j x => w.cell? ⟨b, off + j, none⟩ = some x ∧ ∀ l, ls[j]? = some l → Prs w x l) (fun j hj => by
      obtain ⟨ds, hd, hr, hu⟩ := hc j ls[j] (List.getElem?_eq_getElem hj)
      match ds, hd with
      | [x], _ =>
        refine ⟨x, ?_, fun l h => ?_⟩
        · have := hu 0 x rfl
          rw [Nat.mul_one] at this
          exact this
        · rw [List.getElem?_eq_getElem hj] at h
          cases h
          exact Prs.arg hr)
    refine ⟨(List.range ls.length).map f, ⟨some ⟨b, off, none⟩, cap, by simpa using hv, by simpa using h1, h2, (fun e => by cases e), fun _ => ⟨b, off, rfl, hlt, fun j x hj k u hu => ?_⟩⟩, by simp, fun j l hj => ?_⟩
    · have hjl : j < ls.length := by have := (List.getElem?_eq_some_iff.1 hj).1; simpa using this
      rw [List.getElem?_map, List.getElem?_range hjl] at hj
      cases hj
      have hk : k = 0 := by
        have := (List.getElem?_eq_some_iff.1 hu).1
        simp [encL] at this
        omega
      subst hk
      simp [encL] at hu
      subst hu
      rw [Nat.mul_one]
      exact (hf j hjl).1
    · have hjl := (List.getElem?_eq_some_iff.1 hj).1
      exact ⟨f j, by rw [List.getElem?_map, List.getElem?_range hjl]; rfl, (hf j hjl).2 l hj⟩
/-- The first k lists. -/
theorem Lis.take {w : World} {ao : Option Addr} {m cap : Nat} {ls : List (List KV)} (h : Lis w (.slice ao m cap) ls) {k : Nat} (hk : k ≤ ls.length) : Lis w (.slice ao k cap) (ls.take k) := by
  obtain ⟨vs, h1, h2, h3⟩ := h
  have hc : Reads 1 encL w (.slice ao (vs.take k).length cap) (vs.take k) := Reads.cut (r := vs.drop k) (by rw [List.take_append_drop]; exact h1)
  have hl : (vs.take k).length = k := by rw [List.length_take]; omega
  rw [hl] at hc
  refine ⟨_, hc, by rw [List.length_take, List.length_take, h2], fun j l hj => ?_⟩
  have hjk : j < k := by
    have := (List.getElem?_eq_some_iff.1 hj).1
    rw [List.length_take] at this
    omega
  rw [List.getElem?_take_of_lt hjk] at hj ⊢
  exact h3 j l hj
/-- Those behind the first k. -/
theorem Lis.drop {w : World} {b off m cap : Nat} {ls : List (List KV)} (h : Lis w (.slice (some ⟨b, off, none⟩) m cap) ls) {k : Nat} (hk : k ≤ ls.length) : Lis w (.slice (some ⟨b, off + k, none⟩) (ls.length - k) (cap - k)) (ls.drop k) := by
  obtain ⟨vs, h1, h2, h3⟩ := h
  have hs := h1.sub (k := k) (j := ls.length - k) (by omega)
  rw [Nat.mul_one, List.take_of_length_le (by rw [List.length_drop]; omega)] at hs
  refine ⟨_, hs, by rw [List.length_drop, List.length_drop, h2], fun j l hj => ?_⟩
  rw [List.getElem?_drop] at hj ⊢
  exact h3 _ l hj
theorem Lis.none {w : World} {ao : Option Addr} {c : Nat} (h : (ao = none → c = 0)) (hc : c ≤ maxLen) : Lis w (.slice ao 0 c) [] :=
  ⟨[], ⟨ao, c, rfl, Nat.zero_le _, hc, fun e => ⟨rfl, h e⟩, fun h => absurd rfl h⟩, rfl, fun j l h => by simp at h⟩
/-- Those behind the first k, as the program writes their address. -/
theorem Lis.far {w : World} {ao ao2 : Option Addr} {cap : Nat} {ls : List (List KV)} (h : Lis w (.slice ao ls.length cap) ls) {k : Nat} (hk : k ≤ ls.length) (hao : (if cap = k then ao else Option.map (fun x => x.add k) ao) = ao2) : Lis w (.slice ao2 (ls.length - k) (cap - k)) (ls.drop k) := by
  obtain ⟨ao', cap', e, h1, h2, h3⟩ := h.slice
  cases e
  by_cases hc : cap = k
  · have hl : ls.length = k := by omega
    rw [if_pos hc] at hao
    rw [hl, Nat.sub_self, hc, Nat.sub_self, List.drop_eq_nil_of_le (by omega)]
    exact Lis.none (fun _ => rfl) (by unfold maxLen; omega)
  · rw [if_neg hc] at hao
    cases ao with
    | none =>
      have := h3 rfl
      omega
    | some ad =>
      by_cases hn : ls = []
      · subst hn
        simp only [List.length_nil] at hk
        obtain rfl : k = 0 := by omega
        subst hao
        exact Lis.none (fun e => by cases e) (by omega)
      · obtain ⟨vs, ⟨a1, c1, e1, r1, r2, r3, r4⟩, hl, hx⟩ := id h
        simp only [Value.slice.injEq] at e1
        obtain ⟨rfl, -, rfl⟩ := e1
        obtain ⟨b, off, e2, -⟩ := r4 (by intro e; rw [e] at hl; exact hn (List.eq_nil_of_length_eq_zero hl.symm))
        cases e2
        rw [Option.map_some, addr_add] at hao
        subst hao
        exact h.drop hk
/-- Each list is small: all together are. -/
theorem flat_small : ∀ {ls : List (List KV)}, (∀ l ∈ ls, l.length ≤ 20) → ls.flatten.length ≤ ls.length * 20
  | [], _ => by simp
  | l :: ls, h => by
    have h1 := h l List.mem_cons_self
    have h2 := flat_small (ls := ls) fun x hx => h x (List.mem_cons_of_mem _ hx)
    rw [List.flatten_cons, List.length_append, List.length_cons, Nat.add_mul]
    omega

/-! ### LRows of lists that are owned -/
theorem Tryz.infoS : (Tryz.prog.info? 51).map (fun i => (i.zero, i.size, i.bytes)) = some (some (.slice none 0 0), 1, 24) := by kernel_rfl
/-- The list l with memory of its own. -/
def Own (B : Nat) (x : Value) (l : List KV) (w : World) : Prop := w.ownsRow B 105 2 x l.length (fl encP l)
theorem Own.nil (B : Nat) (w : World) : Own B (.slice none 0 0) [] w := World.ownsRow_nil _ _ _ _
theorem Own.below {B : Nat} {x : Value} {l : List KV} {w w' : World} (h : Own B x l w) (hb : Below w.heap.size w w') : Own B x l w' := owns_below h hb
theorem Own.prs {B : Nat} {x : Value} {l : List KV} {w : World} (h : Own B x l w) : Prs w x l := Reads.own encP_len (by decide) h
/-- A row of lists that is owned from B on; each list is owned. -/
def LRows (B : Nat) (ls : List (List KV)) (u : Value) (w : World) : Prop :=
  ∃ vs, w.ownsRow B 51 1 u ls.length vs ∧ ∀ (j : Nat) (l : List KV), ls[j]? = some l → ∃ x, vs[j]? = some x ∧ Own 0 x l w
theorem LRows.nil (B : Nat) (w : World) : LRows B [] (.slice none 0 0) w := ⟨[], World.ownsRow_nil _ _ _ _, fun j l h => by simp at h⟩
theorem LRows.below {B : Nat} {ls : List (List KV)} {u : Value} {w w' : World} (h : LRows B ls u w) (hb : Below w.heap.size w w') : LRows B ls u w' := by
  obtain ⟨vs, h1, h2⟩ := h
  refine ⟨vs, owns_below h1 hb, fun j l hj => ?_⟩
  obtain ⟨x, hx, ho⟩ := h2 j l hj
  exact ⟨x, hx, ho.below hb⟩
theorem LRows.mono {B C : Nat} {ls : List (List KV)} {u : Value} {w : World} (h : LRows B ls u w) (hc : C ≤ B) : LRows C ls u w := by
  obtain ⟨vs, h1, h2⟩ := h
  refine ⟨vs, owns_mono h1 hc, fun j l hj => ?_⟩
  obtain ⟨x, hx, ho⟩ := h2 j l hj
  exact ⟨x, hx, ho⟩
theorem LRows.lis {B : Nat} {ls : List (List KV)} {u : Value} {w : World} (h : LRows B ls u w) : Lis w u ls := by
  obtain ⟨vs, h1, h2⟩ := h
  have hl : vs.length = ls.length := by have := h1.1; omega
  refine ⟨vs, Reads.own encL_len (by decide) (by rw [fl_encL]; exact h1), hl, fun j c hj => ?_⟩
  obtain ⟨x, hx, ho⟩ := h2 j c hj
  exact ⟨x, hx, ho.prs⟩
/-- A list of the row, as it lies there. -/
theorem LRows.cell {B : Nat} {ao : Option Addr} {m cap : Nat} {ls : List (List KV)} {w : World} (h : LRows B ls (.slice ao m cap) w) {j : Nat} (hj : j < ls.length) :
    ∃ b off l xo xc, ls[j]? = some l ∧ ao = some ⟨b, off, none⟩ ∧ b < w.heap.size ∧ w.cell? ⟨b, off + j, none⟩ = some (.slice xo l.length xc) ∧ Own 0 (.slice xo l.length xc) l w := by
  obtain ⟨vs, h1, h2⟩ := h
  have hr : Reads 1 encL w (.slice ao m cap) vs := Reads.own encL_len (by decide) (by rw [fl_encL]; exact h1)
  have hl : vs.length = ls.length := by have := h1.1; omega
  obtain ⟨x, hx, ho⟩ := h2 j ls[j] (List.getElem?_eq_getElem hj)
  obtain ⟨b, off, e, hlt, hc⟩ := hr.cells (j := j) (by omega)
  have hxe : vs[j]'(by omega) = x := by
    rw [List.getElem?_eq_getElem (by omega)] at hx
    exact Option.some.inj hx
  have h0 := hc 0 x (by rw [hxe]; rfl)
  rw [Nat.mul_one] at h0
  obtain ⟨xo, xc, rfl⟩ := own_slice ho
  exact ⟨b, off, _, xo, xc, List.getElem?_eq_getElem hj, e, hlt, h0, ho⟩
/-- More lists behind them. -/
theorem LRows.more {B : Nat} {ls ms : List (List KV)} {u u' : Value} {w w' : World} {vs xs : List Value} (h : w.ownsRow B 51 1 u ls.length vs) (h2 : ∀ (j : Nat) (l : List KV), ls[j]? = some l → ∃ x, vs[j]? = some x ∧ Own 0 x l w)
    (h3 : ∀ (j : Nat) (l : List KV), ms[j]? = some l → ∃ x, xs[j]? = some x ∧ Own 0 x l w) (h' : w'.ownsRow B 51 1 u' (ls.length + ms.length) (vs ++ xs)) (hg : w.grownBy w' u.ownBlock) : LRows B (ls ++ ms) u' w' := by
  have hl : vs.length = ls.length := by have := h.1; omega
  refine ⟨_, by rw [List.length_append]; exact h', fun j l hj => ?_⟩
  by_cases e : j < ls.length
  · rw [List.getElem?_append_left e] at hj
    obtain ⟨y, hy, ho⟩ := h2 j l hj
    exact ⟨y, by rw [List.getElem?_append_left (by omega)]; exact hy, owns_grown ho h (by decide) hg⟩
  · rw [List.getElem?_append_right (by omega)] at hj
    obtain ⟨y, hy, ho⟩ := h3 _ l hj
    exact ⟨y, by rw [List.getElem?_append_right (by omega), hl]; exact hy, owns_grown ho h (by decide) hg⟩
/-- Cells of a new block. -/
theorem list_new (w : World) (xs : List Value) (t : TypeId) : ∀ j u, xs[j]? = some u → (w.alloc (.cells xs.toArray t)).cell? ((⟨w.heap.size, 0, none⟩ : Addr).add j) = some u := by
  intro j u h
  rw [addr_add, Nat.zero_add, cell_of_cells (new_block w (.cells xs.toArray t))]
  simpa using h
theorem own_one {B : Nat} {x : Value} {l : List KV} {w : World} (h : Own B x l w) : ∀ (j : Nat) (m : List KV), [l][j]? = some m → ∃ y, [x][j]? = some y ∧ Own B y m w := by
  intro j m hj
  match j, hj with
  | 0, hj => simp at hj; subst hj; exact ⟨x, rfl, h⟩
  | j + 1, hj => simp at hj
theorem rows_at {B : Nat} {ls : List (List KV)} {vs : List Value} {w w' : World} (h : ∀ (j : Nat) (l : List KV), ls[j]? = some l → ∃ x, vs[j]? = some x ∧ Own B x l w) (hb : Below w.heap.size w w') : ∀ (j : Nat) (l : List KV), ls[j]? = some l → ∃ x, vs[j]? = some x ∧ Own B x l w' := by
  intro j l hj
  obtain ⟨x, hx, ho⟩ := h j l hj
  exact ⟨x, hx, ho.below hb⟩
end Go.Proofs.YtfimoobgbodbmaaGreatDoor
