/- What is kept of attempts: an owned row of owned lists each, all apart from each other. -/
import Derived.Test.YtejkboahjfcdcaaLis
import Derived.Test.YtejkboahjfcdcaaAppAt
import Derived.Test.YtejkboahjfcdcaaStMath
namespace Go.Proofs.Ytejkboahjfcdcaa
open Go.RowKit
set_option linter.unusedVariables false

/-- The slice of chunks, the chunks' own slices, the chunks. -/
structure Pay where
  u : Value
  vs : List Value
  cs : List (List KV)
structure Pay.Is (B : Nat) (p : Pay) (w : World) : Prop where
  row : w.ownsRow B 31 1 p.u p.cs.length p.vs
  own : ∀ (j : Nat) (l : List KV), p.cs[j]? = some l → ∃ x, p.vs[j]? = some x ∧ Own B x l w
/-- Block g is its. -/
def Pay.In (p : Pay) (g : Nat) : Prop := p.u.ownBlock = some g ∨ ∃ x ∈ p.vs, x.ownBlock = some g
def Pay.none : Pay := ⟨.slice .none 0 0, [], []⟩
theorem Pay.none_is (B : Nat) (w : World) : Pay.none.Is B w := ⟨World.ownsRow_nil _ _ _ _, fun j l h => by simp [Pay.none] at h⟩
theorem Pay.none_in {g : Nat} (h : Pay.none.In g) : False := by
  rcases h with h | ⟨x, hx, _⟩
  · cases h
  · simp [Pay.none] at hx
theorem Pay.Is.len {B : Nat} {p : Pay} {w : World} (h : p.Is B w) : p.vs.length = p.cs.length := by have := h.row.1; omega
theorem Pay.Is.rows {B : Nat} {p : Pay} {w : World} (h : p.Is B w) : LRows B p.cs p.u w := ⟨p.vs, h.row, fun j l hj => by
  obtain ⟨x, hx, ho⟩ := h.own j l hj
  exact ⟨x, hx, owns_mono ho (Nat.zero_le _)⟩⟩
theorem Pay.Is.lis {B : Nat} {p : Pay} {w : World} (h : p.Is B w) : Lis w p.u p.cs := h.rows.lis
theorem Pay.Is.mem {B : Nat} {p : Pay} {w : World} (h : p.Is B w) {x : Value} (hx : x ∈ p.vs) : ∃ l, Own B x l w := by
  obtain ⟨j, hj⟩ := List.getElem?_of_mem hx
  have hlt : j < p.cs.length := by
    have := (List.getElem?_eq_some_iff.1 hj).1
    rw [h.len] at this
    exact this
  obtain ⟨y, hy, ho⟩ := h.own j _ (List.getElem?_eq_getElem hlt)
  rw [hj] at hy
  cases hy
  exact ⟨_, ho⟩
theorem Pay.Is.lt {B : Nat} {p : Pay} {w : World} (h : p.Is B w) {g : Nat} (hg : p.In g) : B ≤ g ∧ g < w.heap.size := by
  rcases hg with hg | ⟨x, hx, hg⟩
  · exact h.row.lt g hg
  · obtain ⟨l, ho⟩ := h.mem hx
    exact World.ownsRow.lt ho g hg
/-- Such a block is a row of lists, or of pairs. -/
theorem owns_cells {w : World} {B e s n : Nat} {v : Value} {xs : List Value} (h : w.ownsRow B e s v n xs) {g : Nat} (hg : v.ownBlock = some g) : ∃ cs, w.heap[g]? = some (.cells cs e (0, 0)) := by
  rcases h.2 with ⟨rfl, _⟩ | ⟨b, cap, cur, rfl, _, hb, _⟩
  · cases hg
  · cases hg
    exact ⟨cur, hb⟩
theorem Pay.Is.cells {B : Nat} {p : Pay} {w : World} (h : p.Is B w) {g : Nat} (hg : p.In g) : ∃ cs t, w.heap[g]? = some (.cells cs t (0, 0)) ∧ (t = 31 ∨ t = 53) := by
  rcases hg with hg | ⟨x, hx, hg⟩
  · obtain ⟨cs, e⟩ := owns_cells h.row hg
    exact ⟨cs, _, e, .inl rfl⟩
  · obtain ⟨l, ho⟩ := h.mem hx
    obtain ⟨cs, e⟩ := owns_cells ho hg
    exact ⟨cs, _, e, .inr rfl⟩
theorem Pay.Is.sav {B : Nat} {p : Pay} {w w' : World} {S : Nat → Prop} (h : p.Is B w) (hs : Sav S w w') (hn : ∀ g, p.In g → ¬ S g) : p.Is B w' :=
  ⟨owns_sav h.row hs (fun k hk => hn k (.inl hk)), fun j l hj => by
    obtain ⟨x, hx, ho⟩ := h.own j l hj
    exact ⟨x, hx, owns_sav ho hs (fun k hk => hn k (.inr ⟨x, List.mem_of_getElem? hx, hk⟩))⟩⟩
theorem Pay.Is.below {B : Nat} {p : Pay} {w w' : World} (h : p.Is B w) (hb : Below w.heap.size w w') : p.Is B w' := h.sav (Sav.of_below (S := Non) hb) (fun _ _ h => h)
/-- One more chunk behind them. -/
theorem Pay.Is.more {B : Nat} {p : Pay} {w w' : World} {x u' : Value} {l : List KV} (h : p.Is B w) (hx : Own B x l w) (h' : w'.ownsRow B 31 1 u' (p.cs.length + 1) (p.vs ++ [x])) (hg : w.grownBy w' p.u.ownBlock) : Pay.Is B ⟨u', p.vs ++ [x], p.cs ++ [l]⟩ w' := by
  refine ⟨by simpa using h', fun j m hj => ?_⟩
  by_cases e : j < p.cs.length
  · rw [List.getElem?_append_left e] at hj
    obtain ⟨y, hy, ho⟩ := h.own j m hj
    exact ⟨y, by rw [List.getElem?_append_left (by rw [h.len]; exact e)]; exact hy, owns_grown ho h.row (by decide) hg⟩
  · rw [List.getElem?_append_right (by omega)] at hj
    obtain ⟨y, hy, ho⟩ := own_one hx _ m hj
    exact ⟨y, by rw [List.getElem?_append_right (by rw [h.len]; omega), h.len]; exact hy, owns_grown ho h.row (by decide) hg⟩
theorem Pay.more_in {p : Pay} {x u' : Value} {cs : List (List KV)} {g : Nat} (h : Pay.In ⟨u', p.vs ++ [x], cs⟩ g) : u'.ownBlock = some g ∨ x.ownBlock = some g ∨ p.In g := by
  rcases h with h | ⟨y, hy, h⟩
  · exact .inl h
  · rcases List.mem_append.1 hy with hy | hy
    · exact .inr (.inr (.inr ⟨y, hy, h⟩))
    · rw [List.mem_singleton.1 hy] at h
      exact .inr (.inl h)

/-- What is kept of all attempts. -/
structure Pays (B : Nat) (X : List ((Int × Int) × Pay)) (w : World) : Prop where
  keys : X.Pairwise (fun p q => p.1 ≠ q.1)
  is : ∀ r ∈ X, r.2.Is B w
  apart : ∀ r ∈ X, ∀ s ∈ X, r.1 ≠ s.1 → ∀ g, r.2.In g → ¬ s.2.In g
def InX (X : List ((Int × Int) × Pay)) (g : Nat) : Prop := ∃ r ∈ X, r.2.In g
/-- Which chunks are kept; which slices they lie in. -/
def chS (X : List ((Int × Int) × Pay)) : RowsS KV := X.map (fun r => (r.1, r.2.cs))
def slS (X : List ((Int × Int) × Pay)) : List ((Int × Int) × Value) := X.map (fun r => (r.1, r.2.u))
theorem Pays.nil (B : Nat) (w : World) : Pays B [] w := ⟨.nil, fun r h => absurd h (by simp), fun r h => absurd h (by simp)⟩
theorem Pays.lt {B : Nat} {X : List ((Int × Int) × Pay)} {w : World} (h : Pays B X w) {g : Nat} (hg : InX X g) : B ≤ g ∧ g < w.heap.size := by
  obtain ⟨r, hr, hg⟩ := hg
  exact (h.is r hr).lt hg
theorem Pays.sav {B : Nat} {X : List ((Int × Int) × Pay)} {w w' : World} {S : Nat → Prop} (h : Pays B X w) (hs : Sav S w w') (hn : ∀ g, InX X g → ¬ S g) : Pays B X w' :=
  ⟨h.keys, fun r hr => (h.is r hr).sav hs (fun g hg => hn g ⟨r, hr, hg⟩), h.apart⟩
theorem Pays.below {B : Nat} {X : List ((Int × Int) × Pay)} {w w' : World} (h : Pays B X w) (hb : Below w.heap.size w w') : Pays B X w' := h.sav (Sav.of_below (S := Non) hb) (fun _ _ h => h)
/-- A block that is a map, or of another type, is none of theirs. -/
theorem Pays.off {B : Nat} {X : List ((Int × Int) × Pay)} {w : World} (h : Pays B X w) {b : Nat} {o : Obj} (hb : w.heap[b]? = some o) (ho : ∀ cs t r, o = .cells cs t r → t ≠ 31 ∧ t ≠ 53) : ¬ InX X b := by
  rintro ⟨r, hr, hg⟩
  obtain ⟨cs, t, e, ht⟩ := (h.is r hr).cells hg
  rw [hb] at e
  have := ho cs t _ (Option.some.inj e)
  rcases ht with ht | ht
  · exact this.1 ht
  · exact this.2 ht
/-- What is kept of one of them. -/
def payS (X : List ((Int × Int) × Pay)) (k : Int × Int) : Pay := (lookS X k).getD Pay.none
theorem payS_cs (X : List ((Int × Int) × Pay)) (k : Int × Int) : (payS X k).cs = getS (chS X) k := by
  rw [getS_look]
  unfold chS payS
  rw [lookS_map (fun p : Pay => p.cs)]
  cases lookS X k with
  | none => rfl
  | some p => rfl
theorem payS_u (X : List ((Int × Int) × Pay)) (k : Int × Int) : (lookS (slS X) k).getD (.slice none 0 0) = (payS X k).u := by
  unfold slS payS
  rw [lookS_map (fun p : Pay => p.u)]
  cases lookS X k with
  | none => rfl
  | some p => rfl
theorem Pays.at_ {B : Nat} {X : List ((Int × Int) × Pay)} {w : World} (h : Pays B X w) (k : Int × Int) : (payS X k).Is B w := by
  unfold payS
  cases hl : lookS X k with
  | none => exact Pay.none_is B w
  | some p => exact h.is _ (lookS_mem hl)
theorem payS_in {X : List ((Int × Int) × Pay)} {k : Int × Int} {g : Nat} (h : (payS X k).In g) : (k, payS X k) ∈ X := by
  unfold payS at h ⊢
  cases hl : lookS X k with
  | none => rw [hl] at h; exact (Pay.none_in h).elim
  | some p => exact lookS_mem hl
theorem setS_iff {β : Type} : ∀ {l : List ((Int × Int) × β)}, l.Pairwise (fun p q => p.1 ≠ q.1) → ∀ {k : Int × Int} {v : β} {r : (Int × Int) × β}, r ∈ setS l k v → r = (k, v) ∨ (r ∈ l ∧ r.1 ≠ k) := by
  intro l hp k v r hr
  by_cases e : r.1 = k
  · left
    have h1 := lookS_at (setS_apart hp k v) hr
    rw [e, lookS_set_same] at h1
    exact Prod.ext e (Option.some.inj h1).symm
  · rcases setS_mem hr with h | h | h
    · exact .inl h
    · exact .inr h
    · exact .inr ⟨h.1, e⟩
/-- One attempt's are put in others' place: only blocks of the elder ones, or new ones, are turned. -/
theorem Pays.set {B : Nat} {X : List ((Int × Int) × Pay)} {w w' : World} {S : Nat → Prop} (h : Pays B X w) {k : Int × Int} {p : Pay} (hp : p.Is B w') (hs : Sav S w w') (hS : ∀ g, InX X g → S g → (payS X k).In g) (hn : ∀ g, p.In g → (payS X k).In g ∨ w.heap.size ≤ g) : Pays B (setS X k p) w' := by
  have hoff : ∀ r ∈ X, r.1 ≠ k → ∀ g, r.2.In g → ¬ (payS X k).In g := fun r hr e g hg hg2 => h.apart r hr (k, payS X k) (payS_in hg2) e g hg hg2
  have hnew : ∀ r ∈ X, r.1 ≠ k → ∀ g, r.2.In g → ¬ p.In g := fun r hr e g hg hg2 => by
    rcases hn g hg2 with h1 | h1
    · exact hoff r hr e g hg h1
    · have := ((h.is r hr).lt hg).2
      omega
  refine ⟨setS_apart h.keys k p, fun r hr => ?_, fun r hr s hs2 hne g hg hg2 => ?_⟩
  · rcases setS_iff h.keys hr with e | ⟨e, e2⟩
    · rw [e]; exact hp
    · exact (h.is r e).sav hs (fun g hg hSg => hoff r e e2 g hg (hS g ⟨r, e, hg⟩ hSg))
  · rcases setS_iff h.keys hr with e | ⟨e, e2⟩
    · rcases setS_iff h.keys hs2 with f | ⟨f, f2⟩
      · exact hne (by rw [e, f])
      · rw [e] at hg
        exact hnew s f f2 g hg2 hg
    · rcases setS_iff h.keys hs2 with f | ⟨f, f2⟩
      · rw [f] at hg2
        exact hnew r e e2 g hg hg2
      · exact h.apart r e s f hne g hg hg2
theorem inX_set {X : List ((Int × Int) × Pay)} (hk : X.Pairwise (fun p q => p.1 ≠ q.1)) {k : Int × Int} {p : Pay} {g : Nat} (h : InX (setS X k p) g) : p.In g ∨ InX X g := by
  obtain ⟨r, hr, hg⟩ := h
  rcases setS_iff hk hr with e | ⟨e, _⟩
  · rw [e] at hg
    exact .inl hg
  · exact .inr ⟨r, e, hg⟩
theorem Pays.filter {B : Nat} {X : List ((Int × Int) × Pay)} {w : World} (h : Pays B X w) (f : (Int × Int) × Pay → Bool) : Pays B (X.filter f) w :=
  ⟨h.keys.filter _, fun r hr => h.is r (List.mem_filter.1 hr).1, fun r hr s hs => h.apart r (List.mem_filter.1 hr).1 s (List.mem_filter.1 hs).1⟩
theorem inX_filter {X : List ((Int × Int) × Pay)} {f : (Int × Int) × Pay → Bool} {g : Nat} (h : InX (X.filter f) g) : InX X g := by
  obtain ⟨r, hr, hg⟩ := h
  exact ⟨r, (List.mem_filter.1 hr).1, hg⟩
/-- Both views of them, as one is put in. -/
theorem chS_set (X : List ((Int × Int) × Pay)) (k : Int × Int) (p : Pay) : chS (setS X k p) = setS (chS X) k p.cs := setS_map (fun p : Pay => p.cs) X k p
theorem slS_set (X : List ((Int × Int) × Pay)) (k : Int × Int) (p : Pay) : slS (setS X k p) = setS (slS X) k p.u := setS_map (fun p : Pay => p.u) X k p
theorem chS_len (X : List ((Int × Int) × Pay)) : (chS X).length = X.length := by simp [chS]
theorem slS_len (X : List ((Int × Int) × Pay)) : (slS X).length = X.length := by simp [slS]
theorem chS_keys (X : List ((Int × Int) × Pay)) (f : Int × Int → Bool) : chS (X.filter (fun r => f r.1)) = (chS X).filter (fun r => f r.1) := by
  unfold chS
  rw [List.filter_map]
  rfl
theorem slS_keys (X : List ((Int × Int) × Pay)) (f : Int × Int → Bool) : slS (X.filter (fun r => f r.1)) = (slS X).filter (fun r => f r.1) := by
  unfold slS
  rw [List.filter_map]
  rfl
/-- An attempt is there just if something is kept of it. -/
theorem look_isSome {X : List ((Int × Int) × Pay)} (h : OkS (chS X)) (k : Int × Int) : (lookS (slS X) k).isSome = !(getS (chS X) k).isEmpty := by
  rw [getS_look]
  have h1 : lookS (slS X) k = (lookS X k).map (fun p : Pay => p.u) := lookS_map (fun p : Pay => p.u) X k
  have h2 : lookS (chS X) k = (lookS X k).map (fun p : Pay => p.cs) := lookS_map (fun p : Pay => p.cs) X k
  rw [h1, h2]
  cases hl : lookS X k with
  | none => rfl
  | some p =>
    have hm : (k, p.cs) ∈ chS X := List.mem_map.2 ⟨(k, p), lookS_mem hl, rfl⟩
    have := h.some _ hm
    cases hp : p.cs with
    | nil => exact absurd hp this
    | cons a b => simp [hp]
end Go.Proofs.Ytejkboahjfcdcaa
