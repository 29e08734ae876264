/- Chunks that wait, over plain lists: rows by split and attempt, what Put, Take, Drop do with them. No program in this text. -/
namespace Go.Proofs.Ytejkboahjfcdcaa
set_option linter.unusedVariables false
section
variable {α : Type}

/-- A row an attempt: its split, its number, its chunks. -/
abbrev RowsS (α : Type) := List ((Int × Int) × List (List α))
/-- What is kept of an attempt. -/
def getS : RowsS α → Int × Int → List (List α)
  | [], _ => []
  | r :: R, k => if r.1 = k then r.2 else getS R k
/-- An attempt's chunks are put in others' place, or a row is laid for them behind all. -/
def setS {β : Type} : List ((Int × Int) × β) → Int × Int → β → List ((Int × Int) × β)
  | [], k, v => [(k, v)]
  | r :: R, k, v => if r.1 = k then (k, v) :: R else r :: setS R k v
def maySt (k : Int × Int) : Bool := (decide (0 ≤ k.1) && decide (k.1 ≤ 5)) && (decide (1 ≤ k.2) && decide (k.2 ≤ 3))
theorem maySt_iff (k : Int × Int) : maySt k = true ↔ (0 ≤ k.1 ∧ k.1 ≤ 5) ∧ 1 ≤ k.2 ∧ k.2 ≤ 3 := by simp [maySt]
/-- Is this chunk kept? -/
def takesS (R : RowsS α) (k : Int × Int) (seq : Int) : Bool := maySt k && (decide (seq = ((getS R k).length : Int)) && decide (seq < 40))
def putS (R : RowsS α) (k : Int × Int) (seq : Int) (ps : List α) : RowsS α := if takesS R k seq = true then setS R k (getS R k ++ [ps]) else R
/-- What Put answers. -/
def putN (R : RowsS α) (k : Int × Int) (seq : Int) : Nat := if takesS R k seq = true then (getS R k).length + 1 else if maySt k = true then (getS R k).length else 0
def dropS (R : RowsS α) (s : Int) : RowsS α := R.filter (fun r => !decide (r.1.1 = s))
def dropN (R : RowsS α) (s : Int) : Nat := (R.filter (fun r => decide (r.1.1 = s))).length
/-- Such as New answers, and Put and Drop leave. -/
structure OkS (R : RowsS α) : Prop where
  apart : R.Pairwise (fun p q => p.1 ≠ q.1)
  may : ∀ r ∈ R, maySt r.1 = true
  some : ∀ r ∈ R, r.2 ≠ []
  few : ∀ r ∈ R, r.2.length ≤ 40
theorem okS_nil : OkS ([] : RowsS α) := ⟨.nil, fun _ h => absurd h (by simp), fun _ h => absurd h (by simp), fun _ h => absurd h (by simp)⟩

theorem getS_mem : ∀ {R : RowsS α} {k : Int × Int}, getS R k ≠ [] → (k, getS R k) ∈ R
  | [], k, h => absurd rfl h
  | r :: R, k, h => by
    unfold getS at h ⊢
    by_cases e : r.1 = k
    · rw [if_pos e, ← e]
      exact List.mem_cons_self
    · rw [if_neg e] at h ⊢
      exact List.mem_cons_of_mem _ (getS_mem h)
theorem getS_none : ∀ {R : RowsS α} {k : Int × Int}, (∀ r ∈ R, r.1 ≠ k) → getS R k = []
  | [], _, _ => rfl
  | r :: R, k, h => by
    unfold getS
    rw [if_neg (h r List.mem_cons_self)]
    exact getS_none (fun q hq => h q (List.mem_cons_of_mem _ hq))
/-- A row that is there is what its attempt keeps. -/
theorem getS_at : ∀ {R : RowsS α} {r : (Int × Int) × List (List α)}, R.Pairwise (fun p q => p.1 ≠ q.1) → r ∈ R → getS R r.1 = r.2
  | [], _, _, h => nomatch h
  | q :: R, r, hp, h => by
    unfold getS
    rcases List.mem_cons.1 h with e | e
    · rw [e, if_pos rfl]
    · have := (List.pairwise_cons.1 hp).1 r e
      rw [if_neg this]
      exact getS_at (List.pairwise_cons.1 hp).2 e
/-- Nothing is kept: there is no row. -/
theorem getS_nil_iff {R : RowsS α} (h : OkS R) (k : Int × Int) : getS R k = [] ↔ ∀ r ∈ R, r.1 ≠ k := by
  refine ⟨fun e r hr hk => ?_, getS_none⟩
  have := getS_at h.apart hr
  rw [hk, e] at this
  exact h.some r hr this.symm
theorem getS_set_same : ∀ (R : RowsS α) (k : Int × Int) (v : List (List α)), getS (setS R k v) k = v
  | [], k, v => by simp [setS, getS]
  | r :: R, k, v => by
    unfold setS
    by_cases e : r.1 = k
    · rw [if_pos e]
      simp [getS]
    · rw [if_neg e]
      unfold getS
      rw [if_neg e]
      exact getS_set_same R k v
theorem getS_set_other : ∀ (R : RowsS α) (k : Int × Int) (v : List (List α)) {q : Int × Int}, q ≠ k → getS (setS R k v) q = getS R q
  | [], k, v, q, h => by simp [setS, getS, h.symm]
  | r :: R, k, v, q, h => by
    unfold setS
    by_cases e : r.1 = k
    · rw [if_pos e]
      unfold getS
      rw [if_neg (fun x => h x.symm), if_neg (by rw [e]; exact fun x => h x.symm)]
    · rw [if_neg e]
      unfold getS
      by_cases e2 : r.1 = q
      · rw [if_pos e2, if_pos e2]
      · rw [if_neg e2, if_neg e2]
        exact getS_set_other R k v h
theorem setS_mem {β : Type} : ∀ {R : List ((Int × Int) × β)} {k : Int × Int} {v : β} {r : (Int × Int) × β}, r ∈ setS R k v → r = (k, v) ∨ (r ∈ R ∧ r.1 ≠ k) ∨ (r ∈ R ∧ ∃ q ∈ R, q.1 = k)
  | [], k, v, r, h => .inl (by simpa [setS] using h)
  | q :: R, k, v, r, h => by
    unfold setS at h
    by_cases e : q.1 = k
    · rw [if_pos e] at h
      rcases List.mem_cons.1 h with h | h
      · exact .inl h
      · exact .inr (.inr ⟨List.mem_cons_of_mem _ h, q, List.mem_cons_self, e⟩)
    · rw [if_neg e] at h
      rcases List.mem_cons.1 h with h | h
      · exact .inr (.inl ⟨by rw [h]; exact List.mem_cons_self, by rw [h]; exact e⟩)
      · rcases setS_mem h with h | h | h
        · exact .inl h
        · exact .inr (.inl ⟨List.mem_cons_of_mem _ h.1, h.2⟩)
        · obtain ⟨h1, p, hp, hk⟩ := h
          exact .inr (.inr ⟨List.mem_cons_of_mem _ h1, p, List.mem_cons_of_mem _ hp, hk⟩)
/-- The keys, in their order. -/
theorem setS_keys {β : Type} : ∀ (R : List ((Int × Int) × β)) (k : Int × Int) (v : β), (setS R k v).map (·.1) = if k ∈ R.map (·.1) then R.map (·.1) else R.map (·.1) ++ [k]
  | [], k, v => by simp [setS]
  | r :: R, k, v => by
    unfold setS
    by_cases e : r.1 = k
    · rw [if_pos e, if_pos (by rw [List.map_cons, e]; exact List.mem_cons_self)]
      simp [e]
    · rw [if_neg e, List.map_cons, setS_keys R k v]
      have hm : k ∈ (r :: R).map (·.1) ↔ k ∈ R.map (·.1) := by
        rw [List.map_cons, List.mem_cons]
        exact ⟨fun h => h.resolve_left (fun x => e x.symm), .inr⟩
      by_cases h : k ∈ R.map (·.1)
      · rw [if_pos h, if_pos (hm.2 h)]
        rfl
      · rw [if_neg h, if_neg (fun x => h (hm.1 x))]
        rfl
theorem keys_iff {R : RowsS α} (h : OkS R) (k : Int × Int) : k ∈ R.map (·.1) ↔ getS R k ≠ [] := by
  rw [Ne, getS_nil_iff h k, List.mem_map]
  constructor
  · rintro ⟨r, hr, e⟩ hn
    exact hn r hr e
  · intro hn
    exact Classical.byContradiction (fun h2 => hn (fun r hr e => h2 ⟨r, hr, e⟩))
theorem setS_length {R : RowsS α} (h : OkS R) (k : Int × Int) (v : List (List α)) : (setS R k v).length = if getS R k = [] then R.length + 1 else R.length := by
  have h1 := congrArg List.length (setS_keys R k v)
  rw [List.length_map] at h1
  rw [h1]
  by_cases e : getS R k = []
  · rw [if_pos e, if_neg (fun x => (keys_iff h k).1 x e)]
    simp
  · rw [if_neg e, if_pos ((keys_iff h k).2 e)]
    simp
theorem apart_iff {β : Type} (R : List ((Int × Int) × β)) : R.Pairwise (fun p q => p.1 ≠ q.1) ↔ (R.map (·.1)).Pairwise (· ≠ ·) := by rw [List.pairwise_map]
/-- What stands at a key, in a list of keys and whatever. -/
def lookS {β : Type} : List ((Int × Int) × β) → Int × Int → Option β
  | [], _ => none
  | r :: R, k => if r.1 = k then some r.2 else lookS R k
theorem getS_look : ∀ (R : RowsS α) (k : Int × Int), getS R k = (lookS R k).getD []
  | [], _ => rfl
  | r :: R, k => by
    unfold getS lookS
    by_cases e : r.1 = k
    · rw [if_pos e, if_pos e]
      rfl
    · rw [if_neg e, if_neg e]
      exact getS_look R k
theorem lookS_set_same {β : Type} : ∀ (l : List ((Int × Int) × β)) (k : Int × Int) (v : β), lookS (setS l k v) k = some v
  | [], k, v => by simp [setS, lookS]
  | r :: l, k, v => by
    unfold setS
    by_cases e : r.1 = k
    · rw [if_pos e]
      simp [lookS]
    · rw [if_neg e]
      unfold lookS
      rw [if_neg e]
      exact lookS_set_same l k v
theorem lookS_set_other {β : Type} : ∀ (l : List ((Int × Int) × β)) (k : Int × Int) (v : β) {q : Int × Int}, q ≠ k → lookS (setS l k v) q = lookS l q
  | [], k, v, q, h => by simp [setS, lookS, h.symm]
  | r :: l, k, v, q, h => by
    unfold setS
    by_cases e : r.1 = k
    · rw [if_pos e]
      unfold lookS
      rw [if_neg (fun x => h x.symm), if_neg (by rw [e]; exact fun x => h x.symm)]
    · rw [if_neg e]
      unfold lookS
      by_cases e2 : r.1 = q
      · rw [if_pos e2, if_pos e2]
      · rw [if_neg e2, if_neg e2]
        exact lookS_set_other l k v h
theorem lookS_mem {β : Type} : ∀ {l : List ((Int × Int) × β)} {k : Int × Int} {v : β}, lookS l k = some v → (k, v) ∈ l
  | [], _, _, h => by simp [lookS] at h
  | r :: l, k, v, h => by
    unfold lookS at h
    by_cases e : r.1 = k
    · rw [if_pos e] at h
      cases h
      rw [← e]
      exact List.mem_cons_self
    · rw [if_neg e] at h
      exact List.mem_cons_of_mem _ (lookS_mem h)
theorem lookS_at {β : Type} : ∀ {l : List ((Int × Int) × β)} {r : (Int × Int) × β}, l.Pairwise (fun p q => p.1 ≠ q.1) → r ∈ l → lookS l r.1 = some r.2
  | [], _, _, h => nomatch h
  | q :: l, r, hp, h => by
    unfold lookS
    rcases List.mem_cons.1 h with e | e
    · rw [e, if_pos rfl]
    · rw [if_neg ((List.pairwise_cons.1 hp).1 r e)]
      exact lookS_at (List.pairwise_cons.1 hp).2 e
theorem lookS_none {β : Type} : ∀ {l : List ((Int × Int) × β)} {k : Int × Int}, lookS l k = none ↔ k ∉ l.map (·.1)
  | [], _ => by simp [lookS]
  | r :: l, k => by
    unfold lookS
    rw [List.map_cons, List.mem_cons]
    by_cases e : r.1 = k
    · rw [if_pos e]
      simp [e]
    · rw [if_neg e, lookS_none]
      constructor
      · rintro h (h2 | h2)
        · exact e h2.symm
        · exact h h2
      · exact fun h h2 => h (.inr h2)
theorem lookS_filter {β : Type} : ∀ (l : List ((Int × Int) × β)) (f : Int × Int → Bool) (k : Int × Int), lookS (l.filter (fun p => f p.1)) k = if f k = true then lookS l k else none
  | [], f, k => by simp [lookS]
  | r :: l, f, k => by
    rw [List.filter_cons]
    by_cases e : f r.1 = true
    · rw [if_pos e]
      unfold lookS
      by_cases e2 : r.1 = k
      · rw [if_pos e2, if_pos e2, if_pos (by rw [← e2]; exact e)]
      · rw [if_neg e2, if_neg e2, lookS_filter l f k]
    · rw [if_neg e, lookS_filter l f k]
      by_cases h : f k = true
      · rw [if_pos h, if_pos h]
        conv => rhs; unfold lookS
        rw [if_neg (fun x => e (by rw [x]; exact h))]
      · rw [if_neg h, if_neg h]
theorem setS_map {β γ : Type} (f : β → γ) : ∀ (l : List ((Int × Int) × β)) (k : Int × Int) (v : β), (setS l k v).map (fun p => (p.1, f p.2)) = setS (l.map (fun p => (p.1, f p.2))) k (f v)
  | [], k, v => rfl
  | r :: l, k, v => by
    have ih := setS_map f l k v
    by_cases e : r.1 = k
    · simp only [setS, List.map_cons, if_pos e]
    · simp only [setS, List.map_cons, if_neg e, ih]
theorem lookS_map {β γ : Type} (f : β → γ) : ∀ (l : List ((Int × Int) × β)) (k : Int × Int), lookS (l.map (fun p => (p.1, f p.2))) k = (lookS l k).map f
  | [], k => rfl
  | r :: l, k => by
    rw [List.map_cons]
    unfold lookS
    by_cases e : r.1 = k
    · rw [if_pos e, if_pos e]
      rfl
    · rw [if_neg e, if_neg e]
      exact lookS_map f l k
/-- One is struck out. -/
theorem strike_length {β : Type} : ∀ {l : List ((Int × Int) × β)} (k : Int × Int), l.Pairwise (fun p q => p.1 ≠ q.1) → (l.filter (fun p => !decide (p.1 = k))).length + (if (lookS l k).isSome = true then 1 else 0) = l.length
  | [], k, _ => rfl
  | r :: l, k, hp => by
    have ih := strike_length k (List.pairwise_cons.1 hp).2
    rw [List.filter_cons]
    unfold lookS
    by_cases e : r.1 = k
    · have hn : lookS l k = none := lookS_none.2 (fun hm => by
        obtain ⟨q, hq, e2⟩ := List.mem_map.1 hm
        exact (List.pairwise_cons.1 hp).1 q hq (by rw [e, e2]))
      rw [hn] at ih
      rw [if_pos e, if_neg (by simp [e])]
      simp at ih ⊢
      exact ih
    · rw [if_neg e, if_pos (by simp [e])]
      simp only [List.length_cons]
      omega
theorem setS_apart {β : Type} {l : List ((Int × Int) × β)} (h : l.Pairwise (fun p q => p.1 ≠ q.1)) (k : Int × Int) (v : β) : (setS l k v).Pairwise (fun p q => p.1 ≠ q.1) := by
  rw [apart_iff, setS_keys]
  have ha := (apart_iff l).1 h
  split
  · exact ha
  · rename_i hn
    refine List.pairwise_append.2 ⟨ha, List.pairwise_singleton _ _, fun a ha2 b hb e => ?_⟩
    rw [List.mem_singleton.1 hb] at e
    rw [← e] at hn
    exact hn ha2
theorem setS_len {β : Type} (l : List ((Int × Int) × β)) (k : Int × Int) (v : β) : (setS l k v).length = if (lookS l k).isSome = true then l.length else l.length + 1 := by
  have h1 := congrArg List.length (setS_keys l k v)
  rw [List.length_map] at h1
  rw [h1]
  cases hl : lookS l k with
  | none => rw [if_neg (lookS_none.1 hl)]; simp
  | some u =>
    rw [if_pos (Classical.byContradiction (fun x => by rw [lookS_none.2 x] at hl; cases hl))]
    simp
theorem OkS.set {R : RowsS α} (h : OkS R) {k : Int × Int} {v : List (List α)} (hk : maySt k = true) (hv : v ≠ []) (hl : v.length ≤ 40) : OkS (setS R k v) := by
  refine ⟨?_, fun r hr => ?_, fun r hr => ?_, fun r hr => ?_⟩
  · rw [apart_iff, setS_keys]
    have ha := (apart_iff R).1 h.apart
    split
    · exact ha
    · rename_i hn
      refine List.pairwise_append.2 ⟨ha, List.pairwise_singleton _ _, fun a ha2 b hb e => ?_⟩
      rw [List.mem_singleton.1 hb] at e
      rw [← e] at hn
      exact hn ha2
  all_goals
    rcases setS_mem hr with e | e | e
  · rw [e]; exact hk
  · exact h.may r e.1
  · exact h.may r e.1
  · rw [e]; exact hv
  · exact h.some r e.1
  · exact h.some r e.1
  · rw [e]; exact hl
  · exact h.few r e.1
  · exact h.few r e.1
theorem takesS_iff (R : RowsS α) (k : Int × Int) (seq : Int) : takesS R k seq = true ↔ maySt k = true ∧ seq = ((getS R k).length : Int) ∧ seq < 40 := by simp [takesS]
theorem OkS.put {R : RowsS α} (h : OkS R) (k : Int × Int) (seq : Int) (ps : List α) : OkS (putS R k seq ps) := by
  unfold putS
  split
  · rename_i ht
    obtain ⟨h1, h2, h3⟩ := (takesS_iff R k seq).1 ht
    exact h.set h1 (by simp) (by rw [List.length_append]; simp; omega)
  · exact h
theorem getS_put {R : RowsS α} (k : Int × Int) (seq : Int) (ps : List α) (q : Int × Int) : getS (putS R k seq ps) q = if takesS R k seq = true ∧ q = k then getS R k ++ [ps] else getS R q := by
  unfold putS
  by_cases ht : takesS R k seq = true
  · rw [if_pos ht]
    by_cases e : q = k
    · rw [if_pos ⟨ht, e⟩, e, getS_set_same]
    · rw [if_neg (fun x => e x.2), getS_set_other R k _ e]
  · rw [if_neg ht, if_neg (fun x => ht x.1)]
/-- What Put answers is which one is wanted then. -/
theorem putN_is {R : RowsS α} (k : Int × Int) (seq : Int) (ps : List α) : putN R k seq = if maySt k = true then (getS (putS R k seq ps) k).length else 0 := by
  unfold putN
  rw [getS_put]
  by_cases ht : takesS R k seq = true
  · have hm := ((takesS_iff R k seq).1 ht).1
    rw [if_pos ht, if_pos hm, if_pos ⟨ht, rfl⟩]
    simp
  · rw [if_neg ht]
    by_cases hm : maySt k = true
    · rw [if_pos hm, if_pos hm, if_neg (fun x => ht x.1)]
    · rw [if_neg hm, if_neg hm]
theorem OkS.drop {R : RowsS α} (h : OkS R) (s : Int) : OkS (dropS R s) :=
  ⟨h.apart.filter _, fun r hr => h.may r ((List.mem_filter.1 hr).1), fun r hr => h.some r ((List.mem_filter.1 hr).1), fun r hr => h.few r ((List.mem_filter.1 hr).1)⟩
theorem getS_drop : ∀ (R : RowsS α) (s : Int) (k : Int × Int), getS (dropS R s) k = if k.1 = s then [] else getS R k
  | [], s, k => by simp [dropS, getS]
  | r :: R, s, k => by
    have ih := getS_drop R s k
    unfold dropS at ih ⊢
    rw [List.filter_cons]
    by_cases e : r.1.1 = s
    · rw [if_neg (by simp [e]), ih]
      by_cases hk : k.1 = s
      · rw [if_pos hk, if_pos hk]
      · rw [if_neg hk, if_neg hk]
        conv => rhs; unfold getS
        rw [if_neg (fun x => hk (by rw [← x]; exact e))]
    · rw [if_pos (by simp [e])]
      unfold getS
      by_cases h2 : r.1 = k
      · rw [if_pos h2, if_neg (by rw [← h2]; exact e), if_pos h2]
      · rw [if_neg h2, if_neg h2, ih]
theorem drop_length : ∀ (R : RowsS α) (s : Int), (dropS R s).length + dropN R s = R.length
  | [], s => rfl
  | r :: R, s => by
    have ih := drop_length R s
    unfold dropS dropN at ih ⊢
    rw [List.filter_cons, List.filter_cons]
    by_cases e : r.1.1 = s
    · rw [if_neg (by simp [e]), if_pos (by simp [e])]
      simp only [List.length_cons]
      omega
    · rw [if_pos (by simp [e]), if_neg (by simp [e])]
      simp only [List.length_cons]
      omega

/-- How many of the keys of a list are kept. -/
def countS (R : RowsS α) (G : List (Int × Int)) : Nat := (G.filter (fun k => !(getS R k).isEmpty)).length
theorem countS_cons (R : RowsS α) (k : Int × Int) (G : List (Int × Int)) : countS R (k :: G) = (if (getS R k) = [] then 0 else 1) + countS R G := by
  unfold countS
  rw [List.filter_cons]
  cases getS R k with
  | nil => simp
  | cons a b => simp; omega
theorem countS_append (R : RowsS α) (G G' : List (Int × Int)) : countS R (G ++ G') = countS R G + countS R G' := by simp [countS]
/-- Where no key is that of the first row, it does not count. -/
theorem countS_skip {R : RowsS α} {r : (Int × Int) × List (List α)} : ∀ {G : List (Int × Int)}, r.1 ∉ G → countS (r :: R) G = countS R G
  | [], _ => rfl
  | k :: G, h => by
    rw [countS_cons, countS_cons, countS_skip (fun x => h (List.mem_cons_of_mem _ x))]
    have e : getS (r :: R) k = getS R k := by
      conv => lhs; unfold getS
      rw [if_neg (fun x => h (by rw [x]; exact List.mem_cons_self))]
    rw [e]
theorem countS_nil : ∀ (G : List (Int × Int)), countS ([] : RowsS α) G = 0
  | [] => rfl
  | k :: G => by rw [countS_cons, countS_nil G]; rfl
/-- All rows' keys are on a list that has none twice: it counts the rows. -/
theorem countS_all : ∀ {R : RowsS α}, OkS R → ∀ {G : List (Int × Int)}, G.Pairwise (· ≠ ·) → (∀ r ∈ R, r.1 ∈ G) → countS R G = R.length
  | [], _, G, _, _ => countS_nil G
  | r :: R, h, G, hG, hall => by
    have h2 : OkS R := ⟨(List.pairwise_cons.1 h.apart).2, fun q hq => h.may q (List.mem_cons_of_mem _ hq), fun q hq => h.some q (List.mem_cons_of_mem _ hq), fun q hq => h.few q (List.mem_cons_of_mem _ hq)⟩
    have hr0 : getS R r.1 = [] := (getS_nil_iff h2 r.1).2 (fun q hq e => (List.pairwise_cons.1 h.apart).1 q hq e.symm)
    have hrr : getS (r :: R) r.1 ≠ [] := by
      unfold getS
      rw [if_pos rfl]
      exact h.some r List.mem_cons_self
    obtain ⟨A, B, e⟩ := List.append_of_mem (hall r List.mem_cons_self)
    subst e
    have hp := List.pairwise_append.1 hG
    have hpc := List.pairwise_cons.1 hp.2.1
    have hA : r.1 ∉ A := fun x => hp.2.2 r.1 x r.1 List.mem_cons_self rfl
    have hB : r.1 ∉ B := fun x => hpc.1 r.1 x rfl
    have ih := countS_all h2 hG (fun q hq => hall q (List.mem_cons_of_mem _ hq))
    rw [countS_append, countS_cons, if_pos hr0] at ih
    rw [countS_append, countS_cons, if_neg hrr, countS_skip hA, countS_skip hB, List.length_cons]
    omega
/-- All keys that may be. -/
def gridS : List (Int × Int) := (List.range 18).map (fun (j : Nat) => (((j / 3 : Nat) : Int), ((j % 3 + 1 : Nat) : Int)))
theorem gridS_apart : gridS.Pairwise (· ≠ ·) := by decide
theorem gridS_len : gridS.length = 18 := by simp [gridS]
theorem gridS_mem {k : Int × Int} (h : maySt k = true) : k ∈ gridS := by
  obtain ⟨⟨h1, h2⟩, h3, h4⟩ := (maySt_iff k).1 h
  unfold gridS
  rw [List.mem_map]
  refine ⟨k.1.toNat * 3 + (k.2.toNat - 1), List.mem_range.2 (by omega), ?_⟩
  apply Prod.ext
  · show (((k.1.toNat * 3 + (k.2.toNat - 1)) / 3 : Nat) : Int) = k.1
    omega
  · show (((k.1.toNat * 3 + (k.2.toNat - 1)) % 3 + 1 : Nat) : Int) = k.2
    omega
theorem gridS_at {i a : Nat} (hi : i < 6) (ha : a < 3) : gridS[i * 3 + a]? = some ((i : Int), ((a + 1 : Nat) : Int)) := by
  unfold gridS
  rw [List.getElem?_map, List.getElem?_range (by omega)]
  have h1 : (i * 3 + a) / 3 = i := by omega
  have h2 : (i * 3 + a) % 3 = a := by omega
  simp only [Option.map_some, h1, h2]
theorem count_grid {R : RowsS α} (h : OkS R) : countS R gridS = R.length := countS_all h gridS_apart (fun r hr => gridS_mem (h.may r hr))
theorem okS_few {R : RowsS α} (h : OkS R) : R.length ≤ 18 := by
  rw [← count_grid h]
  unfold countS
  exact Nat.le_trans (List.length_filter_le _ _) (Nat.le_of_eq gridS_len)
/-- Behind a step more of the grid. -/
theorem count_step (R : RowsS α) {j : Nat} {k : Int × Int} (h : gridS[j]? = some k) : countS R (gridS.take (j + 1)) = countS R (gridS.take j) + (if getS R k = [] then 0 else 1) := by
  obtain ⟨hj, e⟩ := List.getElem?_eq_some_iff.1 h
  rw [List.take_succ_eq_append_getElem hj, countS_append, e, countS_cons]
  rfl
/-- Those of one split. -/
theorem dropN_is {R : RowsS α} (h : OkS R) (s : Int) : dropN R s + countS (dropS R s) gridS = countS R gridS := by
  rw [count_grid h, count_grid (h.drop s)]
  have := drop_length R s
  omega
/-- How many of a beginning of the grid are of split s, and kept. -/
def ofS (R : RowsS α) (s : Int) (G : List (Int × Int)) : Nat := ((G.filter (fun k => decide (k.1 = s))).filter (fun k => !(getS R k).isEmpty)).length
theorem ofS_step (R : RowsS α) (s : Int) {j : Nat} {k : Int × Int} (h : gridS[j]? = some k) : ofS R s (gridS.take (j + 1)) = ofS R s (gridS.take j) + (if k.1 = s ∧ getS R k ≠ [] then 1 else 0) := by
  obtain ⟨hj, e⟩ := List.getElem?_eq_some_iff.1 h
  unfold ofS
  rw [List.take_succ_eq_append_getElem hj, List.filter_append, List.filter_append, List.length_append, e]
  congr 1
  by_cases h1 : k.1 = s
  · by_cases h2 : getS R k = []
    · simp [h1, h2]
    · simp [h1, h2]
  · simp [h1]
theorem ofS_all {R : RowsS α} (h : OkS R) (s : Int) : ofS R s gridS = dropN R s := by
  have h1 := dropN_is h s
  have h2 : ∀ G : List (Int × Int), ofS R s G + countS (dropS R s) G = countS R G := by
    intro G
    induction G with
    | nil => rfl
    | cons k G ih =>
      have ho : ofS R s (k :: G) = (if k.1 = s ∧ getS R k ≠ [] then 1 else 0) + ofS R s G := by
        unfold ofS
        rw [List.filter_cons]
        by_cases h1 : k.1 = s
        · rw [if_pos (by simpa using h1), List.filter_cons]
          by_cases h2 : getS R k = []
          · simp [h1, h2]
          · rw [if_pos (by simp [h2]), if_pos ⟨h1, h2⟩]
            simp only [List.length_cons]
            omega
        · rw [if_neg (by simpa using h1), if_neg (fun x => h1 x.1)]
          omega
      rw [ho, countS_cons, countS_cons, getS_drop]
      by_cases h1 : k.1 = s
      · rw [if_pos h1, if_pos rfl]
        by_cases h2 : getS R k = []
        · rw [if_neg (fun x => x.2 h2), if_pos h2]
          omega
        · rw [if_pos ⟨h1, h2⟩, if_neg h2]
          omega
      · rw [if_neg (fun x => h1 x.1), if_neg h1]
        omega
  have := h2 gridS
  omega
/-- A split is dropped key by key, in whatever order: what is left while 'todo' says which keys are still to come, and how many are gone. -/
def keepS {β : Type} (l : List ((Int × Int) × β)) (s : Int) (todo : Int × Int → Bool) : List ((Int × Int) × β) := l.filter (fun p => !decide (p.1.1 = s) || todo p.1)
def goneS {β : Type} (l : List ((Int × Int) × β)) (s : Int) (todo : Int × Int → Bool) : Nat := (l.filter (fun p => decide (p.1.1 = s) && !todo p.1)).length
theorem keep_start {β : Type} {l : List ((Int × Int) × β)} (s : Int) {todo : Int × Int → Bool} (h : ∀ p ∈ l, todo p.1 = true) : keepS l s todo = l ∧ goneS l s todo = 0 := by
  constructor
  · exact List.filter_eq_self.2 (fun p hp => by simp [h p hp])
  · unfold goneS
    rw [List.length_eq_zero_iff, List.filter_eq_nil_iff]
    intro p hp
    simp [h p hp]
theorem keep_end {β : Type} {l : List ((Int × Int) × β)} (s : Int) {todo : Int × Int → Bool} (h : ∀ p ∈ l, todo p.1 = false) : keepS l s todo = l.filter (fun p => !decide (p.1.1 = s)) ∧ goneS l s todo = (l.filter (fun p => decide (p.1.1 = s))).length := by
  constructor
  · exact List.filter_congr (fun p hp => by simp [h p hp])
  · exact congrArg List.length (List.filter_congr (fun p hp => by simp [h p hp]))
theorem keep_other {β : Type} (l : List ((Int × Int) × β)) {s : Int} (todo : Int × Int → Bool) {x : Int × Int} (hx : x.1 ≠ s) : keepS l s (fun y => todo y && !decide (y = x)) = keepS l s todo ∧ goneS l s (fun y => todo y && !decide (y = x)) = goneS l s todo := by
  have h : ∀ p : (Int × Int) × β, p.1.1 = s → ¬ p.1 = x := fun p hp e => hx (by rw [← e]; exact hp)
  constructor
  · refine List.filter_congr (fun p _ => ?_)
    by_cases e : p.1.1 = s
    · simp [e, h p e]
    · simp [e]
  · refine congrArg List.length (List.filter_congr (fun p _ => ?_))
    by_cases e : p.1.1 = s
    · simp [e, h p e]
    · simp [e]
theorem keep_struck {β : Type} (l : List ((Int × Int) × β)) {s : Int} (todo : Int × Int → Bool) {x : Int × Int} (hx : x.1 = s) : (keepS l s todo).filter (fun p => !decide (p.1 = x)) = keepS l s (fun y => todo y && !decide (y = x)) := by
  unfold keepS
  rw [List.filter_filter]
  refine List.filter_congr (fun p _ => ?_)
  by_cases e : p.1 = x
  · have e2 : p.1.1 = s := by rw [e]; exact hx
    simp [e, hx]
  · simp [e]
theorem gone_struck {β : Type} : ∀ {l : List ((Int × Int) × β)} {s : Int} {todo : Int × Int → Bool} {x : Int × Int}, l.Pairwise (fun p q => p.1 ≠ q.1) → x ∈ l.map (·.1) → todo x = true → x.1 = s → goneS l s (fun y => todo y && !decide (y = x)) = goneS l s todo + 1
  | [], _, _, _, _, h, _, _ => absurd h (by simp)
  | r :: l, s, todo, x, hp, hm, ht, hx => by
    have hpc := List.pairwise_cons.1 hp
    unfold goneS
    rw [List.filter_cons, List.filter_cons]
    by_cases e : r.1 = x
    · have hsame : l.filter (fun p => decide (p.1.1 = s) && !(todo p.1 && !decide (p.1 = x))) = l.filter (fun p => decide (p.1.1 = s) && !todo p.1) := by
        refine List.filter_congr (fun p hp2 => ?_)
        have : ¬ p.1 = x := fun e2 => hpc.1 p hp2 (by rw [e, e2])
        simp [this]
      rw [if_pos (by simp [e, hx]), if_neg (by simp [e, ht]), hsame]
      rfl
    · have hm2 : x ∈ l.map (·.1) := by
        rw [List.map_cons, List.mem_cons] at hm
        exact hm.resolve_left (fun h => e h.symm)
      have ih := gone_struck hpc.2 hm2 ht hx
      unfold goneS at ih
      by_cases e2 : (decide (r.1.1 = s) && !todo r.1) = true
      · rw [if_pos (by simpa [e] using e2), if_pos e2, List.length_cons, List.length_cons, ih]
      · rw [if_neg (by simpa [e] using e2), if_neg e2, ih]
end
end Go.Proofs.Ytejkboahjfcdcaa
