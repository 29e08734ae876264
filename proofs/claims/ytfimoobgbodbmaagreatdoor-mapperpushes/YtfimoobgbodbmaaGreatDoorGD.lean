/- Laid together: DMath DMore. -/
import Derived.Test.YtfimoobgbodbmaaGreatDoorGF
import Derived.Test.YtfimoobgbodbmaaGreatDoorGRun
import Derived.Test.YtfimoobgbodbmaaGreatDoorGPlain
/-! What a job comes to, over lists: a split's output, a part's, the whole; that fuel beyond what was needed, and a combine that tells each value as it is, change nothing. No program in this text. -/
namespace Go.Proofs.YtfimoobgbodbmaaGreatDoor
set_option linter.unusedVariables false
set_option maxRecDepth 100000

/-! ### Records, one by one -/
/-- The first reason. -/
def mapR (p : List Inst) (f : Int) : List KV → Int
  | [] => 0
  | r :: rs => if (run p r.1 [r.2] f).2.1 = 0 then mapR p f rs else (run p r.1 [r.2] f).2.1
/-- All that was told. -/
def mapT (p : List Inst) (f : Int) (rs : List KV) : List KV := rs.flatMap fun r => (run p r.1 [r.2] f).1
def mapL (p : List Inst) (rs : List KV) (f : Int) : List KV × Int :=
  if mapR p f rs = 0 then (if (mapT p f rs).length ≤ 40 then (mapT p f rs, 0) else ([], 5)) else ([], mapR p f rs)
theorem mapR_cons (p : List Inst) (f : Int) (r : KV) (rs : List KV) : mapR p f (r :: rs) = if (run p r.1 [r.2] f).2.1 = 0 then mapR p f rs else (run p r.1 [r.2] f).2.1 := rfl
theorem mapR_append (p : List Inst) (f : Int) (b : List KV) : ∀ a, mapR p f a = 0 → mapR p f (a ++ b) = mapR p f b
  | [], _ => rfl
  | r :: a, h => by
    rw [mapR_cons] at h
    rw [List.cons_append, mapR_cons]
    by_cases e : (run p r.1 [r.2] f).2.1 = 0
    · rw [if_pos e] at h ⊢
      exact mapR_append p f b a h
    · rw [if_neg e] at h
      exact absurd h e
/-- One record more. -/
theorem mapR_step {p : List Inst} {f : Int} {rs : List KV} {k : Nat} {r : KV} (h : mapR p f (rs.take k) = 0) (hr : rs[k]? = some r) (h1 : (run p r.1 [r.2] f).2.1 = 0) : mapR p f (rs.take (k + 1)) = 0 := by
  rw [List.take_add_one, hr, mapR_append p f _ _ h]
  show (if (run p r.1 [r.2] f).2.1 = 0 then (0 : Int) else _) = 0
  rw [if_pos h1]
theorem mapR_no {p : List Inst} {f : Int} {rs : List KV} {k : Nat} {r : KV} (h : mapR p f (rs.take k) = 0) (hr : rs[k]? = some r) (h1 : ¬ (run p r.1 [r.2] f).2.1 = 0) : mapR p f rs = (run p r.1 [r.2] f).2.1 := by
  have e : rs = rs.take k ++ r :: rs.drop (k + 1) := by
    obtain ⟨hk, rfl⟩ := List.getElem?_eq_some_iff.1 hr
    rw [List.getElem_cons_drop, List.take_append_drop]
  rw [e, mapR_append p f _ _ h, mapR_cons, if_neg h1]
theorem mapT_step {p : List Inst} {f : Int} {rs : List KV} {k : Nat} {r : KV} (hr : rs[k]? = some r) : mapT p f (rs.take (k + 1)) = mapT p f (rs.take k) ++ (run p r.1 [r.2] f).1 := by
  rw [List.take_add_one, hr]
  simp [mapT]
theorem mapT_le (p : List Inst) (f : Int) (rs : List KV) (k : Nat) : (mapT p f (rs.take k)).length ≤ (mapT p f rs).length := by
  have e : mapT p f rs = mapT p f (rs.take k) ++ mapT p f (rs.drop k) := by
    unfold mapT
    rw [← List.flatMap_append, List.take_append_drop]
  rw [e, List.length_append]
  omega
theorem mapT_few {p : List Inst} (hp : ∀ x ∈ p, I64 x.2.1) (f : Int) : ∀ rs : List KV, (mapT p f rs).length ≤ 40 * rs.length
  | [] => by simp [mapT]
  | r :: rs => by
    have h1 := (fair_run (key := r.1) (vals := [r.2]) hp f).2.2.1
    have h2 := mapT_few hp f rs
    have e : mapT p f (r :: rs) = (run p r.1 [r.2] f).1 ++ mapT p f rs := by simp [mapT]
    rw [e, List.length_append, List.length_cons]
    omega
theorem mapT_ok {p : List Inst} (hp : ∀ x ∈ p, I64 x.2.1) (f : Int) (rs : List KV) : ∀ x ∈ mapT p f rs, x.1.size ≤ 16 ∧ x.2.size ≤ 64 := by
  intro x hx
  obtain ⟨r, _, h⟩ := List.mem_flatMap.1 hx
  exact (fair_run (key := r.1) (vals := [r.2]) hp f).2.2.2 x h
theorem mapL_fine {p : List Inst} {rs : List KV} {f : Int} (h : (mapL p rs f).2 = 0) : mapL p rs f = (mapT p f rs, 0) ∧ mapR p f rs = 0 ∧ (mapT p f rs).length ≤ 40 := by
  unfold mapL at h ⊢
  by_cases e : mapR p f rs = 0
  · rw [if_pos e] at h ⊢
    by_cases e2 : (mapT p f rs).length ≤ 40
    · rw [if_pos e2]
      exact ⟨rfl, e, e2⟩
    · rw [if_neg e2] at h
      simp at h
  · rw [if_neg e] at h
    exact absurd h e
theorem mapL_none {p : List Inst} {rs : List KV} {f : Int} (h : ¬ (mapL p rs f).2 = 0) : (mapL p rs f).1 = [] := by
  unfold mapL at h ⊢
  by_cases e : mapR p f rs = 0
  · rw [if_pos e] at h ⊢
    by_cases e2 : (mapT p f rs).length ≤ 40
    · rw [if_pos e2] at h
      simp at h
    · rw [if_neg e2]
  · rw [if_neg e]

/-! ### Fuel -/
theorem run_more {p : List Inst} {key : ByteArray} {vals : List ByteArray} {f g : Int} (hm : bad p < 0) (h0 : 0 ≤ f) (hg : f ≤ g) (h2 : g ≤ 2000) (h : (run p key vals f).2.1 = 0) : run p key vals g = run p key vals f := by
  rcases run_fuel (key := key) (vals := vals) hm h0 (by omega) with e | ⟨a, r, d, _, hd, e, hk⟩
  · rw [e] at h
    simp at h
  · rw [e, (hk g (by omega) h2).1 (by omega)]
theorem mapR_more {p : List Inst} {f g : Int} (hm : bad p < 0) (h0 : 0 ≤ f) (hg : f ≤ g) (h2 : g ≤ 2000) : ∀ rs : List KV, mapR p f rs = 0 → mapR p g rs = 0 ∧ mapT p g rs = mapT p f rs
  | [], _ => ⟨rfl, rfl⟩
  | r :: rs, h => by
    unfold mapR at h
    by_cases e : (run p r.1 [r.2] f).2.1 = 0
    · rw [if_pos e] at h
      obtain ⟨h3, h4⟩ := mapR_more hm h0 hg h2 rs h
      have h5 := run_more hm h0 hg h2 e
      constructor
      · unfold mapR
        rw [h5, if_pos e]
        exact h3
      · have q : ∀ f, mapT p f (r :: rs) = (run p r.1 [r.2] f).1 ++ mapT p f rs := fun f => by simp [mapT]
        rw [q, q, h5, h4]
    · rw [if_neg e] at h
      exact absurd h e
theorem mapL_more {p : List Inst} {f g : Int} (hm : bad p < 0) (h0 : 0 ≤ f) (hg : f ≤ g) (h2 : g ≤ 2000) {rs : List KV} (h : (mapL p rs f).2 = 0) : mapL p rs g = mapL p rs f := by
  obtain ⟨e, h3, h4⟩ := mapL_fine h
  obtain ⟨h5, h6⟩ := mapR_more hm h0 hg h2 rs h3
  rw [e]
  unfold mapL
  rw [if_pos h5, h6, if_pos h4]
theorem runK_more {own : Bool} {l : List Inst} {k : ByteArray} {vals : List ByteArray} {f g : Int} (hm : bad l < 0) (h0 : 0 ≤ f) (hg : f ≤ g) (h2 : g ≤ 2000) (h : (runK own l k vals f).2 = 0) : runK own l k vals g = runK own l k vals f := by
  have hr : (run l k vals f).2.1 = 0 := by
    unfold runK at h
    split at h
    · simp at h
    · exact h
  unfold runK
  rw [run_more hm h0 hg h2 hr]
theorem foldK_more {own : Bool} {l : List Inst} {ps : List KV} {f g : Int} (hm : bad l < 0) (h0 : 0 ≤ f) (hg : f ≤ g) (h2 : g ≤ 2000) : ∀ (ks : List ByteArray) (all : List KV) (n : Nat), (foldK own l ps f ks all n).2 = 0 → foldK own l ps g ks all n = foldK own l ps f ks all n
  | [], _, _, _ => rfl
  | k :: ks, all, n, h => by
    by_cases e : (runK own l k (valsOf k ps) f).2 = 0
    · rw [foldK_yes rfl e] at h ⊢
      have h3 := runK_more hm h0 hg h2 e
      rw [foldK_yes h3 e]
      exact foldK_more hm h0 hg h2 ks _ _ h
    · rw [foldK_no rfl e] at h
      exact absurd h e
theorem eachL_more {l : List Inst} {ps : List KV} {f g : Int} (hm : bad l < 0) (h0 : 0 ≤ f) (hg : f ≤ g) (h2 : g ≤ 2000) (h : (eachL l ps f).2 = 0) : eachL l ps g = eachL l ps f := foldK_more hm h0 hg h2 _ _ _ h
theorem combineL_more {l : List Inst} {ps : List KV} {f g : Int} (hm : bad l < 0) (h0 : 0 ≤ f) (hg : f ≤ g) (h2 : g ≤ 2000) (h : (combineL l ps f).2 = 0) : combineL l ps g = combineL l ps f := by
  unfold combineL at h ⊢
  by_cases e : l.length = 0
  · rw [if_pos e, if_pos e]
  · rw [if_neg e] at h
    rw [if_neg e, if_neg e]
    exact foldK_more hm h0 hg h2 _ _ _ h

/-! ### A combine that tells each value as it is -/
theorem tell_key {l : List KV} (hl : l.length ≤ 40) (h : ∀ x ∈ l, x.1.size ≤ 16 ∧ x.2.size ≤ 64) {k : ByteArray} (hk : ∃ x ∈ l, x.1 = k) : runK true tellP k (valsOf k l) 2000 = (those k l, 0) := by
  have hks : k.size ≤ 16 := by
    obtain ⟨x, hx, rfl⟩ := hk
    exact (h x hx).1
  have hlen : (valsOf k l).length ≤ 40 := by
    have : (those k l).length ≤ l.length := List.length_filter_le _ _
    unfold valsOf
    rw [List.length_map]
    omega
  have hv : ∀ v ∈ valsOf k l, v.size ≤ 64 := by
    intro v hv
    obtain ⟨x, hx, rfl⟩ := vals_mem hv
    exact (h x hx).2
  have hr := tell_run (key := k) hv hks (by omega)
  rw [if_pos hlen] at hr
  unfold runK
  rw [hr]
  have hno : (((valsOf k l).map fun v => (k, v)).any fun x => !mayK true x k) = false := by
    rw [List.any_eq_false]
    intro x hx
    obtain ⟨v, _, rfl⟩ := List.mem_map.1 hx
    simp [mayK]
  rw [if_neg (by rw [hno]; simp), those_vals]
theorem tell_fold {l : List KV} (hl : l.length ≤ 40) (h : ∀ x ∈ l, x.1.size ≤ 16 ∧ x.2.size ≤ 64) : ∀ (ks : List ByteArray) (all : List KV) (n : Nat), (∀ k ∈ ks, ∃ x ∈ l, x.1 = k) → n + (byKeys ks l).length ≤ 40 → foldK true tellP l 2000 ks all n = (all ++ byKeys ks l, 0)
  | [], all, n, _, hn => by
    have : (byKeys [] l) = [] := rfl
    rw [foldK_nil, if_neg (by omega), this, List.append_nil]
  | k :: ks, all, n, hk, hn => by
    rw [byKeys_cons, List.length_append] at hn
    rw [foldK_yes (tell_key hl h (hk k List.mem_cons_self)) rfl, if_pos (by simp only; omega), tell_fold hl h ks _ _ (fun j hj => hk j (List.mem_cons_of_mem _ hj)) (by simp only; omega), byKeys_cons, List.append_assoc]
theorem tell_combine {l : List KV} (hl : l.length ≤ 40) (h : ∀ x ∈ l, x.1.size ≤ 16 ∧ x.2.size ≤ 64) : combineL tellP l 2000 = combineL [] l 2000 := by
  unfold combineL
  rw [if_neg (by simp [tellP]), if_pos (show ([] : List Inst).length = 0 from rfl)]
  unfold foldL
  rw [tell_fold hl h _ _ _ (fun k hk => mem_keys.1 hk) (by rw [byKeys_srt, length_srt]; omega), byKeys_srt, List.nil_append]

/-! ### In order, and few -/
theorem runK_own {l : List Inst} {k : ByteArray} {vals : List ByteArray} {f : Int} : ∀ x ∈ (runK true l k vals f).1, x.1 = k := by
  intro x hx
  unfold runK at hx
  split at hx
  · simp at hx
  · rename_i h
    have h2 : ¬ (mayK true x k) = false := fun e => h (List.any_eq_true.2 ⟨x, hx, by rw [e]; rfl⟩)
    simpa [mayK] using h2
theorem foldK_rises {l : List Inst} {ps : List KV} {f : Int} : ∀ (ks : List ByteArray) (all : List KV) (n : Nat), RisingK ks → Rising all → (∀ x ∈ all, ∀ k ∈ ks, kLt x.1 k = true) → Rising (foldK true l ps f ks all n).1
  | [], all, n, _, ha, _ => by
    rw [foldK_nil]
    split
    · exact List.Pairwise.nil
    · exact ha
  | k :: ks, all, n, hk, ha, hx => by
    by_cases e : (runK true l k (valsOf k ps) f).2 = 0
    · rw [foldK_yes rfl e]
      have hk2 := List.pairwise_cons.1 hk
      split
      · refine foldK_rises ks _ _ hk2.2 (rising_append.2 ⟨ha, ?_, fun x h1 y h2 => ?_⟩) fun x h1 j hj => ?_
        · refine List.pairwise_iff_getElem.2 fun i j hi hj _ => ?_
          rw [runK_own _ (List.getElem_mem hi), runK_own _ (List.getElem_mem hj)]
          exact kLt_irrefl k
        · rw [runK_own y h2]
          exact kLt_asymm (hx x h1 k List.mem_cons_self)
        · rcases List.mem_append.1 h1 with h1 | h1
          · exact hx x h1 j (List.mem_cons_of_mem _ hj)
          · rw [runK_own x h1]
            exact hk2.1 j hj
      · exact foldK_rises ks _ _ hk2.2 ha fun x h1 j hj => hx x h1 j (List.mem_cons_of_mem _ hj)
    · rw [foldK_no rfl e]
      exact List.Pairwise.nil
theorem combineL_rises (l : List Inst) (ps : List KV) (f : Int) : Rising (combineL l ps f).1 := by
  unfold combineL
  split
  · exact rising_srt ps
  · exact foldK_rises _ _ _ (rising_keys ps) List.Pairwise.nil fun x hx => by simp at hx
theorem foldK_few {own : Bool} {l : List Inst} {ps : List KV} {f : Int} : ∀ (ks : List ByteArray) (all : List KV) (n : Nat), all.length ≤ n → (all.length ≤ 40) → (foldK own l ps f ks all n).1.length ≤ 40
  | [], all, n, h, h4 => by
    rw [foldK_nil]
    split
    · simp
    · exact h4
  | k :: ks, all, n, h, h4 => by
    by_cases e : (runK own l k (valsOf k ps) f).2 = 0
    · rw [foldK_yes rfl e]
      split
      · refine foldK_few ks _ _ ?_ ?_ <;> rw [List.length_append] <;> omega
      · exact foldK_few ks _ _ (by omega) h4
    · rw [foldK_no rfl e]
      simp
theorem combineL_few {l : List Inst} {ps : List KV} {f : Int} (h : ps.length ≤ 40) : (combineL l ps f).1.length ≤ 40 := by
  unfold combineL
  split
  · rw [length_srt]
    exact h
  · exact foldK_few _ _ _ (by simp) (by simp)
theorem eachL_few (l : List Inst) (ps : List KV) (f : Int) : (eachL l ps f).1.length ≤ 40 := foldK_few _ _ _ (by simp) (by simp)

/-! ### Splits, parts, the whole -/
def splitL (mp cb : List Inst) (f : Int) (rs : List KV) : List KV × Int :=
  if (mapL mp rs f).2 = 0 then combineL cb (mapL mp rs f).1 f else ([], (mapL mp rs f).2)
def splitD (j : JobV) (s : Nat) : List KV × Int := splitL j.mp j.cb j.fuel (j.splits.getD s [])
/-- One part of a split's output. -/
def runOf (x : List KV × Int) (parts p : Int) : List KV × Int := if x.2 = 0 then (onlyL x.1 parts p, 0) else ([], x.2)
/-- A part's output, of splits whose outputs these are. -/
def partOfL (rd : List Inst) (f parts p : Int) (xs : List (List KV × Int)) : List KV × Int :=
  match xs.find? (fun x => decide (x.2 ≠ 0)) with
  | some x => ([], x.2)
  | none => eachL rd (srt (xs.map fun x => onlyL x.1 parts p).flatten) f
/-- How many are ahead of the first that has a reason, and that; none, if there is none. -/
def firstOf : List (List KV × Int) → Option (Nat × Int)
  | [] => none
  | x :: xs => if x.2 = 0 then (firstOf xs).map fun q => (q.1 + 1, q.2) else some (0, x.2)
def wholeL (rd : List Inst) (f : Int) (parts : Nat) (xs : List (List KV × Int)) : List (List KV) × Int × Nat :=
  match firstOf xs with
  | some q => ([], q.2, q.1)
  | none => match firstOf ((List.range parts).map fun (p : Nat) => partOfL rd f parts p xs) with
    | some q => ([], q.2, q.1)
    | none => ((List.range parts).map fun (p : Nat) => (partOfL rd f parts p xs).1, 0, 0)
def wholeD (j : JobV) : List (List KV) × Int × Nat := wholeL j.rd j.fuel j.parts.toNat (j.splits.map (splitL j.mp j.cb j.fuel))
theorem firstOf_cons (x : List KV × Int) (xs : List (List KV × Int)) : firstOf (x :: xs) = if x.2 = 0 then (firstOf xs).map fun q => (q.1 + 1, q.2) else some (0, x.2) := rfl
theorem firstOf_none {xs : List (List KV × Int)} : firstOf xs = none ↔ ∀ x ∈ xs, x.2 = 0 := by
  induction xs with
  | nil => simp [firstOf]
  | cons x xs ih =>
    unfold firstOf
    by_cases e : x.2 = 0
    · rw [if_pos e, Option.map_eq_none_iff, ih]
      simp [e]
    · rw [if_neg e]
      simp [e]
theorem firstOf_append {a b : List (List KV × Int)} (h : ∀ x ∈ a, x.2 = 0) : firstOf (a ++ b) = (firstOf b).map fun q => (q.1 + a.length, q.2) := by
  induction a with
  | nil =>
    show firstOf b = _
    cases firstOf b <;> rfl
  | cons x a ih =>
    rw [List.cons_append, firstOf_cons, if_pos (h x List.mem_cons_self), ih fun y hy => h y (List.mem_cons_of_mem _ hy), Option.map_map]
    congr 1
/-- The first k are fine, the next one is not. -/
theorem firstOf_at {xs : List (List KV × Int)} {k : Nat} {x : List KV × Int} (h : ∀ y ∈ xs.take k, y.2 = 0) (hx : xs[k]? = some x) (hn : ¬ x.2 = 0) : firstOf xs = some (k, x.2) := by
  obtain ⟨hk, rfl⟩ := List.getElem?_eq_some_iff.1 hx
  have e : xs = xs.take k ++ xs[k] :: xs.drop (k + 1) := by rw [List.getElem_cons_drop, List.take_append_drop]
  have h2 : firstOf (xs[k] :: xs.drop (k + 1)) = some (0, xs[k].2) := by
    unfold firstOf
    rw [if_neg hn]
  have h3 := firstOf_append (b := xs[k] :: xs.drop (k + 1)) h
  rw [← e, h2] at h3
  rw [h3]
  simp [List.length_take]
  omega
theorem splitL_more {mp cb : List Inst} {f g : Int} (hm : bad mp < 0) (hc : bad cb < 0) (h0 : 0 ≤ f) (hg : f ≤ g) (h2 : g ≤ 2000) {rs : List KV} (h : (splitL mp cb f rs).2 = 0) : splitL mp cb g rs = splitL mp cb f rs := by
  unfold splitL at h ⊢
  by_cases e : (mapL mp rs f).2 = 0
  · rw [if_pos e] at h
    rw [mapL_more hm h0 hg h2 e, if_pos e, if_pos e, combineL_more hc h0 hg h2 h]
  · rw [if_neg e] at h
    exact absurd h e
theorem splitL_rises (mp cb : List Inst) (f : Int) (rs : List KV) : Rising (splitL mp cb f rs).1 := by
  unfold splitL
  split
  · exact combineL_rises _ _ _
  · exact List.Pairwise.nil
theorem splitL_few (mp cb : List Inst) (f : Int) (rs : List KV) : (splitL mp cb f rs).1.length ≤ 40 := by
  unfold splitL
  split
  · rename_i h
    obtain ⟨e, _, h4⟩ := mapL_fine h
    rw [e]
    exact combineL_few h4
  · simp
theorem splitL_tell {mp : List Inst} (hp : ∀ x ∈ mp, I64 x.2.1) (rs : List KV) : splitL mp tellP 2000 rs = splitL mp [] 2000 rs := by
  unfold splitL
  by_cases e : (mapL mp rs 2000).2 = 0
  · obtain ⟨e2, _, h4⟩ := mapL_fine e
    rw [if_pos e, if_pos e, e2]
    exact tell_combine h4 (mapT_ok hp 2000 rs)
  · rw [if_neg e, if_neg e]
theorem partOfL_fine {rd : List Inst} {f parts p : Int} {xs : List (List KV × Int)} (h : ∀ x ∈ xs, x.2 = 0) : partOfL rd f parts p xs = eachL rd (srt (xs.map fun x => onlyL x.1 parts p).flatten) f := by
  unfold partOfL
  rw [List.find?_eq_none.2 fun x hx => by simp [h x hx]]
theorem partOfL_first {rd : List Inst} {f parts p : Int} {xs : List (List KV × Int)} {k : Nat} {x : List KV × Int} (h : ∀ y ∈ xs.take k, y.2 = 0) (hx : xs[k]? = some x) (hn : ¬ x.2 = 0) : partOfL rd f parts p xs = ([], x.2) := by
  obtain ⟨hk, rfl⟩ := List.getElem?_eq_some_iff.1 hx
  have e : xs.find? (fun x => decide (x.2 ≠ 0)) = some xs[k] := by
    have e2 : xs = xs.take k ++ xs[k] :: xs.drop (k + 1) := by rw [List.getElem_cons_drop, List.take_append_drop]
    generalize xs[k] = x at e2 hn ⊢
    rw [e2, List.find?_append, List.find?_eq_none.2 fun x hx => by simp [h x hx], List.find?_cons_of_pos (by simpa using hn)]
    rfl
  unfold partOfL
  rw [e]
/-- With more fuel, if it comes to all, it comes to the same. -/
theorem whole_more {j : JobV} {g : Int} (hm : bad j.mp < 0) (hc : bad j.cb < 0) (hr : bad j.rd < 0) (h0 : 0 ≤ j.fuel) (hg : j.fuel ≤ g) (h2 : g ≤ 2000) (h : (wholeD j).2.1 = 0) : wholeL j.rd g j.parts.toNat (j.splits.map (splitL j.mp j.cb g)) = wholeD j := by
  unfold wholeD wholeL at h
  unfold wholeD
  cases e : firstOf (j.splits.map (splitL j.mp j.cb j.fuel)) with
  | some q =>
    rw [e] at h
    exfalso
    have h3 : q.2 = 0 := h
    have : ∀ (xs : List (List KV × Int)) (q : Nat × Int), firstOf xs = some q → ¬ q.2 = 0 := by
      intro xs
      induction xs with
      | nil => intro q h; cases h
      | cons x xs ih =>
        intro q h
        unfold firstOf at h
        by_cases e : x.2 = 0
        · rw [if_pos e] at h
          obtain ⟨r, hr, rfl⟩ := Option.map_eq_some_iff.1 h
          exact ih r hr
        · rw [if_neg e] at h
          cases h
          exact e
    exact this _ q e h3
  | none =>
    have hall := firstOf_none.1 e
    have hs : j.splits.map (splitL j.mp j.cb g) = j.splits.map (splitL j.mp j.cb j.fuel) :=
      List.map_congr_left fun rs hrs => splitL_more hm hc h0 hg h2 (hall _ (List.mem_map_of_mem hrs))
    rw [hs]
    rw [e] at h
    have hno : ∀ (xs : List (List KV × Int)) (q : Nat × Int), firstOf xs = some q → ¬ q.2 = 0 := by
      intro xs
      induction xs with
      | nil => intro q h; cases h
      | cons x xs ih =>
        intro q h
        unfold firstOf at h
        by_cases e : x.2 = 0
        · rw [if_pos e] at h
          obtain ⟨r, hr, rfl⟩ := Option.map_eq_some_iff.1 h
          exact ih r hr
        · rw [if_neg e] at h
          cases h
          exact e
    simp only at h
    cases e2 : firstOf ((List.range j.parts.toNat).map fun (p : Nat) => partOfL j.rd j.fuel j.parts.toNat p (j.splits.map (splitL j.mp j.cb j.fuel))) with
    | some q =>
      rw [e2] at h
      exact absurd h (hno _ q e2)
    | none =>
      have hp := firstOf_none.1 e2
      have hq : ∀ p ∈ List.range j.parts.toNat, partOfL j.rd g j.parts.toNat p (j.splits.map (splitL j.mp j.cb j.fuel)) = partOfL j.rd j.fuel j.parts.toNat p (j.splits.map (splitL j.mp j.cb j.fuel)) := by
        intro p hp2
        have h3 := hp _ (List.mem_map_of_mem hp2)
        rw [partOfL_fine hall] at h3
        rw [partOfL_fine hall, partOfL_fine hall]
        exact eachL_more hr h0 hg h2 h3
      unfold wholeL
      rw [e]
      simp only
      rw [List.map_congr_left hq, e2]
      simp only
      rw [List.map_congr_left fun p hp2 => by rw [hq p hp2]]
/-- With as much fuel as there is, a combine that tells each value as it is, and none at all. -/
theorem whole_tell {mp rd : List Inst} (hp : ∀ x ∈ mp, I64 x.2.1) (parts : Nat) (ls : List (List KV)) : wholeL rd 2000 parts (ls.map (splitL mp tellP 2000)) = wholeL rd 2000 parts (ls.map (splitL mp [] 2000)) := by
  rw [List.map_congr_left fun rs _ => splitL_tell hp rs]
end Go.Proofs.YtfimoobgbodbmaaGreatDoor
/-! What a job comes to, more: beside a reason nothing is told; what is told is small. No program in this text. -/
namespace Go.Proofs.YtfimoobgbodbmaaGreatDoor
set_option linter.unusedVariables false
set_option maxRecDepth 100000

theorem foldK_told {own : Bool} {l : List Inst} {ps : List KV} {f : Int} : ∀ (ks : List ByteArray) (all : List KV) (n : Nat), ¬ (foldK own l ps f ks all n).2 = 0 → (foldK own l ps f ks all n).1 = []
  | [], all, n, h => by
    rw [foldK_nil] at h ⊢
    split at h
    · rename_i e
      rw [if_pos e]
    · exact absurd rfl h
  | k :: ks, all, n, h => by
    by_cases e : (runK own l k (valsOf k ps) f).2 = 0
    · rw [foldK_yes rfl e] at h ⊢
      exact foldK_told ks _ _ h
    · rw [foldK_no rfl e]
theorem combineL_told {l : List Inst} {ps : List KV} {f : Int} (h : ¬ (combineL l ps f).2 = 0) : (combineL l ps f).1 = [] := by
  unfold combineL at h ⊢
  by_cases e : l.length = 0
  · rw [if_pos e] at h
    exact absurd rfl h
  · rw [if_neg e] at h ⊢
    exact foldK_told _ _ _ h
theorem splitL_told {mp cb : List Inst} {f : Int} {rs : List KV} (h : ¬ (splitL mp cb f rs).2 = 0) : (splitL mp cb f rs).1 = [] := by
  unfold splitL at h ⊢
  by_cases e : (mapL mp rs f).2 = 0
  · rw [if_pos e] at h ⊢
    exact combineL_told h
  · rw [if_neg e]
theorem eachL_told {l : List Inst} {ps : List KV} {f : Int} (h : ¬ (eachL l ps f).2 = 0) : (eachL l ps f).1 = [] := foldK_told _ _ _ h
theorem partOfL_told {rd : List Inst} {f parts p : Int} {xs : List (List KV × Int)} (h : ¬ (partOfL rd f parts p xs).2 = 0) : (partOfL rd f parts p xs).1 = [] := by
  unfold partOfL at h ⊢
  split
  · rfl
  · rename_i e
    rw [e] at h
    exact eachL_told h
def smallKV (x : KV) : Prop := x.1.size ≤ 16 ∧ x.2.size ≤ 64
theorem runK_ok {own : Bool} {l : List Inst} (hp : ∀ x ∈ l, I64 x.2.1) (k : ByteArray) (vals : List ByteArray) (f : Int) : ∀ x ∈ (runK own l k vals f).1, smallKV x := by
  intro x hx
  unfold runK at hx
  split at hx
  · simp at hx
  · exact (fair_run (key := k) (vals := vals) hp f).2.2.2 x hx
theorem foldK_ok {own : Bool} {l : List Inst} (hp : ∀ x ∈ l, I64 x.2.1) {ps : List KV} {f : Int} : ∀ (ks : List ByteArray) (all : List KV) (n : Nat), (∀ x ∈ all, smallKV x) → ∀ x ∈ (foldK own l ps f ks all n).1, smallKV x
  | [], all, n, h => by
    rw [foldK_nil]
    split
    · intro x hx
      simp at hx
    · exact h
  | k :: ks, all, n, h => by
    by_cases e : (runK own l k (valsOf k ps) f).2 = 0
    · rw [foldK_yes rfl e]
      refine foldK_ok hp ks _ _ ?_
      split
      · intro x hx
        rcases List.mem_append.1 hx with hx | hx
        · exact h x hx
        · exact runK_ok hp k _ f x hx
      · exact h
    · rw [foldK_no rfl e]
      intro x hx
      simp at hx
theorem splitL_ok {mp cb : List Inst} (hm : ∀ x ∈ mp, I64 x.2.1) (hc : ∀ x ∈ cb, I64 x.2.1) (f : Int) (rs : List KV) : ∀ x ∈ (splitL mp cb f rs).1, smallKV x := by
  unfold splitL
  split
  · rename_i e
    rw [(mapL_fine e).1]
    unfold combineL
    split
    · intro x hx
      exact mapT_ok hm f rs x (mem_srt.1 hx)
    · exact foldK_ok hc _ _ _ (fun x hx => by simp at hx)
  · intro x hx
    simp at hx
theorem onlyL_small {l : List KV} {parts p : Int} (h : ∀ x ∈ l, smallKV x) : ∀ x ∈ onlyL l parts p, smallKV x := fun x hx => h x (List.mem_filter.1 hx).1
theorem runOf_fine {x : List KV × Int} {parts p : Int} (h : x.2 = 0) : runOf x parts p = (onlyL x.1 parts p, 0) := if_pos h
theorem runOf_not {x : List KV × Int} {parts p : Int} (h : ¬ x.2 = 0) : runOf x parts p = ([], x.2) := if_neg h
theorem firstOf_not : ∀ (xs : List (List KV × Int)) (q : Nat × Int), firstOf xs = some q → ¬ q.2 = 0
  | [], q, h => by cases h
  | x :: xs, q, h => by
    rw [firstOf_cons] at h
    by_cases e : x.2 = 0
    · rw [if_pos e] at h
      obtain ⟨r, hr, rfl⟩ := Option.map_eq_some_iff.1 h
      exact firstOf_not xs r hr
    · rw [if_neg e] at h
      cases h
      exact e
end Go.Proofs.YtfimoobgbodbmaaGreatDoor
