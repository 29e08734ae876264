/- Merging over lists: by places, by halves, of parts. No program in this text. -/
import Derived.Test.YtafbofcenbfkeaaSMerge
import Derived.Test.YtafbofcenbfkeaaQMath
namespace Go.Proofs.Ytafbofcenbfkeaa
set_option linter.unusedVariables false

theorem srt_one (x : KV) : srt [x] = [x] := rfl
/-- The second run's first goes ahead. -/
theorem merge_right {x y : KV} {a b : List KV} (ha : Rising (x :: a)) (hb : Rising (y :: b)) (h : kLt y.1 x.1 = true) : srt (x :: a ++ y :: b) = y :: srt (x :: a ++ b) := by
  have key := merge_parts (u1 := []) (u2 := x :: a) (v1 := [y]) (v2 := b) ha hb (fun _ h => by cases h) (fun z hz t ht => by
    rw [List.mem_singleton.1 ht]
    rcases List.mem_cons.1 hz with rfl | hz
    · exact h
    · exact kLt_le h ((List.pairwise_cons.1 ha).1 z hz))
  simpa [srt_one] using key.symm
/-- The first run's first goes ahead. -/
theorem merge_left {x y : KV} {a b : List KV} (ha : Rising (x :: a)) (hb : Rising (y :: b)) (h : kLt y.1 x.1 = false) : srt (x :: a ++ y :: b) = x :: srt (a ++ y :: b) := by
  have key := merge_parts (u1 := [x]) (u2 := a) (v1 := []) (v2 := y :: b) ha hb (fun z hz t ht => by
    rw [List.mem_singleton.1 hz]
    rcases List.mem_cons.1 ht with rfl | ht
    · exact h
    · exact kLe_trans h ((List.pairwise_cons.1 hb).1 t ht)) (fun _ _ _ h => by cases h)
  simpa [srt_one] using key.symm
/-- What was taken, ahead of what is still to be merged. -/
def Taken (a b M : List KV) (i j : Nat) : Prop := M ++ srt (a.drop i ++ b.drop j) = srt (a ++ b) ∧ M.length = i + j
theorem rising_drop {a : List KV} (h : Rising a) (i : Nat) : Rising (a.drop i) := List.Pairwise.sublist (List.drop_sublist i a) h
theorem Taken.start (a b : List KV) : Taken a b [] 0 0 := ⟨by simp, rfl⟩
theorem Taken.right {a b M : List KV} {i j : Nat} {x y : KV} (h : Taken a b M i j) (ha : Rising a) (hb : Rising b) (hx : a[i]? = some x) (hy : b[j]? = some y) (hk : kLt y.1 x.1 = true) : Taken a b (M ++ [y]) i (j + 1) := by
  obtain ⟨hi, rfl⟩ := List.getElem?_eq_some_iff.1 hx
  obtain ⟨hj, rfl⟩ := List.getElem?_eq_some_iff.1 hy
  obtain ⟨h1, h2⟩ := h
  refine ⟨?_, by simp; omega⟩
  have e1 := List.drop_eq_getElem_cons hi
  have e2 := List.drop_eq_getElem_cons hj
  have key := merge_right (e1 ▸ rising_drop ha i) (e2 ▸ rising_drop hb j) hk
  rw [← e1, ← e2] at key
  rw [← h1, key]
  simp
theorem Taken.left {a b M : List KV} {i j : Nat} {x y : KV} (h : Taken a b M i j) (ha : Rising a) (hb : Rising b) (hx : a[i]? = some x) (hy : b[j]? = some y) (hk : kLt y.1 x.1 = false) : Taken a b (M ++ [x]) (i + 1) j := by
  obtain ⟨hi, rfl⟩ := List.getElem?_eq_some_iff.1 hx
  obtain ⟨hj, rfl⟩ := List.getElem?_eq_some_iff.1 hy
  obtain ⟨h1, h2⟩ := h
  refine ⟨?_, by simp; omega⟩
  have e1 := List.drop_eq_getElem_cons hi
  have e2 := List.drop_eq_getElem_cons hj
  have key := merge_left (e1 ▸ rising_drop ha i) (e2 ▸ rising_drop hb j) hk
  rw [← e1, ← e2] at key
  rw [← h1, key]
  simp
theorem Taken.done {a b M : List KV} {i j : Nat} (h : Taken a b M i j) (ha : Rising a) (hb : Rising b) (he : a.length ≤ i ∨ b.length ≤ j) : M ++ a.drop i ++ b.drop j = srt (a ++ b) := by
  rw [← h.1, List.append_assoc]
  congr 1
  symm
  refine srt_self (rising_append.2 ⟨rising_drop ha i, rising_drop hb j, fun x hx y hy => ?_⟩)
  rcases he with he | he
  · rw [List.drop_eq_nil_of_le he] at hx; cases hx
  · rw [List.drop_eq_nil_of_le he] at hy; cases hy

/-! ### Runs -/
theorem runs_halves (ls : List (List KV)) (k : Nat) : srt (srt (ls.take k).flatten ++ srt (ls.drop k).flatten) = srt ls.flatten := by
  rw [srt_parts, ← List.flatten_append, List.take_append_drop]
theorem rising_flat {l : List KV} (h : Rising l) : srt [l].flatten = l := by
  rw [show [l].flatten = l by simp]
  exact srt_self h
theorem valsOf_nil (k : ByteArray) : valsOf k [] = [] := rfl
theorem valsOf_flat (k : ByteArray) (ls : List (List KV)) : valsOf k ls.flatten = (ls.map (valsOf k)).flatten := by
  induction ls with
  | nil => rfl
  | cons l ls ih => rw [List.flatten_cons, valsOf_append, ih]; rfl
theorem those_only (k : ByteArray) (l : List KV) (parts p : Int) : those k (onlyL l parts p) = onlyL (those k l) parts p := by
  unfold those onlyL
  rw [List.filter_filter, List.filter_filter]
  congr 1
  funext x
  rw [Bool.and_comm]
theorem only_srt (l : List KV) (parts p : Int) : onlyL (srt l) parts p = srt (onlyL l parts p) := by
  refine srt_eq (List.Pairwise.sublist List.filter_sublist (rising_srt l)) fun k => ?_
  rw [those_only, those_srt, those_only]
theorem only_flat (ls : List (List KV)) (parts p : Int) : onlyL ls.flatten parts p = (ls.map (fun l => onlyL l parts p)).flatten := by
  induction ls with
  | nil => rfl
  | cons l ls ih =>
    rw [List.flatten_cons, List.map_cons, List.flatten_cons, ← ih]
    unfold onlyL
    rw [List.filter_append]
/-- Runs without pairs change nothing. -/
theorem flat_more (ls : List (List KV)) : (ls.flatMap fun l => [[], l, []]).flatten = ls.flatten := by
  induction ls with
  | nil => rfl
  | cons l ls ih =>
    rw [List.flatMap_cons, List.flatten_append, ih]
    simp
end Go.Proofs.Ytafbofcenbfkeaa
