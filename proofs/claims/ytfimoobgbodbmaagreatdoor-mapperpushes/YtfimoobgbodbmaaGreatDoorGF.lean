/- Laid together: FMath QMath MMath. -/
import Derived.Test.YtfimoobgbodbmaaGreatDoorGKeys
import Derived.Test.YtfimoobgbodbmaaGreatDoorGRun
import Derived.WalkKit
import Derived.Test.YtfimoobgbodbmaaGreatDoorGPlain
/-! Folds over lists: what is told key by key, and why not. No program in this text. -/
namespace Go.Proofs.YtfimoobgbodbmaaGreatDoor
open Go.Lib
set_option linter.unusedVariables false
set_option maxRecDepth 100000

/-- May a run of this key tell that pair? (Where 'own' is asked: of no other key.) -/
def mayK (own : Bool) (x : KV) (k : ByteArray) : Bool := !own || decide (x.1 = k)
/-- One key's run: what was told, and the reason. -/
def runK (own : Bool) (l : List Inst) (k : ByteArray) (vals : List ByteArray) (f : Int) : List KV × Int :=
  if ((run l k vals f).1.any fun x => !mayK own x k) = true then ([], 6) else ((run l k vals f).1, (run l k vals f).2.1)
/-- The keys that are left, of what was told so far, and how many that would be. -/
def foldK (own : Bool) (l : List Inst) (ps : List KV) (f : Int) : List ByteArray → List KV → Nat → List KV × Int
  | [], all, n => if 40 < n then ([], 5) else (all, 0)
  | k :: ks, all, n =>
    if (runK own l k (valsOf k ps) f).2 = 0 then foldK own l ps f ks (if n + (runK own l k (valsOf k ps) f).1.length ≤ 40 then all ++ (runK own l k (valsOf k ps) f).1 else all) (n + (runK own l k (valsOf k ps) f).1.length)
    else ([], (runK own l k (valsOf k ps) f).2)
def foldL (own : Bool) (l : List Inst) (ps : List KV) (f : Int) : List KV × Int := foldK own l ps f (keysOf ps) [] 0
def eachL (l : List Inst) (ps : List KV) (f : Int) : List KV × Int := foldL false l ps f
def combineL (l : List Inst) (ps : List KV) (f : Int) : List KV × Int := if l.length = 0 then (srt ps, 0) else foldL true l ps f

theorem foldK_nil (own : Bool) (l : List Inst) (ps : List KV) (f : Int) (all : List KV) (n : Nat) : foldK own l ps f [] all n = if 40 < n then ([], 5) else (all, 0) := rfl
theorem foldK_no {own : Bool} {l : List Inst} {ps : List KV} {f : Int} {k : ByteArray} {ks : List ByteArray} {all : List KV} {n : Nat} {R : List KV × Int} (hR : runK own l k (valsOf k ps) f = R) (h : ¬ R.2 = 0) : foldK own l ps f (k :: ks) all n = ([], R.2) := by
  subst hR
  exact if_neg h
theorem foldK_yes {own : Bool} {l : List Inst} {ps : List KV} {f : Int} {k : ByteArray} {ks : List ByteArray} {all : List KV} {n : Nat} {R : List KV × Int} (hR : runK own l k (valsOf k ps) f = R) (h : R.2 = 0) : foldK own l ps f (k :: ks) all n = foldK own l ps f ks (if n + R.1.length ≤ 40 then all ++ R.1 else all) (n + R.1.length) := by
  subst hR
  exact if_pos h
/-- A run tells 40 pairs at most. -/
theorem runK_few {own : Bool} {l : List Inst} {k : ByteArray} {vals : List ByteArray} {f : Int} (h : ∀ x ∈ l, I64 x.2.1) : (runK own l k vals f).1.length ≤ 40 := by
  unfold runK
  split
  · simp
  · exact (fair_run (key := k) (vals := vals) h f).2.2.1
/-- What stands first in order is the first key's: its values are told, and what is left is the other keys'. -/
theorem takeWhile_those {k : ByteArray} {l : List KV} {r : List KV} (h : ∀ x ∈ r, x.1 ≠ k) : (those k l ++ r).takeWhile (fun x => decide (x.1 = k)) = those k l := by
  have h1 : ∀ a ∈ those k l, decide (a.1 = k) = true := fun a ha => by simpa using (mem_those.1 ha).2
  rw [List.takeWhile_append_of_pos h1]
  have : r.takeWhile (fun x => decide (x.1 = k)) = [] := by
    cases r with
    | nil => rfl
    | cons y r => rw [List.takeWhile_cons_of_neg (by simpa using h y List.mem_cons_self)]
  rw [this, List.append_nil]
theorem byKeys_cons (k : ByteArray) (ks : List ByteArray) (l : List KV) : byKeys (k :: ks) l = those k l ++ byKeys ks l := rfl
theorem byKeys_others {k : ByteArray} {ks : List ByteArray} {l : List KV} (h : RisingK (k :: ks)) : ∀ x ∈ byKeys ks l, x.1 ≠ k := by
  intro x hx e
  obtain ⟨j, hj, hx2⟩ := List.mem_flatMap.1 hx
  have h1 := (List.pairwise_cons.1 h).1 j hj
  rw [← (mem_those.1 hx2).2, e, kLt_irrefl] at h1
  cases h1
theorem first_vals {k : ByteArray} {ks : List ByteArray} {l : List KV} (h : RisingK (k :: ks)) : ((byKeys (k :: ks) l).takeWhile (fun x => decide (x.1 = k))).map (·.2) = valsOf k l := by
  rw [byKeys_cons, takeWhile_those (byKeys_others h)]
  rfl
theorem rising_drop {l : List ByteArray} (h : RisingK l) (i : Nat) : RisingK (l.drop i) := List.Pairwise.drop h
theorem vals_mem {k v : ByteArray} {l : List KV} (h : v ∈ valsOf k l) : ∃ x ∈ l, x.2 = v := by
  obtain ⟨x, hx, rfl⟩ := List.mem_map.1 h
  exact ⟨x, (mem_those.1 hx).1, rfl⟩

/-! ### What the statement asks -/
theorem fold_none (own : Bool) (l : List Inst) (f : Int) : foldL own l [] f = ([], 0) := rfl
theorem combine_none (l : List Inst) (f : Int) : combineL l [] f = ([], 0) := by unfold combineL; split <;> rfl
theorem halt_run (k : ByteArray) (vals : List ByteArray) : run [(0, 0, e0)] k vals 1 = ([], 0, 1) := by
  have hm : bad [(0, 0, e0)] < 0 := may_all (by simp) (by intro x hx; simp at hx; subst hx; simp [good])
  unfold run
  rw [if_pos ⟨hm, by omega⟩]
  exact go_halt (n := 0) (by simp) rfl
theorem halt_key (own : Bool) (k : ByteArray) (vals : List ByteArray) : runK own [(0, 0, e0)] k vals 1 = ([], 0) := by
  unfold runK
  rw [halt_run]
  rfl
theorem halt_fold (own : Bool) (ps : List KV) : ∀ ks, foldK own [(0, 0, e0)] ps 1 ks [] 0 = ([], 0)
  | [] => rfl
  | k :: ks => by
    rw [foldK_yes (halt_key own k _) rfl]
    exact halt_fold own ps ks
theorem halt_each (ps : List KV) : eachL [(0, 0, e0)] ps 1 = ([], 0) := halt_fold false ps _
theorem halt_combine (ps : List KV) : combineL [(0, 0, e0)] ps 1 = ([], 0) := by
  unfold combineL
  rw [if_neg (by simp)]
  exact halt_fold true ps _
abbrev bF : ByteArray := ⟨#[98]⟩
abbrev aF : ByteArray := ⟨#[97]⟩
abbrev n0 : ByteArray := ⟨#[48]⟩
abbrev n1 : ByteArray := ⟨#[49]⟩
abbrev n2 : ByteArray := ⟨#[50]⟩
abbrev threeF : List KV := [(bF, n1), (aF, n2), (bF, n0)]
theorem first_one (k a : ByteArray) (hk : k.size ≤ 16) (ha : a.size ≤ 64) : run firstP k [a] 9 = ([(k, a)], 0, 4) := by
  have hm : bad firstP < 0 := may_all (by simp [firstP]) (by
    intro x hx
    simp only [firstP, List.mem_cons, List.mem_nil_iff, or_false] at hx
    rcases hx with rfl | rfl | rfl | rfl <;> simp [good])
  have h1 : ¬ 64 < k.size := by omega
  have h2 : ¬ 64 < a.size := by omega
  have h3 : ¬ 16 < k.size := by omega
  unfold run
  rw [if_pos ⟨hm, by omega⟩]
  show go firstP k [a] 9 0 st0 = _
  simp [go, firstP, step, st0, push, any1, any2, isT, emit, Val.big, addD, h1, h2, h3]
theorem three_keys : keysOf threeF = [aF, bF] := by decide
theorem three_a : valsOf aF threeF = [n2] := by decide
theorem three_b : valsOf bF threeF = [n1, n0] := by decide
theorem three_srt : srt threeF = [(aF, n2), (bF, n1), (bF, n0)] := by decide
theorem three_each : eachL firstP threeF 9 = ([(aF, n2), (bF, n1)], 0) := by
  unfold eachL foldL
  have ha : runK false firstP aF (valsOf aF threeF) 9 = ([(aF, n2)], 0) := by
    unfold runK
    rw [three_a, first_one aF n2 (by decide) (by decide)]
    rfl
  have hb : runK false firstP bF (valsOf bF threeF) 9 = ([(bF, n1)], 0) := by
    unfold runK
    rw [three_b, first_run bF n1 n0 (by decide) (by decide)]
    rfl
  rw [three_keys, foldK_yes ha rfl, foldK_yes hb rfl]
  rfl
theorem three_combine : combineL [] threeF 9 = ([(aF, n2), (bF, n1), (bF, n0)], 0) := by
  unfold combineL
  show (srt threeF, (0 : Int)) = _
  rw [three_srt]
end Go.Proofs.YtfimoobgbodbmaaGreatDoor
/-! Keys' numbers, of 32 bits that go round, and parts, over lists: nothing of the program is in it. -/
namespace Go.Proofs.YtfimoobgbodbmaaGreatDoor
open Go.RowKit
set_option linter.unusedVariables false
set_option maxRecDepth 100000

theorem u32wrap_eq (n : Int) : IntKind.u32.wrap n = n % 4294967296 := by
  simp [IntKind.wrap, IntKind.bits, IntKind.signed]
/-- What there is, and a byte more. -/
def numStep (n : Nat) (b : UInt8) : Nat := (31 * n + b.toNat) % 4294967296
def numL (l : List UInt8) : Nat := l.foldl numStep 7
/-- A key's number. -/
def numK (s : ByteArray) : Nat := numL s.data.toList
theorem numStep_lt (n : Nat) (b : UInt8) : numStep n b < 4294967296 := by unfold numStep; omega
theorem foldl_lt : ∀ (l : List UInt8) (n : Nat), n < 4294967296 → l.foldl numStep n < 4294967296
  | [], _, h => h
  | b :: l, n, _ => foldl_lt l _ (numStep_lt n b)
theorem numL_lt (l : List UInt8) : numL l < 4294967296 := foldl_lt l 7 (by omega)
theorem numK_lt (s : ByteArray) : numK s < 4294967296 := numL_lt _
theorem numL_snoc (l : List UInt8) (b : UInt8) : numL (l ++ [b]) = numStep (numL l) b := by simp [numL]
theorem numL_take {s : ByteArray} {k : Nat} (h : k < s.size) : numL (s.data.toList.take (k + 1)) = numStep (numL (s.data.toList.take k)) (s[k]'h) := by
  rw [List.take_succ_eq_append_getElem (by rw [Array.length_toList]; exact h), numL_snoc]
  rfl
theorem numL_all (s : ByteArray) : numL (s.data.toList.take s.size) = numK s := by
  rw [List.take_of_length_le (by rw [Array.length_toList]; exact Nat.le_refl _)]
  rfl
/-- As it is reckoned: 31 times, and the byte. -/
theorem step_left (n : Nat) (b : UInt8) : (31 * (n : Int) % 4294967296 + (b.toNat : Int) % 4294967296) % 4294967296 = (numStep n b : Nat) := by unfold numStep; omega
theorem step_right (n : Nat) (b : UInt8) : ((n : Int) * 31 % 4294967296 + (b.toNat : Int) % 4294967296) % 4294967296 = (numStep n b : Nat) := by unfold numStep; omega

/-- Which part a key is. -/
def ofK (s : ByteArray) (parts : Int) : Int := if parts < 1 then -1 else (numK s : Int) % parts
theorem ofK_none {s : ByteArray} {parts : Int} (h : parts < 1) : ofK s parts = -1 := if_pos h
theorem ofK_some {s : ByteArray} {parts : Int} (h : ¬ parts < 1) : ofK s parts = (numK s : Int) % parts := if_neg h
theorem ofK_bd {s : ByteArray} {parts : Int} (h : 1 ≤ parts) : 0 ≤ ofK s parts ∧ ofK s parts < parts := by
  rw [ofK_some (by omega)]
  exact ⟨Int.emod_nonneg _ (by omega), Int.emod_lt_of_pos _ (by omega)⟩
theorem ofK_le {s : ByteArray} {parts : Int} (h1 : 1 ≤ parts) : ofK s parts ≤ 4294967295 := by
  have hn := numK_lt s
  rw [ofK_some (by omega)]
  have h3 : (numK s : Int) % parts ≤ (numK s : Int) := by
    rw [← Int.natCast_toNat_eq_self.2 (show 0 ≤ parts by omega)]
    exact_mod_cast Nat.mod_le (numK s) parts.toNat
  omega
theorem ofK_wrap (s : ByteArray) (parts : Int) (h1 : 1 ≤ parts) : wrap64 ((numK s : Int) % parts) = ofK s parts := by
  have hb := ofK_bd (s := s) h1
  have hc := ofK_le (s := s) h1
  rw [ofK_some (by omega)] at hb hc ⊢
  exact IntWalk.wrap64_in _ ⟨by omega, by omega⟩

/-- The pairs of a part. -/
def isP (parts p : Int) (x : KV) : Bool := decide (ofK x.1 parts = p)
def onlyL (l : List KV) (parts p : Int) : List KV := l.filter (isP parts p)
theorem onlyL_len (l : List KV) (parts p : Int) : (onlyL l parts p).length ≤ l.length := List.length_filter_le _ _
theorem onlyL_take {l : List KV} {k : Nat} {x : KV} (parts p : Int) (h : l[k]? = some x) : onlyL (l.take (k + 1)) parts p = onlyL (l.take k) parts p ++ (if ofK x.1 parts = p then [x] else []) := by
  obtain ⟨hk, rfl⟩ := List.getElem?_eq_some_iff.1 h
  rw [List.take_succ_eq_append_getElem hk]
  unfold onlyL
  rw [List.filter_append]
  by_cases e : ofK l[k].1 parts = p <;> simp [isP, e]
/-- The next of a part stands where the part's have been counted to. -/
theorem onlyL_at {l : List KV} {k : Nat} {x : KV} (parts p : Int) (h : l[k]? = some x) (hp : ofK x.1 parts = p) : (onlyL l parts p)[(onlyL (l.take k) parts p).length]? = some x := by
  have e : onlyL l parts p = onlyL (l.take (k + 1)) parts p ++ onlyL (l.drop (k + 1)) parts p := by
    unfold onlyL
    rw [← List.filter_append, List.take_append_drop]
  rw [e, onlyL_take parts p h, if_pos hp, List.append_assoc, List.getElem?_append_right (Nat.le_refl _), Nat.sub_self]
  rfl
theorem onlyL_none {l : List KV} {parts p : Int} (h : ∀ x ∈ l, ofK x.1 parts ≠ p) : onlyL l parts p = [] := by
  unfold onlyL
  rw [List.filter_eq_nil_iff]
  intro x hx
  simp [isP, h x hx]
/-- How many there are in the first parts together. -/
def upTo (l : List KV) (parts : Int) : Nat → Nat
  | 0 => 0
  | p + 1 => upTo l parts p + (onlyL l parts p).length
theorem upTo_cons (x : KV) (l : List KV) (parts : Int) : ∀ p, upTo (x :: l) parts p = upTo l parts p + (if 0 ≤ ofK x.1 parts ∧ ofK x.1 parts < p then 1 else 0)
  | 0 => by
    rw [if_neg (by omega)]
    rfl
  | p + 1 => by
    show upTo (x :: l) parts p + (onlyL (x :: l) parts p).length = upTo l parts p + (onlyL l parts p).length + _
    rw [upTo_cons x l parts p]
    have e : (onlyL (x :: l) parts p).length = (onlyL l parts p).length + (if ofK x.1 parts = p then 1 else 0) := by
      unfold onlyL
      by_cases h : ofK x.1 parts = p <;> simp [isP, h]
    rw [e]
    by_cases h : ofK x.1 parts = p
    · rw [if_pos h, if_neg (by omega), if_pos (by omega)]
      omega
    · rw [if_neg h]
      by_cases h2 : 0 ≤ ofK x.1 parts ∧ ofK x.1 parts < p
      · rw [if_pos h2, if_pos (by omega)]
        omega
      · rw [if_neg h2, if_neg (by omega)]
        omega
theorem upTo_le (l : List KV) (parts : Int) : ∀ p, upTo l parts p ≤ l.length := by
  intro p
  induction l with
  | nil =>
    have : ∀ p, upTo ([] : List KV) parts p = 0 := by
      intro p
      induction p with
      | zero => rfl
      | succ p ih => show upTo [] parts p + 0 = 0; omega
    rw [this]
    exact Nat.le_refl _
  | cons x l ih =>
    rw [upTo_cons, List.length_cons]
    split <;> omega
/-- All parts together have all. -/
theorem upTo_all (l : List KV) (q : Nat) (h : 1 ≤ q) : upTo l q q = l.length := by
  induction l with
  | nil => have := upTo_le [] (q : Int) q; simpa using this
  | cons x l ih =>
    have hb := ofK_bd (s := x.1) (parts := (q : Int)) (by omega)
    rw [upTo_cons, ih, if_pos hb]
    rfl
end Go.Proofs.YtfimoobgbodbmaaGreatDoor
/-! Merging over lists: by places, by halves, of parts. No program in this text. -/
namespace Go.Proofs.YtfimoobgbodbmaaGreatDoor
set_option linter.unusedVariables false
set_option maxRecDepth 100000

theorem srt_one (x : KV) : srt [x] = [x] := rfl
/-- The second run's first goes ahead. -/
theorem merge_right {x y : KV} {a b : List KV} (ha : Rising (x :: a)) (hb : Rising (y :: b)) (h : kLt y.1 x.1 = true) : srt (x :: a ++ y :: b) = y :: srt (x :: a ++ b) := by
  have key := merge_parts (u1 := []) (u2 := x :: a) (v1 := [y]) (v2 := b) ha hb (fun _ h => by cases h) (fun z hz t ht => by
    rw [List.mem_singleton.1 ht]
    rcases List.mem_cons.1 hz with rfl | hz
    · exact h
    · exact kLt_le h ((List.pairwise_cons.1 ha).1 z hz))
  simpa [srt_one] using key.symm
/-- The first run's first goes ahead. -/
theorem merge_left {x y : KV} {a b : List KV} (ha : Rising (x :: a)) (hb : Rising (y :: b)) (h : kLt y.1 x.1 = false) : srt (x :: a ++ y :: b) = x :: srt (a ++ y :: b) := by
  have key := merge_parts (u1 := [x]) (u2 := a) (v1 := []) (v2 := y :: b) ha hb (fun z hz t ht => by
    rw [List.mem_singleton.1 hz]
    rcases List.mem_cons.1 ht with rfl | ht
    · exact h
    · exact kLe_trans h ((List.pairwise_cons.1 hb).1 t ht)) (fun _ _ _ h => by cases h)
  simpa [srt_one] using key.symm
/-- What was taken, ahead of what is still to be merged. -/
def Taken (a b M : List KV) (i j : Nat) : Prop := M ++ srt (a.drop i ++ b.drop j) = srt (a ++ b) ∧ M.length = i + j
theorem risingP_drop {a : List KV} (h : Rising a) (i : Nat) : Rising (a.drop i) := List.Pairwise.sublist (List.drop_sublist i a) h
theorem Taken.start (a b : List KV) : Taken a b [] 0 0 := ⟨by simp, rfl⟩
theorem Taken.right {a b M : List KV} {i j : Nat} {x y : KV} (h : Taken a b M i j) (ha : Rising a) (hb : Rising b) (hx : a[i]? = some x) (hy : b[j]? = some y) (hk : kLt y.1 x.1 = true) : Taken a b (M ++ [y]) i (j + 1) := by
  obtain ⟨hi, rfl⟩ := List.getElem?_eq_some_iff.1 hx
  obtain ⟨hj, rfl⟩ := List.getElem?_eq_some_iff.1 hy
  obtain ⟨h1, h2⟩ := h
  refine ⟨?_, by simp; omega⟩
  have e1 := List.drop_eq_getElem_cons hi
  have e2 := List.drop_eq_getElem_cons hj
  have key := merge_right (e1 ▸ risingP_drop ha i) (e2 ▸ risingP_drop hb j) hk
  rw [← e1, ← e2] at key
  rw [← h1, key]
  simp
theorem Taken.left {a b M : List KV} {i j : Nat} {x y : KV} (h : Taken a b M i j) (ha : Rising a) (hb : Rising b) (hx : a[i]? = some x) (hy : b[j]? = some y) (hk : kLt y.1 x.1 = false) : Taken a b (M ++ [x]) (i + 1) j := by
  obtain ⟨hi, rfl⟩ := List.getElem?_eq_some_iff.1 hx
  obtain ⟨hj, rfl⟩ := List.getElem?_eq_some_iff.1 hy
  obtain ⟨h1, h2⟩ := h
  refine ⟨?_, by simp; omega⟩
  have e1 := List.drop_eq_getElem_cons hi
  have e2 := List.drop_eq_getElem_cons hj
  have key := merge_left (e1 ▸ risingP_drop ha i) (e2 ▸ risingP_drop hb j) hk
  rw [← e1, ← e2] at key
  rw [← h1, key]
  simp
theorem Taken.done {a b M : List KV} {i j : Nat} (h : Taken a b M i j) (ha : Rising a) (hb : Rising b) (he : a.length ≤ i ∨ b.length ≤ j) : M ++ a.drop i ++ b.drop j = srt (a ++ b) := by
  rw [← h.1, List.append_assoc]
  congr 1
  symm
  refine srt_self (rising_append.2 ⟨risingP_drop ha i, risingP_drop hb j, fun x hx y hy => ?_⟩)
  rcases he with he | he
  · rw [List.drop_eq_nil_of_le he] at hx; cases hx
  · rw [List.drop_eq_nil_of_le he] at hy; cases hy

/-! ### Runs -/
theorem runs_halves (ls : List (List KV)) (k : Nat) : srt (srt (ls.take k).flatten ++ srt (ls.drop k).flatten) = srt ls.flatten := by
  rw [srt_parts, ← List.flatten_append, List.take_append_drop]
theorem rising_flat {l : List KV} (h : Rising l) : srt [l].flatten = l := by
  rw [show [l].flatten = l by simp]
  exact srt_self h
theorem valsOf_nil (k : ByteArray) : valsOf k [] = [] := rfl
theorem valsOf_flat (k : ByteArray) (ls : List (List KV)) : valsOf k ls.flatten = (ls.map (valsOf k)).flatten := by
  induction ls with
  | nil => rfl
  | cons l ls ih => rw [List.flatten_cons, valsOf_append, ih]; rfl
theorem those_only (k : ByteArray) (l : List KV) (parts p : Int) : those k (onlyL l parts p) = onlyL (those k l) parts p := by
  unfold those onlyL
  rw [List.filter_filter, List.filter_filter]
  congr 1
  funext x
  rw [Bool.and_comm]
theorem only_srt (l : List KV) (parts p : Int) : onlyL (srt l) parts p = srt (onlyL l parts p) := by
  refine srt_eq (List.Pairwise.sublist List.filter_sublist (rising_srt l)) fun k => ?_
  rw [those_only, those_srt, those_only]
theorem only_flat (ls : List (List KV)) (parts p : Int) : onlyL ls.flatten parts p = (ls.map (fun l => onlyL l parts p)).flatten := by
  induction ls with
  | nil => rfl
  | cons l ls ih =>
    rw [List.flatten_cons, List.map_cons, List.flatten_cons, ← ih]
    unfold onlyL
    rw [List.filter_append]
/-- Runs without pairs change nothing. -/
theorem flat_more (ls : List (List KV)) : (ls.flatMap fun l => [[], l, []]).flatten = ls.flatten := by
  induction ls with
  | nil => rfl
  | cons l ls ih =>
    rw [List.flatMap_cons, List.flatten_append, ih]
    simp
end Go.Proofs.YtfimoobgbodbmaaGreatDoor
