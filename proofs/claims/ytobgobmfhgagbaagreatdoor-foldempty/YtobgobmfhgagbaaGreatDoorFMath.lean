/- Folds over lists: what is told key by key, and why not. No program in this text. -/
import Derived.Test.YtobgobmfhgagbaaGreatDoorGKeys
import Derived.Test.YtobgobmfhgagbaaGreatDoorGRun
namespace Go.Proofs.YtobgobmfhgagbaaGreatDoor
open Go.Lib
set_option linter.unusedVariables false
set_option maxRecDepth 100000

/-- May a run of this key tell that pair? (Where 'own' is asked: of no other key.) -/
def mayK (own : Bool) (x : KV) (k : ByteArray) : Bool := !own || decide (x.1 = k)
/-- One key's run: what was told, and the reason. -/
def runK (own : Bool) (l : List Inst) (k : ByteArray) (vals : List ByteArray) (f : Int) : List KV × Int :=
  if ((run l k vals f).1.any fun x => !mayK own x k) = true then ([], 6) else ((run l k vals f).1, (run l k vals f).2.1)
/-- The keys that are left, of what was told so far, and how many that would be. -/
def foldK (own : Bool) (l : List Inst) (ps : List KV) (f : Int) : List ByteArray → List KV → Nat → List KV × Int
  | [], all, n => if 40 < n then ([], 5) else (all, 0)
  | k :: ks, all, n =>
    if (runK own l k (valsOf k ps) f).2 = 0 then foldK own l ps f ks (if n + (runK own l k (valsOf k ps) f).1.length ≤ 40 then all ++ (runK own l k (valsOf k ps) f).1 else all) (n + (runK own l k (valsOf k ps) f).1.length)
    else ([], (runK own l k (valsOf k ps) f).2)
def foldL (own : Bool) (l : List Inst) (ps : List KV) (f : Int) : List KV × Int := foldK own l ps f (keysOf ps) [] 0
def eachL (l : List Inst) (ps : List KV) (f : Int) : List KV × Int := foldL false l ps f
def combineL (l : List Inst) (ps : List KV) (f : Int) : List KV × Int := if l.length = 0 then (srt ps, 0) else foldL true l ps f

theorem foldK_nil (own : Bool) (l : List Inst) (ps : List KV) (f : Int) (all : List KV) (n : Nat) : foldK own l ps f [] all n = if 40 < n then ([], 5) else (all, 0) := rfl
theorem foldK_no {own : Bool} {l : List Inst} {ps : List KV} {f : Int} {k : ByteArray} {ks : List ByteArray} {all : List KV} {n : Nat} {R : List KV × Int} (hR : runK own l k (valsOf k ps) f = R) (h : ¬ R.2 = 0) : foldK own l ps f (k :: ks) all n = ([], R.2) := by
  subst hR
  exact if_neg h
theorem foldK_yes {own : Bool} {l : List Inst} {ps : List KV} {f : Int} {k : ByteArray} {ks : List ByteArray} {all : List KV} {n : Nat} {R : List KV × Int} (hR : runK own l k (valsOf k ps) f = R) (h : R.2 = 0) : foldK own l ps f (k :: ks) all n = foldK own l ps f ks (if n + R.1.length ≤ 40 then all ++ R.1 else all) (n + R.1.length) := by
  subst hR
  exact if_pos h
/-- A run tells 40 pairs at most. -/
theorem runK_few {own : Bool} {l : List Inst} {k : ByteArray} {vals : List ByteArray} {f : Int} (h : ∀ x ∈ l, I64 x.2.1) : (runK own l k vals f).1.length ≤ 40 := by
  unfold runK
  split
  · simp
  · exact (fair_run (key := k) (vals := vals) h f).2.2.1
/-- What stands first in order is the first key's: its values are told, and what is left is the other keys'. -/
theorem takeWhile_those {k : ByteArray} {l : List KV} {r : List KV} (h : ∀ x ∈ r, x.1 ≠ k) : (those k l ++ r).takeWhile (fun x => decide (x.1 = k)) = those k l := by
  have h1 : ∀ a ∈ those k l, decide (a.1 = k) = true := fun a ha => by simpa using (mem_those.1 ha).2
  rw [List.takeWhile_append_of_pos h1]
  have : r.takeWhile (fun x => decide (x.1 = k)) = [] := by
    cases r with
    | nil => rfl
    | cons y r => rw [List.takeWhile_cons_of_neg (by simpa using h y List.mem_cons_self)]
  rw [this, List.append_nil]
theorem byKeys_cons (k : ByteArray) (ks : List ByteArray) (l : List KV) : byKeys (k :: ks) l = those k l ++ byKeys ks l := rfl
theorem byKeys_others {k : ByteArray} {ks : List ByteArray} {l : List KV} (h : RisingK (k :: ks)) : ∀ x ∈ byKeys ks l, x.1 ≠ k := by
  intro x hx e
  obtain ⟨j, hj, hx2⟩ := List.mem_flatMap.1 hx
  have h1 := (List.pairwise_cons.1 h).1 j hj
  rw [← (mem_those.1 hx2).2, e, kLt_irrefl] at h1
  cases h1
theorem first_vals {k : ByteArray} {ks : List ByteArray} {l : List KV} (h : RisingK (k :: ks)) : ((byKeys (k :: ks) l).takeWhile (fun x => decide (x.1 = k))).map (·.2) = valsOf k l := by
  rw [byKeys_cons, takeWhile_those (byKeys_others h)]
  rfl
theorem rising_drop {l : List ByteArray} (h : RisingK l) (i : Nat) : RisingK (l.drop i) := List.Pairwise.drop h
theorem vals_mem {k v : ByteArray} {l : List KV} (h : v ∈ valsOf k l) : ∃ x ∈ l, x.2 = v := by
  obtain ⟨x, hx, rfl⟩ := List.mem_map.1 h
  exact ⟨x, (mem_those.1 hx).1, rfl⟩

/-! ### What the statement asks -/
theorem fold_none (own : Bool) (l : List Inst) (f : Int) : foldL own l [] f = ([], 0) := rfl
theorem combine_none (l : List Inst) (f : Int) : combineL l [] f = ([], 0) := by unfold combineL; split <;> rfl
theorem halt_run (k : ByteArray) (vals : List ByteArray) : run [(0, 0, e0)] k vals 1 = ([], 0, 1) := by
  have hm : bad [(0, 0, e0)] < 0 := may_all (by simp) (by intro x hx; simp at hx; subst hx; simp [good])
  unfold run
  rw [if_pos ⟨hm, by omega⟩]
  exact go_halt (n := 0) (by simp) rfl
theorem halt_key (own : Bool) (k : ByteArray) (vals : List ByteArray) : runK own [(0, 0, e0)] k vals 1 = ([], 0) := by
  unfold runK
  rw [halt_run]
  rfl
theorem halt_fold (own : Bool) (ps : List KV) : ∀ ks, foldK own [(0, 0, e0)] ps 1 ks [] 0 = ([], 0)
  | [] => rfl
  | k :: ks => by
    rw [foldK_yes (halt_key own k _) rfl]
    exact halt_fold own ps ks
theorem halt_each (ps : List KV) : eachL [(0, 0, e0)] ps 1 = ([], 0) := halt_fold false ps _
theorem halt_combine (ps : List KV) : combineL [(0, 0, e0)] ps 1 = ([], 0) := by
  unfold combineL
  rw [if_neg (by simp)]
  exact halt_fold true ps _
abbrev bF : ByteArray := ⟨#[98]⟩
abbrev aF : ByteArray := ⟨#[97]⟩
abbrev n0 : ByteArray := ⟨#[48]⟩
abbrev n1 : ByteArray := ⟨#[49]⟩
abbrev n2 : ByteArray := ⟨#[50]⟩
abbrev threeF : List KV := [(bF, n1), (aF, n2), (bF, n0)]
theorem first_one (k a : ByteArray) (hk : k.size ≤ 16) (ha : a.size ≤ 64) : run firstP k [a] 9 = ([(k, a)], 0, 4) := by
  have hm : bad firstP < 0 := may_all (by simp [firstP]) (by
    intro x hx
    simp only [firstP, List.mem_cons, List.mem_nil_iff, or_false] at hx
    rcases hx with rfl | rfl | rfl | rfl <;> simp [good])
  have h1 : ¬ 64 < k.size := by omega
  have h2 : ¬ 64 < a.size := by omega
  have h3 : ¬ 16 < k.size := by omega
  unfold run
  rw [if_pos ⟨hm, by omega⟩]
  show go firstP k [a] 9 0 st0 = _
  simp [go, firstP, step, st0, push, any1, any2, isT, emit, Val.big, addD, h1, h2, h3]
theorem three_keys : keysOf threeF = [aF, bF] := by decide
theorem three_a : valsOf aF threeF = [n2] := by decide
theorem three_b : valsOf bF threeF = [n1, n0] := by decide
theorem three_srt : srt threeF = [(aF, n2), (bF, n1), (bF, n0)] := by decide
theorem three_each : eachL firstP threeF 9 = ([(aF, n2), (bF, n1)], 0) := by
  unfold eachL foldL
  have ha : runK false firstP aF (valsOf aF threeF) 9 = ([(aF, n2)], 0) := by
    unfold runK
    rw [three_a, first_one aF n2 (by decide) (by decide)]
    rfl
  have hb : runK false firstP bF (valsOf bF threeF) 9 = ([(bF, n1)], 0) := by
    unfold runK
    rw [three_b, first_run bF n1 n0 (by decide) (by decide)]
    rfl
  rw [three_keys, foldK_yes ha rfl, foldK_yes hb rfl]
  rfl
theorem three_combine : combineL [] threeF 9 = ([(aF, n2), (bF, n1), (bF, n0)], 0) := by
  unfold combineL
  show (srt threeF, (0 : Int)) = _
  rw [three_srt]
end Go.Proofs.YtobgobmfhgagbaaGreatDoor
