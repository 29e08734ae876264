/- Laid together: SMerge KMath SRuns. -/
import Derived.Test.YtfimoobgbodbmaaGreatDoorGPlain
import Derived.Lib.SlicesCompact
import Derived.Lib.OwnBridge
/-! How the library's stable sort goes about it, over lists: insertion, and a merge that parts two runs. No program in this text. -/
namespace Go.Proofs.YtfimoobgbodbmaaGreatDoor
set_option linter.unusedVariables false
set_option maxRecDepth 100000

theorem srt_snoc (l : List KV) (x : KV) : srt (l ++ [x]) = ins x (srt l) := by simp [srt]
theorem ins_end (x : KV) : ∀ (l : List KV), (∀ y ∈ l, kLt x.1 y.1 = false) → ins x l = l ++ [x]
  | [], _ => rfl
  | y :: l, h => by
    unfold ins
    rw [if_neg (by rw [h y List.mem_cons_self]; simp), ins_end x l fun z hz => h z (List.mem_cons_of_mem _ hz)]
    rfl
/-- x stands where it belongs: what is ahead is not above it, what is behind is. -/
theorem ins_mid (x : KV) : ∀ (a b : List KV), (∀ y ∈ a, kLt x.1 y.1 = false) → (∀ y ∈ b, kLt x.1 y.1 = true) → ins x (a ++ b) = a ++ x :: b
  | [], [], _, _ => rfl
  | [], y :: b, _, hb => by
    show ins x (y :: b) = _
    unfold ins
    rw [if_pos (hb y List.mem_cons_self)]
    rfl
  | y :: a, b, ha, hb => by
    show ins x (y :: (a ++ b)) = _
    unfold ins
    rw [if_neg (by rw [ha y List.mem_cons_self]; simp), ins_mid x a b (fun z hz => ha z (List.mem_cons_of_mem _ hz)) hb]
    rfl
theorem rising_append {a b : List KV} : Rising (a ++ b) ↔ Rising a ∧ Rising b ∧ ∀ x ∈ a, ∀ y ∈ b, kLt y.1 x.1 = false := List.pairwise_append
/-- Of a rising list all are no more than its last. -/
theorem rising_last {a : List KV} {z : KV} (h : Rising (a ++ [z])) : ∀ y ∈ a ++ [z], kLt z.1 y.1 = false := by
  intro y hy
  rcases List.mem_append.1 hy with hy | hy
  · exact (rising_append.1 h).2.2 y hy z (by simp)
  · rw [List.mem_singleton.1 hy]; exact kLt_irrefl _
/-- Two runs, each parted: what comes of the lower parts stands ahead of what comes of the upper ones. -/
theorem merge_parts {u1 u2 v1 v2 : List KV} (hu : Rising (u1 ++ u2)) (hv : Rising (v1 ++ v2)) (h1 : ∀ x ∈ u1, ∀ y ∈ v2, kLt y.1 x.1 = false) (h2 : ∀ x ∈ u2, ∀ y ∈ v1, kLt y.1 x.1 = true) :
    srt (u1 ++ v1) ++ srt (u2 ++ v2) = srt (u1 ++ u2 ++ (v1 ++ v2)) := by
  obtain ⟨hu1, hu2, hu3⟩ := rising_append.1 hu
  obtain ⟨hv1, hv2, hv3⟩ := rising_append.1 hv
  refine srt_eq (rising_append.2 ⟨rising_srt _, rising_srt _, fun x hx y hy => ?_⟩) fun k => ?_
  · rw [mem_srt, List.mem_append] at hx hy
    rcases hx with hx | hx
    · rcases hy with hy | hy
      · exact hu3 x hx y hy
      · exact h1 x hx y hy
    · rcases hy with hy | hy
      · exact kLt_asymm (h2 y hy x hx)
      · exact hv3 x hx y hy
  · rw [those_append, those_srt, those_srt, those_append, those_append, those_append, those_append, those_append]
    by_cases e : those k u2 = []
    · rw [e]; simp
    · have hn : those k v1 = [] := by
        refine those_nil_of fun y hy ey => e (those_nil_of fun x hx ex => ?_)
        have := h2 x hx y hy
        rw [ex, ey, kLt_irrefl] at this
        cases this
      rw [hn]; simp
/-- Two runs that are rising, one behind the other, and already in order. -/
theorem merge_none {u v : List KV} (hu : Rising u) (hv : Rising v) (h : ∀ x ∈ u, ∀ y ∈ v, kLt y.1 x.1 = false) : srt (u ++ v) = u ++ v := srt_self (rising_append.2 ⟨hu, hv, h⟩)
/-- One element ahead of a run: it is put behind those that are below it. -/
theorem merge_one_left {x : KV} {v1 v2 : List KV} (hv : Rising (v1 ++ v2)) (h1 : ∀ y ∈ v1, kLt y.1 x.1 = true) (h2 : ∀ y ∈ v2, kLt y.1 x.1 = false) : srt (x :: (v1 ++ v2)) = v1 ++ x :: v2 := by
  have := merge_parts (u1 := []) (u2 := [x]) (v1 := v1) (v2 := v2) (List.pairwise_singleton _ _) hv (fun _ h => by cases h) (fun z hz y hy => by rw [List.mem_singleton.1 hz]; exact h1 y hy)
  have hv' := rising_append.1 hv
  rw [List.nil_append, srt_self hv'.1, merge_none (List.pairwise_singleton _ _) hv'.2.1 (fun z hz y hy => by rw [List.mem_singleton.1 hz]; exact h2 y hy)] at this
  simpa using this.symm
/-- One element behind a run: it is put ahead of those that are above it. -/
theorem merge_one_right {x : KV} {u1 u2 : List KV} (hu : Rising (u1 ++ u2)) (h1 : ∀ y ∈ u1, kLt x.1 y.1 = false) (h2 : ∀ y ∈ u2, kLt x.1 y.1 = true) : srt (u1 ++ u2 ++ [x]) = u1 ++ x :: u2 := by
  rw [srt_snoc, srt_self hu, ins_mid x u1 u2 h1 h2]
/-- Where two runs were parted is told by the elements beside it. -/
theorem low_of {u1 u2 v1 v2 : List KV} (hu : Rising (u1 ++ u2)) (hv : Rising (v1 ++ v2)) (h : u1 = [] ∨ v2 = [] ∨ ∃ a x y c, u1 = a ++ [x] ∧ v2 = y :: c ∧ kLt y.1 x.1 = false) : ∀ x ∈ u1, ∀ y ∈ v2, kLt y.1 x.1 = false := by
  rcases h with rfl | rfl | ⟨a, x, y, c, rfl, rfl, hxy⟩
  · intro x hx; cases hx
  · intro x hx y hy; cases hy
  · intro z hz t ht
    have e1 : kLt x.1 z.1 = false := rising_last (rising_append.1 hu).1 z hz
    have e2 : kLt t.1 y.1 = false := by
      rcases List.mem_cons.1 ht with rfl | ht
      · exact kLt_irrefl _
      · exact (List.pairwise_cons.1 (rising_append.1 hv).2.1).1 t ht
    exact kLe_trans (kLe_trans e1 hxy) e2
theorem kLt_le {a b c : ByteArray} (h : kLt a b = true) (k : kLt c b = false) : kLt a c = true := by
  cases e : kLt a c with
  | true => rfl
  | false => rw [kLe_trans k e] at h; cases h
theorem kLe_lt {a b c : ByteArray} (h : kLt b a = false) (k : kLt b c = true) : kLt a c = true := by
  cases e : kLt a c with
  | true => rfl
  | false => rw [kLe_trans e h] at k; cases k
theorem high_of {u1 u2 v1 v2 : List KV} (hu : Rising (u1 ++ u2)) (hv : Rising (v1 ++ v2)) (h : u2 = [] ∨ v1 = [] ∨ ∃ x a c y, u2 = x :: a ∧ v1 = c ++ [y] ∧ kLt y.1 x.1 = true) : ∀ x ∈ u2, ∀ y ∈ v1, kLt y.1 x.1 = true := by
  rcases h with rfl | rfl | ⟨x, a, c, y, rfl, rfl, hxy⟩
  · intro x hx; cases hx
  · intro x hx y hy; cases hy
  · intro z hz t ht
    have e1 : kLt y.1 t.1 = false := rising_last (rising_append.1 hv).1 t ht
    have e2 : kLt z.1 x.1 = false := by
      rcases List.mem_cons.1 hz with rfl | hz
      · exact kLt_irrefl _
      · exact (List.pairwise_cons.1 (rising_append.1 hu).2.1).1 z hz
    exact kLt_le (kLe_lt e1 hxy) e2
end Go.Proofs.YtfimoobgbodbmaaGreatDoor
/-! Keys as the library sorts them: lists of bytes. No program in this text. -/
namespace Go.Proofs.YtfimoobgbodbmaaGreatDoor
open Go.Lib
set_option linter.unusedVariables false
set_option maxRecDepth 100000

theorem lessB_lt : ∀ (x y : List UInt8), Op.bytesLess x y = decide (x < y)
  | [], [] => by simp [Op.bytesLess]
  | _ :: _, [] => by simp [Op.bytesLess]
  | [], _ :: _ => by simp [Op.bytesLess]
  | a :: x, b :: y => by
    rw [Op.bytesLess, lessB_lt x y]
    simp only [List.cons_lt_cons_iff]
    by_cases h1 : a < b <;> by_cases h2 : a = b <;> by_cases h3 : x < y <;> simp [h1, h2, h3]
theorem leB (x y : List UInt8) : decide (x ≤ y) = !Op.bytesLess y x := by
  rw [lessB_lt]
  have : x ≤ y ↔ ¬ y < x := Iff.rfl
  by_cases h : y < x
  · simp [this, h]
  · simp [this, h]
theorem leB_trans {x y z : List UInt8} (h : Op.bytesLess y x = false) (k : Op.bytesLess z y = false) : Op.bytesLess z x = false :=
  kLe_trans (a := ⟨x.toArray⟩) (b := ⟨y.toArray⟩) (c := ⟨z.toArray⟩) h k
theorem leB_ne {x y : List UInt8} (h : Op.bytesLess y x = false) (hn : y ≠ x) : Op.bytesLess x y = true := by
  cases e : Op.bytesLess x y with
  | true => rfl
  | false => exact absurd (lessB_total y x h e) hn
theorem lessB_asymm {x y : List UInt8} (h : Op.bytesLess x y = true) : Op.bytesLess y x = false :=
  kLt_asymm (a := ⟨x.toArray⟩) (b := ⟨y.toArray⟩) h
theorem sortB (zs : List (List UInt8)) : (zs.mergeSort fun x y => decide (x ≤ y)).Pairwise (fun x y => Op.bytesLess y x = false) := by
  have := List.pairwise_mergeSort (le := fun x y : List UInt8 => decide (x ≤ y)) (by
    intro a b c h k
    rw [leB] at h k ⊢
    simp only [Bool.not_eq_true'] at h k ⊢
    exact leB_trans h k) (by
    intro a b
    rw [leB, leB]
    cases h : Op.bytesLess b a with
    | false => rfl
    | true => rw [lessB_asymm h]; rfl) zs
  exact this.imp (fun h => by rw [leB] at h; simpa using h)
theorem getB {zs : List (List UInt8)} {j : Nat} (h : j < zs.length) : zs.toArray[j]! = zs[j] := by
  simp [getElem!_pos, h]
theorem sortedB_le {zs : List (List UInt8)} (h : zs.Pairwise (fun x y => Op.bytesLess y x = false)) {i j : Nat} (hij : i ≤ j) (hj : j < zs.length) : Op.bytesLess zs.toArray[j]! zs.toArray[i]! = false := by
  rw [getB hj, getB (by omega)]
  rcases Nat.lt_or_ge i j with h1 | h1
  · exact List.pairwise_iff_getElem.1 h i j (by omega) hj h1
  · obtain rfl : i = j := by omega
    exact lessB_irrefl _
theorem compactB_rising {zs : List (List UInt8)} (h : zs.Pairwise (fun x y => Op.bytesLess y x = false)) : (compact zs).Pairwise (fun x y => Op.bytesLess x y = true) := by
  unfold compact compactUpTo
  rw [List.pairwise_map, List.pairwise_filter]
  rw [List.pairwise_iff_getElem]
  intro i j hi hj hij hki hkj
  simp only [List.length_range] at hi hj
  simp only [List.getElem_range] at *
  have h1 := sortedB_le h (i := i) (j := j - 1) (by omega) (by omega)
  have h2 := sortedB_le h (i := j - 1) (j := j) (by omega) hj
  have h3 : zs.toArray[j]! ≠ zs.toArray[j - 1]! := by
    have : decide (j = 0 ∨ zs.toArray[j]! ≠ zs.toArray[j - 1]!) = true := hkj
    rcases of_decide_eq_true this with e | e
    · omega
    · exact e
  have h4 := leB_ne h2 h3
  cases e : Op.bytesLess zs.toArray[i]! zs.toArray[j]! with
  | true => rfl
  | false =>
    rw [leB_trans e h1] at h4
    cases h4
theorem compactB_mem {zs : List (List UInt8)} (x : List UInt8) : x ∈ compact zs ↔ x ∈ zs := by
  constructor
  · intro h
    unfold compact compactUpTo at h
    obtain ⟨j, hj, rfl⟩ := List.mem_map.1 h
    have hj := List.mem_range.1 (List.mem_filter.1 hj).1
    rw [getB hj]
    exact List.getElem_mem hj
  · intro h
    obtain ⟨j, hj, rfl⟩ := List.mem_iff_getElem.1 h
    have main : ∀ m, ∀ (hm : m < zs.length), zs[m] ∈ compact zs := by
      intro m
      induction m with
      | zero =>
        intro hm
        unfold compact compactUpTo
        exact List.mem_map.2 ⟨0, List.mem_filter.2 ⟨List.mem_range.2 hm, by simp [keeps]⟩, getB hm⟩
      | succ m ih =>
        intro hm
        by_cases he : zs.toArray[m + 1]! = zs.toArray[m]!
        · rw [getB hm, getB (by omega)] at he
          rw [he]
          exact ih (by omega)
        · unfold compact compactUpTo
          exact List.mem_map.2 ⟨m + 1, List.mem_filter.2 ⟨List.mem_range.2 hm, keeps_pos (by simpa using he)⟩, getB hm⟩
    exact main j hj
theorem compactB_length (zs : List (List UInt8)) : (compact zs).length ≤ zs.length := by
  unfold compact compactUpTo
  rw [List.length_map]
  exact Nat.le_trans (List.length_filter_le _ _) (by simp)

/-- Keys, sorted, each once: those of the pairs, rising. -/
theorem keys_sorted (l : List KV) : compact (((l.map (·.1)).map (·.data.toList)).mergeSort fun x y => decide (x ≤ y)) = (keysOf l).map (·.data.toList) := by
  have hk : ((compact (((l.map (·.1)).map (·.data.toList)).mergeSort fun x y => decide (x ≤ y))).map fun x => (⟨x.toArray⟩ : ByteArray)) = keysOf l := by
    refine keys_eq ?_ ?_
    · unfold RisingK
      rw [List.pairwise_map]
      exact compactB_rising (sortB _)
    · intro k
      rw [List.mem_map]
      constructor
      · rintro ⟨x, hx, rfl⟩
        rw [compactB_mem, (List.mergeSort_perm _ _).mem_iff, List.mem_map] at hx
        obtain ⟨b, hb, rfl⟩ := hx
        obtain ⟨p, hp, rfl⟩ := List.mem_map.1 hb
        exact ⟨p, hp, by cases p.1; rfl⟩
      · rintro ⟨p, hp, rfl⟩
        refine ⟨p.1.data.toList, ?_, by cases p.1; rfl⟩
        rw [compactB_mem, (List.mergeSort_perm _ _).mem_iff, List.mem_map]
        exact ⟨p.1, List.mem_map.2 ⟨p, hp, rfl⟩, rfl⟩
  rw [← hk]
  generalize compact (((l.map (·.1)).map (·.data.toList)).mergeSort fun x y => decide (x ≤ y)) = zs
  rw [List.map_map]
  conv => lhs; rw [← List.map_id zs]
  apply List.map_congr_left
  intro x _
  rfl
theorem length_keys (l : List KV) : (keysOf l).length ≤ l.length := by
  have h := compactB_length (((l.map (·.1)).map (·.data.toList)).mergeSort fun x y => decide (x ≤ y))
  rw [keys_sorted, List.length_mergeSort] at h
  simpa using h
end Go.Proofs.YtfimoobgbodbmaaGreatDoor
/-! Runs of s pairs, each in order. No program in this text. -/
namespace Go.Proofs.YtfimoobgbodbmaaGreatDoor
set_option linter.unusedVariables false
set_option maxRecDepth 100000

/-- l, each s pairs of it in order; k is how often it is gone on at most. -/
def runsN (s : Nat) : Nat → List KV → List KV
  | 0, l => srt l
  | k + 1, l => if 0 < s ∧ s < l.length then srt (l.take s) ++ runsN s k (l.drop s) else srt l
/-- l, each s pairs of it in order. -/
def runs (s : Nat) (l : List KV) : List KV := runsN s l.length l
theorem runsN_le {s : Nat} {l : List KV} (h : l.length ≤ s) : ∀ k, runsN s k l = srt l
  | 0 => rfl
  | k + 1 => by unfold runsN; rw [if_neg (by omega)]
theorem runsN_eq {s : Nat} : ∀ (k j : Nat) (l : List KV), l.length ≤ k → l.length ≤ j → runsN s k l = runsN s j l
  | 0, j, l, hk, _ => by rw [runsN_le (by omega), runsN_le (by omega)]
  | k + 1, 0, l, _, hj => by rw [runsN_le (by omega), runsN_le (by omega)]
  | k + 1, j + 1, l, hk, hj => by
    unfold runsN
    by_cases h : 0 < s ∧ s < l.length
    · rw [if_pos h, if_pos h, runsN_eq k j (l.drop s) (by rw [List.length_drop]; omega) (by rw [List.length_drop]; omega)]
    · rw [if_neg h, if_neg h]
theorem runs_le {s : Nat} {l : List KV} (h : l.length ≤ s) : runs s l = srt l := runsN_le h _
theorem runs_cons {s : Nat} (hs : 0 < s) {x y : List KV} (hx : x.length = s) : runs s (x ++ y) = srt x ++ runs s y := by
  by_cases hy : y.length = 0
  · obtain rfl := List.eq_nil_of_length_eq_zero hy
    rw [List.append_nil, runs_le (by omega), runs_le (by simp)]
    simp [srt]
  · have hl : (x ++ y).length = (x.length + y.length - 1) + 1 := by rw [List.length_append]; omega
    show runsN s (x ++ y).length (x ++ y) = _
    rw [hl]
    show (if 0 < s ∧ s < (x ++ y).length then _ else _) = _
    rw [if_pos (by rw [List.length_append]; omega), List.take_left' hx, List.drop_left' hx, runsN_eq _ y.length y (by omega) (Nat.le_refl _)]
    rfl
theorem length_runs {s : Nat} (hs : 0 < s) : ∀ (k : Nat) (l : List KV), l.length ≤ k → (runs s l).length = l.length
  | 0, l, h => by rw [runs_le (by omega), length_srt]
  | k + 1, l, h => by
    by_cases hl : l.length ≤ s
    · rw [runs_le hl, length_srt]
    · rw [← List.take_append_drop s l, runs_cons hs (by rw [List.length_take]; omega), List.length_append, length_srt, length_runs hs k _ (by rw [List.length_drop]; omega), List.length_append]
theorem split_at {l : List KV} {s : Nat} (h : s ≤ l.length) : ∃ x y, l = x ++ y ∧ x.length = s := ⟨l.take s, l.drop s, (List.take_append_drop _ _).symm, by rw [List.length_take]; omega⟩
end Go.Proofs.YtfimoobgbodbmaaGreatDoor
