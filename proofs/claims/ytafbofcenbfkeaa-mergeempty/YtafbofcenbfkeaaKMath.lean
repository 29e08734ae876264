/- Keys as the library sorts them: lists of bytes. No program in this text. -/
import Derived.Test.YtafbofcenbfkeaaSMerge
import Derived.Lib.SlicesCompact
import Derived.Lib.OwnBridge
namespace Go.Proofs.Ytafbofcenbfkeaa
open Go.Lib
set_option linter.unusedVariables false

theorem lessB_lt : ∀ (x y : List UInt8), Op.bytesLess x y = decide (x < y)
  | [], [] => by simp [Op.bytesLess]
  | _ :: _, [] => by simp [Op.bytesLess]
  | [], _ :: _ => by simp [Op.bytesLess]
  | a :: x, b :: y => by
    rw [Op.bytesLess, lessB_lt x y]
    simp only [List.cons_lt_cons_iff]
    by_cases h1 : a < b <;> by_cases h2 : a = b <;> by_cases h3 : x < y <;> simp [h1, h2, h3]
theorem leB (x y : List UInt8) : decide (x ≤ y) = !Op.bytesLess y x := by
  rw [lessB_lt]
  have : x ≤ y ↔ ¬ y < x := Iff.rfl
  by_cases h : y < x
  · simp [this, h]
  · simp [this, h]
theorem leB_trans {x y z : List UInt8} (h : Op.bytesLess y x = false) (k : Op.bytesLess z y = false) : Op.bytesLess z x = false :=
  kLe_trans (a := ⟨x.toArray⟩) (b := ⟨y.toArray⟩) (c := ⟨z.toArray⟩) h k
theorem leB_ne {x y : List UInt8} (h : Op.bytesLess y x = false) (hn : y ≠ x) : Op.bytesLess x y = true := by
  cases e : Op.bytesLess x y with
  | true => rfl
  | false => exact absurd (lessB_total y x h e) hn
theorem lessB_asymm {x y : List UInt8} (h : Op.bytesLess x y = true) : Op.bytesLess y x = false :=
  kLt_asymm (a := ⟨x.toArray⟩) (b := ⟨y.toArray⟩) h
theorem sortB (zs : List (List UInt8)) : (zs.mergeSort fun x y => decide (x ≤ y)).Pairwise (fun x y => Op.bytesLess y x = false) := by
  have := List.pairwise_mergeSort (le := fun x y : List UInt8 => decide (x ≤ y)) (by
    intro a b c h k
    rw [leB] at h k ⊢
    simp only [Bool.not_eq_true'] at h k ⊢
    exact leB_trans h k) (by
    intro a b
    rw [leB, leB]
    cases h : Op.bytesLess b a with
    | false => rfl
    | true => rw [lessB_asymm h]; rfl) zs
  exact this.imp (fun h => by rw [leB] at h; simpa using h)
theorem getB {zs : List (List UInt8)} {j : Nat} (h : j < zs.length) : zs.toArray[j]! = zs[j] := by
  simp [getElem!_pos, h]
theorem sortedB_le {zs : List (List UInt8)} (h : zs.Pairwise (fun x y => Op.bytesLess y x = false)) {i j : Nat} (hij : i ≤ j) (hj : j < zs.length) : Op.bytesLess zs.toArray[j]! zs.toArray[i]! = false := by
  rw [getB hj, getB (by omega)]
  rcases Nat.lt_or_ge i j with h1 | h1
  · exact List.pairwise_iff_getElem.1 h i j (by omega) hj h1
  · obtain rfl : i = j := by omega
    exact lessB_irrefl _
theorem compactB_rising {zs : List (List UInt8)} (h : zs.Pairwise (fun x y => Op.bytesLess y x = false)) : (compact zs).Pairwise (fun x y => Op.bytesLess x y = true) := by
  unfold compact compactUpTo
  rw [List.pairwise_map, List.pairwise_filter]
  rw [List.pairwise_iff_getElem]
  intro i j hi hj hij hki hkj
  simp only [List.length_range] at hi hj
  simp only [List.getElem_range] at *
  have h1 := sortedB_le h (i := i) (j := j - 1) (by omega) (by omega)
  have h2 := sortedB_le h (i := j - 1) (j := j) (by omega) hj
  have h3 : zs.toArray[j]! ≠ zs.toArray[j - 1]! := by
    have : decide (j = 0 ∨ zs.toArray[j]! ≠ zs.toArray[j - 1]!) = true := hkj
    rcases of_decide_eq_true this with e | e
    · omega
    · exact e
  have h4 := leB_ne h2 h3
  cases e : Op.bytesLess zs.toArray[i]! zs.toArray[j]! with
  | true => rfl
  | false =>
    rw [leB_trans e h1] at h4
    cases h4
theorem compactB_mem {zs : List (List UInt8)} (x : List UInt8) : x ∈ compact zs ↔ x ∈ zs := by
  constructor
  · intro h
    unfold compact compactUpTo at h
    obtain ⟨j, hj, rfl⟩ := List.mem_map.1 h
    have hj := List.mem_range.1 (List.mem_filter.1 hj).1
    rw [getB hj]
    exact List.getElem_mem hj
  · intro h
    obtain ⟨j, hj, rfl⟩ := List.mem_iff_getElem.1 h
    have main : ∀ m, ∀ (hm : m < zs.length), zs[m] ∈ compact zs := by
      intro m
      induction m with
      | zero =>
        intro hm
        unfold compact compactUpTo
        exact List.mem_map.2 ⟨0, List.mem_filter.2 ⟨List.mem_range.2 hm, by simp [keeps]⟩, getB hm⟩
      | succ m ih =>
        intro hm
        by_cases he : zs.toArray[m + 1]! = zs.toArray[m]!
        · rw [getB hm, getB (by omega)] at he
          rw [he]
          exact ih (by omega)
        · unfold compact compactUpTo
          exact List.mem_map.2 ⟨m + 1, List.mem_filter.2 ⟨List.mem_range.2 hm, keeps_pos (by simpa using he)⟩, getB hm⟩
    exact main j hj
theorem compactB_length (zs : List (List UInt8)) : (compact zs).length ≤ zs.length := by
  unfold compact compactUpTo
  rw [List.length_map]
  exact Nat.le_trans (List.length_filter_le _ _) (by simp)

/-- Keys, sorted, each once: those of the pairs, rising. -/
theorem keys_sorted (l : List KV) : compact (((l.map (·.1)).map (·.data.toList)).mergeSort fun x y => decide (x ≤ y)) = (keysOf l).map (·.data.toList) := by
  have hk : ((compact (((l.map (·.1)).map (·.data.toList)).mergeSort fun x y => decide (x ≤ y))).map fun x => (⟨x.toArray⟩ : ByteArray)) = keysOf l := by
    refine keys_eq ?_ ?_
    · unfold RisingK
      rw [List.pairwise_map]
      exact compactB_rising (sortB _)
    · intro k
      rw [List.mem_map]
      constructor
      · rintro ⟨x, hx, rfl⟩
        rw [compactB_mem, (List.mergeSort_perm _ _).mem_iff, List.mem_map] at hx
        obtain ⟨b, hb, rfl⟩ := hx
        obtain ⟨p, hp, rfl⟩ := List.mem_map.1 hb
        exact ⟨p, hp, by cases p.1; rfl⟩
      · rintro ⟨p, hp, rfl⟩
        refine ⟨p.1.data.toList, ?_, by cases p.1; rfl⟩
        rw [compactB_mem, (List.mergeSort_perm _ _).mem_iff, List.mem_map]
        exact ⟨p.1, List.mem_map.2 ⟨p, hp, rfl⟩, rfl⟩
  rw [← hk]
  generalize compact (((l.map (·.1)).map (·.data.toList)).mergeSort fun x y => decide (x ≤ y)) = zs
  rw [List.map_map]
  conv => lhs; rw [← List.map_id zs]
  apply List.map_congr_left
  intro x _
  rfl
theorem length_keys (l : List KV) : (keysOf l).length ≤ l.length := by
  have h := compactB_length (((l.map (·.1)).map (·.data.toList)).mergeSort fun x y => decide (x ≤ y))
  rw [keys_sorted, List.length_mergeSort] at h
  simpa using h
end Go.Proofs.Ytafbofcenbfkeaa
