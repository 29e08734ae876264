/- How the library's stable sort goes about it, over lists: insertion, and a merge that parts two runs. No program in this text. -/
import Derived.Test.YtafbofcenbfkeaaSMath
namespace Go.Proofs.Ytafbofcenbfkeaa
set_option linter.unusedVariables false

theorem srt_snoc (l : List KV) (x : KV) : srt (l ++ [x]) = ins x (srt l) := by simp [srt]
theorem ins_end (x : KV) : ∀ (l : List KV), (∀ y ∈ l, kLt x.1 y.1 = false) → ins x l = l ++ [x]
  | [], _ => rfl
  | y :: l, h => by
    unfold ins
    rw [if_neg (by rw [h y List.mem_cons_self]; simp), ins_end x l fun z hz => h z (List.mem_cons_of_mem _ hz)]
    rfl
/-- x stands where it belongs: what is ahead is not above it, what is behind is. -/
theorem ins_mid (x : KV) : ∀ (a b : List KV), (∀ y ∈ a, kLt x.1 y.1 = false) → (∀ y ∈ b, kLt x.1 y.1 = true) → ins x (a ++ b) = a ++ x :: b
  | [], [], _, _ => rfl
  | [], y :: b, _, hb => by
    show ins x (y :: b) = _
    unfold ins
    rw [if_pos (hb y List.mem_cons_self)]
    rfl
  | y :: a, b, ha, hb => by
    show ins x (y :: (a ++ b)) = _
    unfold ins
    rw [if_neg (by rw [ha y List.mem_cons_self]; simp), ins_mid x a b (fun z hz => ha z (List.mem_cons_of_mem _ hz)) hb]
    rfl
theorem rising_append {a b : List KV} : Rising (a ++ b) ↔ Rising a ∧ Rising b ∧ ∀ x ∈ a, ∀ y ∈ b, kLt y.1 x.1 = false := List.pairwise_append
/-- Of a rising list all are no more than its last. -/
theorem rising_last {a : List KV} {z : KV} (h : Rising (a ++ [z])) : ∀ y ∈ a ++ [z], kLt z.1 y.1 = false := by
  intro y hy
  rcases List.mem_append.1 hy with hy | hy
  · exact (rising_append.1 h).2.2 y hy z (by simp)
  · rw [List.mem_singleton.1 hy]; exact kLt_irrefl _
/-- Two runs, each parted: what comes of the lower parts stands ahead of what comes of the upper ones. -/
theorem merge_parts {u1 u2 v1 v2 : List KV} (hu : Rising (u1 ++ u2)) (hv : Rising (v1 ++ v2)) (h1 : ∀ x ∈ u1, ∀ y ∈ v2, kLt y.1 x.1 = false) (h2 : ∀ x ∈ u2, ∀ y ∈ v1, kLt y.1 x.1 = true) :
    srt (u1 ++ v1) ++ srt (u2 ++ v2) = srt (u1 ++ u2 ++ (v1 ++ v2)) := by
  obtain ⟨hu1, hu2, hu3⟩ := rising_append.1 hu
  obtain ⟨hv1, hv2, hv3⟩ := rising_append.1 hv
  refine srt_eq (rising_append.2 ⟨rising_srt _, rising_srt _, fun x hx y hy => ?_⟩) fun k => ?_
  · rw [mem_srt, List.mem_append] at hx hy
    rcases hx with hx | hx
    · rcases hy with hy | hy
      · exact hu3 x hx y hy
      · exact h1 x hx y hy
    · rcases hy with hy | hy
      · exact kLt_asymm (h2 y hy x hx)
      · exact hv3 x hx y hy
  · rw [those_append, those_srt, those_srt, those_append, those_append, those_append, those_append, those_append]
    by_cases e : those k u2 = []
    · rw [e]; simp
    · have hn : those k v1 = [] := by
        refine those_nil_of fun y hy ey => e (those_nil_of fun x hx ex => ?_)
        have := h2 x hx y hy
        rw [ex, ey, kLt_irrefl] at this
        cases this
      rw [hn]; simp
/-- Two runs that are rising, one behind the other, and already in order. -/
theorem merge_none {u v : List KV} (hu : Rising u) (hv : Rising v) (h : ∀ x ∈ u, ∀ y ∈ v, kLt y.1 x.1 = false) : srt (u ++ v) = u ++ v := srt_self (rising_append.2 ⟨hu, hv, h⟩)
/-- One element ahead of a run: it is put behind those that are below it. -/
theorem merge_one_left {x : KV} {v1 v2 : List KV} (hv : Rising (v1 ++ v2)) (h1 : ∀ y ∈ v1, kLt y.1 x.1 = true) (h2 : ∀ y ∈ v2, kLt y.1 x.1 = false) : srt (x :: (v1 ++ v2)) = v1 ++ x :: v2 := by
  have := merge_parts (u1 := []) (u2 := [x]) (v1 := v1) (v2 := v2) (List.pairwise_singleton _ _) hv (fun _ h => by cases h) (fun z hz y hy => by rw [List.mem_singleton.1 hz]; exact h1 y hy)
  have hv' := rising_append.1 hv
  rw [List.nil_append, srt_self hv'.1, merge_none (List.pairwise_singleton _ _) hv'.2.1 (fun z hz y hy => by rw [List.mem_singleton.1 hz]; exact h2 y hy)] at this
  simpa using this.symm
/-- One element behind a run: it is put ahead of those that are above it. -/
theorem merge_one_right {x : KV} {u1 u2 : List KV} (hu : Rising (u1 ++ u2)) (h1 : ∀ y ∈ u1, kLt x.1 y.1 = false) (h2 : ∀ y ∈ u2, kLt x.1 y.1 = true) : srt (u1 ++ u2 ++ [x]) = u1 ++ x :: u2 := by
  rw [srt_snoc, srt_self hu, ins_mid x u1 u2 h1 h2]
/-- Where two runs were parted is told by the elements beside it. -/
theorem low_of {u1 u2 v1 v2 : List KV} (hu : Rising (u1 ++ u2)) (hv : Rising (v1 ++ v2)) (h : u1 = [] ∨ v2 = [] ∨ ∃ a x y c, u1 = a ++ [x] ∧ v2 = y :: c ∧ kLt y.1 x.1 = false) : ∀ x ∈ u1, ∀ y ∈ v2, kLt y.1 x.1 = false := by
  rcases h with rfl | rfl | ⟨a, x, y, c, rfl, rfl, hxy⟩
  · intro x hx; cases hx
  · intro x hx y hy; cases hy
  · intro z hz t ht
    have e1 : kLt x.1 z.1 = false := rising_last (rising_append.1 hu).1 z hz
    have e2 : kLt t.1 y.1 = false := by
      rcases List.mem_cons.1 ht with rfl | ht
      · exact kLt_irrefl _
      · exact (List.pairwise_cons.1 (rising_append.1 hv).2.1).1 t ht
    exact kLe_trans (kLe_trans e1 hxy) e2
theorem kLt_le {a b c : ByteArray} (h : kLt a b = true) (k : kLt c b = false) : kLt a c = true := by
  cases e : kLt a c with
  | true => rfl
  | false => rw [kLe_trans k e] at h; cases h
theorem kLe_lt {a b c : ByteArray} (h : kLt b a = false) (k : kLt b c = true) : kLt a c = true := by
  cases e : kLt a c with
  | true => rfl
  | false => rw [kLe_trans e h] at k; cases k
theorem high_of {u1 u2 v1 v2 : List KV} (hu : Rising (u1 ++ u2)) (hv : Rising (v1 ++ v2)) (h : u2 = [] ∨ v1 = [] ∨ ∃ x a c y, u2 = x :: a ∧ v1 = c ++ [y] ∧ kLt y.1 x.1 = true) : ∀ x ∈ u2, ∀ y ∈ v1, kLt y.1 x.1 = true := by
  rcases h with rfl | rfl | ⟨x, a, c, y, rfl, rfl, hxy⟩
  · intro x hx; cases hx
  · intro x hx y hy; cases hy
  · intro z hz t ht
    have e1 : kLt y.1 t.1 = false := rising_last (rising_append.1 hv).1 t ht
    have e2 : kLt z.1 x.1 = false := by
      rcases List.mem_cons.1 hz with rfl | hz
      · exact kLt_irrefl _
      · exact (List.pairwise_cons.1 (rising_append.1 hu).2.1).1 z hz
    exact kLt_le (kLe_lt e1 hxy) e2
end Go.Proofs.Ytafbofcenbfkeaa
