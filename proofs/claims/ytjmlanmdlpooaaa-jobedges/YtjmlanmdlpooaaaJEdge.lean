/- JobEdges: two copies of a configuration, and what a store into one of them does. -/
import Derived.Test.YtjmlanmdlpooaaaJArg
namespace Go.Proofs.Ytjmlanmdlpooaaa
open Go.RowKit
set_option linter.unusedVariables false

/-- Two copies lie at D and E, in a world in which nothing older than w0's end has turned. -/
structure Two (w0 : World) (D E : Nat) (x y : Array Value) (wr : World) : Prop where
  hD : w0.heap.size ≤ D
  hE : w0.heap.size ≤ E
  ne : D ≠ E
  bd : wr.heap[D]? = some (.cells x 28 (0, 0))
  be : wr.heap[E]? = some (.cells y 28 (0, 0))
  bel : Below w0.heap.size w0 wr
theorem Two.on {w0 wr w' : World} {D E : Nat} {x y : Array Value} (h : Two w0 D E x y wr) (hb : Below wr.heap.size wr w') : Two w0 D E x y w' :=
  ⟨h.hD, h.hE, h.ne, (hb.block _ (lt_of_block h.bd)).trans h.bd, (hb.block _ (lt_of_block h.be)).trans h.be, below_then h.bel hb h.bel.size⟩
theorem Two.putD {w0 wr : World} {D E : Nat} {x y : Array Value} (h : Two w0 D E x y wr) (k : Nat) (v : Value) : Two w0 D E (x.setIfInBounds k v) y (wr.setCell ⟨D, k, none⟩ v) := by
  obtain ⟨h1, h2, h3, h4, h5, h6⟩ := h
  refine ⟨h1, h2, h3, ?_, ?_, h6.setCell h1 _⟩
  · rw [heap_setCell_same wr D k _ _ _ h4]
  · rw [Below.heap_setCell _ _ _ _ (fun e => h3 e.symm)]
    exact h5
theorem Two.putE {w0 wr : World} {D E : Nat} {x y : Array Value} (h : Two w0 D E x y wr) (k : Nat) (v : Value) : Two w0 D E x (y.setIfInBounds k v) (wr.setCell ⟨E, k, none⟩ v) := by
  obtain ⟨h1, h2, h3, h4, h5, h6⟩ := h
  refine ⟨h1, h2, h3, ?_, ?_, h6.setCell h2 _⟩
  · rw [Below.heap_setCell _ _ _ _ (fun e => h3 e)]
    exact h4
  · rw [heap_setCell_same wr E k _ _ _ h5]
theorem Two.atD {w0 wr : World} {D E : Nat} {x y : Array Value} (h : Two w0 D E x y wr) : At wr D x.toList := fun i v hi => by
  rw [cell_of_cells h.bd]
  simpa using hi
theorem Two.atE {w0 wr : World} {D E : Nat} {x y : Array Value} (h : Two w0 D E x y wr) : At wr E y.toList := fun i v hi => by
  rw [cell_of_cells h.be]
  simpa using hi
/-- Other numbers, the same slices. -/
theorem JobIs.other {w : World} {so mo co ro ko : Option Addr} {sc mc cc rc kc : Nat} {j : JobV} (h : JobIs w so mo co ro ko sc mc cc rc kc j) {j2 : JobV} (e1 : j2.splits = j.splits) (e2 : j2.mp = j.mp) (e3 : j2.cb = j.cb) (e4 : j2.rd = j.rd) (e5 : j2.marks = j.marks) : JobIs w so mo co ro ko sc mc cc rc kc j2 :=
  ⟨by rw [e1]; exact h.sp, by rw [e2]; exact h.mp, by rw [e3]; exact h.cb, by rw [e4]; exact h.rd, by rw [e5]; exact h.mks⟩
theorem Two.new {w0 w : World} (h : Below w0.heap.size w0 w) (x : Array Value) : Two w0 w.heap.size (w.heap.size + 1) x x ((w.alloc (.cells x 28)).alloc (.cells x 28)).drew ∧ Two w0 (w.heap.size + 1) w.heap.size x x ((w.alloc (.cells x 28)).alloc (.cells x 28)).drew := by
  have hs := h.size
  have hb : Below w0.heap.size w0 ((w.alloc (.cells x 28)).alloc (.cells x 28)).drew := by
    have b1 := below_then h (alloc_one w (.cells x 28)) h.size
    have b2 := below_then b1 (alloc_one _ (.cells x 28)) b1.size
    exact below_then b2 (below_drew1 _) b2.size
  have h1 : ((w.alloc (.cells x 28)).alloc (.cells x 28)).drew.heap[w.heap.size]? = some (.cells x 28 (0, 0)) := by
    show ((w.alloc (.cells x 28)).alloc (.cells x 28)).heap[w.heap.size]? = _
    rw [Below.heap_alloc _ _ _ (by simp)]
    exact new_block _ _
  have h2 : ((w.alloc (.cells x 28)).alloc (.cells x 28)).drew.heap[w.heap.size + 1]? = some (.cells x 28 (0, 0)) := by
    show ((w.alloc (.cells x 28)).alloc (.cells x 28)).heap[w.heap.size + 1]? = _
    have := new_block (w.alloc (.cells x 28)) (.cells x 28)
    rw [size_one] at this
    exact this
  exact ⟨⟨hs, by omega, by omega, h1, h2, hb⟩, ⟨by omega, hs, by omega, h2, h1, hb⟩⟩
theorem edgeD0 {c : CfgV} (h : mayC c = true) : mayC { c with job := { c.job with parts := 4 } } = true := by
  unfold mayC mayJ at h ⊢
  simp only [Bool.and_eq_true] at h ⊢
  obtain ⟨⟨⟨⟨⟨⟨⟨⟨⟨⟨⟨⟨⟨⟨⟨p1, p2⟩, p3⟩, p4⟩, p5⟩, p6⟩, p7⟩, p8⟩, p9⟩, p10⟩, p11⟩, p12⟩, p13⟩, hw⟩, ht⟩, ho⟩ := h
  exact ⟨⟨⟨⟨⟨⟨⟨⟨⟨⟨⟨⟨⟨⟨⟨p1, rfl⟩, p3⟩, p4⟩, p5⟩, p6⟩, p7⟩, p8⟩, p9⟩, p10⟩, p11⟩, p12⟩, p13⟩, hw⟩, ht⟩, ho⟩
theorem edgeE0 (c : CfgV) : mayC { c with job := { c.job with parts := 5 } } = false := by simp [mayC, mayJ, inI]
theorem edgeD1 {c : CfgV} (h : mayC c = true) : mayC { c with job := { c.job with chunk := 7 } } = true := by
  unfold mayC mayJ at h ⊢
  simp only [Bool.and_eq_true] at h ⊢
  obtain ⟨⟨⟨⟨⟨⟨⟨⟨⟨⟨⟨⟨⟨⟨⟨p1, p2⟩, p3⟩, p4⟩, p5⟩, p6⟩, p7⟩, p8⟩, p9⟩, p10⟩, p11⟩, p12⟩, p13⟩, hw⟩, ht⟩, ho⟩ := h
  exact ⟨⟨⟨⟨⟨⟨⟨⟨⟨⟨⟨⟨⟨⟨⟨p1, p2⟩, p3⟩, p4⟩, p5⟩, p6⟩, p7⟩, p8⟩, rfl⟩, p10⟩, p11⟩, p12⟩, p13⟩, hw⟩, ht⟩, ho⟩
theorem edgeE1 (c : CfgV) : mayC { c with job := { c.job with chunk := 8 } } = false := by simp [mayC, mayJ, inI]
theorem edgeD2 {c : CfgV} (h : mayC c = true) : mayC { c with job := { c.job with window := 4 } } = true := by
  unfold mayC mayJ at h ⊢
  simp only [Bool.and_eq_true] at h ⊢
  obtain ⟨⟨⟨⟨⟨⟨⟨⟨⟨⟨⟨⟨⟨⟨⟨p1, p2⟩, p3⟩, p4⟩, p5⟩, p6⟩, p7⟩, p8⟩, p9⟩, p10⟩, p11⟩, p12⟩, p13⟩, hw⟩, ht⟩, ho⟩ := h
  exact ⟨⟨⟨⟨⟨⟨⟨⟨⟨⟨⟨⟨⟨⟨⟨p1, p2⟩, p3⟩, p4⟩, p5⟩, p6⟩, p7⟩, p8⟩, p9⟩, rfl⟩, p11⟩, p12⟩, p13⟩, hw⟩, ht⟩, ho⟩
theorem edgeE2 (c : CfgV) : mayC { c with job := { c.job with window := 0 } } = false := by simp [mayC, mayJ, inI]
theorem edgeD3 {c : CfgV} (h : mayC c = true) : mayC { c with job := { c.job with fuel := 2000 } } = true := by
  unfold mayC mayJ at h ⊢
  simp only [Bool.and_eq_true] at h ⊢
  obtain ⟨⟨⟨⟨⟨⟨⟨⟨⟨⟨⟨⟨⟨⟨⟨p1, p2⟩, p3⟩, p4⟩, p5⟩, p6⟩, p7⟩, p8⟩, p9⟩, p10⟩, p11⟩, p12⟩, p13⟩, hw⟩, ht⟩, ho⟩ := h
  exact ⟨⟨⟨⟨⟨⟨⟨⟨⟨⟨⟨⟨⟨⟨⟨p1, p2⟩, p3⟩, p4⟩, p5⟩, p6⟩, p7⟩, p8⟩, p9⟩, p10⟩, rfl⟩, p12⟩, p13⟩, hw⟩, ht⟩, ho⟩
theorem edgeE3 (c : CfgV) : mayC { c with job := { c.job with fuel := 2001 } } = false := by simp [mayC, mayJ, inI]
theorem edgeD4 {c : CfgV} (h : mayC c = true) : mayC { c with job := { c.job with marks := [(c.job.splits.length : Int)] } } = true := by
  unfold mayC mayJ at h ⊢
  simp only [Bool.and_eq_true] at h ⊢
  obtain ⟨⟨⟨⟨⟨⟨⟨⟨⟨⟨⟨⟨⟨⟨⟨p1, p2⟩, p3⟩, p4⟩, p5⟩, p6⟩, p7⟩, p8⟩, p9⟩, p10⟩, p11⟩, p12⟩, p13⟩, hw⟩, ht⟩, ho⟩ := h
  exact ⟨⟨⟨⟨⟨⟨⟨⟨⟨⟨⟨⟨⟨⟨⟨p1, p2⟩, p3⟩, p4⟩, p5⟩, p6⟩, p7⟩, p8⟩, p9⟩, p10⟩, p11⟩, rfl⟩, (by show marksJ _ [_] = true; simp only [marksJ, List.all_cons, List.all_nil, risesI, Bool.and_true]; exact inI_iff.2 ⟨(inI_iff.1 p1).1, by omega⟩)⟩, hw⟩, ht⟩, ho⟩
theorem edgeE4 (c : CfgV) : mayC { c with job := { c.job with marks := [(c.job.splits.length : Int) + 1] } } = false := by
  have h : inI ((c.job.splits.length : Int) + 1) 1 c.job.splits.length = false := by
    simp only [inI]
    rw [decide_eq_false (show ¬ (c.job.splits.length : Int) + 1 ≤ c.job.splits.length by omega)]
    simp
  simp [mayC, mayJ, marksJ, risesI, h]
theorem edgeD5 {c : CfgV} (h : mayC c = true) : mayC { c with workers := 4 } = true := by
  unfold mayC mayJ at h ⊢
  simp only [Bool.and_eq_true] at h ⊢
  obtain ⟨⟨⟨⟨⟨⟨⟨⟨⟨⟨⟨⟨⟨⟨⟨p1, p2⟩, p3⟩, p4⟩, p5⟩, p6⟩, p7⟩, p8⟩, p9⟩, p10⟩, p11⟩, p12⟩, p13⟩, hw⟩, ht⟩, ho⟩ := h
  exact ⟨⟨⟨⟨⟨⟨⟨⟨⟨⟨⟨⟨⟨⟨⟨p1, p2⟩, p3⟩, p4⟩, p5⟩, p6⟩, p7⟩, p8⟩, p9⟩, p10⟩, p11⟩, p12⟩, p13⟩, rfl⟩, ht⟩, ho⟩
theorem edgeE5 (c : CfgV) : mayC { c with workers := 5 } = false := by simp [mayC, mayJ, inI]
theorem edgeD6 {c : CfgV} (h : mayC c = true) : mayC { c with tries := 3 } = true := by
  unfold mayC mayJ at h ⊢
  simp only [Bool.and_eq_true] at h ⊢
  obtain ⟨⟨⟨⟨⟨⟨⟨⟨⟨⟨⟨⟨⟨⟨⟨p1, p2⟩, p3⟩, p4⟩, p5⟩, p6⟩, p7⟩, p8⟩, p9⟩, p10⟩, p11⟩, p12⟩, p13⟩, hw⟩, ht⟩, ho⟩ := h
  exact ⟨⟨⟨⟨⟨⟨⟨⟨⟨⟨⟨⟨⟨⟨⟨p1, p2⟩, p3⟩, p4⟩, p5⟩, p6⟩, p7⟩, p8⟩, p9⟩, p10⟩, p11⟩, p12⟩, p13⟩, hw⟩, rfl⟩, ho⟩
theorem edgeE6 (c : CfgV) : mayC { c with tries := 0 } = false := by simp [mayC, mayJ, inI]
theorem edgeD7 {c : CfgV} (h : mayC c = true) : mayC { c with timeout := 50 } = true := by
  unfold mayC mayJ at h ⊢
  simp only [Bool.and_eq_true] at h ⊢
  obtain ⟨⟨⟨⟨⟨⟨⟨⟨⟨⟨⟨⟨⟨⟨⟨p1, p2⟩, p3⟩, p4⟩, p5⟩, p6⟩, p7⟩, p8⟩, p9⟩, p10⟩, p11⟩, p12⟩, p13⟩, hw⟩, ht⟩, ho⟩ := h
  exact ⟨⟨⟨⟨⟨⟨⟨⟨⟨⟨⟨⟨⟨⟨⟨p1, p2⟩, p3⟩, p4⟩, p5⟩, p6⟩, p7⟩, p8⟩, p9⟩, p10⟩, p11⟩, p12⟩, p13⟩, hw⟩, ht⟩, rfl⟩
theorem edgeE7 (c : CfgV) : mayC { c with timeout := 51 } = false := by simp [mayC, mayJ, inI]
theorem mayC_splits {c : CfgV} (h : mayC c = true) : c.job.splits.length ≤ 6 := by
  unfold mayC mayJ at h
  simp only [Bool.and_eq_true] at h
  have := (inI_iff.1 h.1.1.1.1.1.1.1.1.1.1.1.1.1.1.1).2
  omega
theorem is_one {w : World} {M : Nat} {n : Int} (h : w.heap[M]? = some (.cells #[.int .i64 n] 3 (0, 0))) : Is w (.slice (some ⟨M, 0, none⟩) 1 1) [n] := by
  refine ⟨some ⟨M, 0, none⟩, 1, rfl, Nat.le_refl _, by unfold maxLen; omega, (fun h => by cases h), fun _ => ⟨M, 0, rfl, lt_of_block h, fun j hj => ?_⟩⟩
  obtain rfl : j = 0 := by simp at hj; omega
  rw [cell_of_cells h]
  rfl
/-- Two marks' slices are made, and laid into the two copies. -/
def Mks (w0 : World) (D E : Nat) (x y : Array Value) (M1 M2 : Nat) (n m : Int) (w' : World) : Prop :=
  Two w0 D E (x.setIfInBounds 8 (.slice (some ⟨M1, 0, none⟩) 1 1)) (y.setIfInBounds 8 (.slice (some ⟨M2, 0, none⟩) 1 1)) w' ∧ Is w' (.slice (some ⟨M1, 0, none⟩) 1 1) [n] ∧ Is w' (.slice (some ⟨M2, 0, none⟩) 1 1) [m]
theorem kept_alloc {w : World} {b : Nat} {o o' : Obj} (h : w.heap[b]? = some o) : (w.alloc o').heap[b]? = some o := (Below.heap_alloc _ _ _ (lt_of_block h)).trans h
theorem kept_set {w : World} {b D : Nat} {o : Obj} {v : Value} (h : w.heap[b]? = some o) (hn : b ≠ D) : (w.setCell ⟨D, 8, none⟩ v).heap[b]? = some o := (Below.heap_setCell _ _ _ _ (fun e => hn e)).trans h
theorem mk_aDbE {w0 w : World} {D E : Nat} {x y : Array Value} (h : Two w0 D E x y w) (n m : Int) : Mks w0 D E x y (w.heap.size) (w.heap.size + 1) n m (((((w.alloc (.cells #[.int .i64 n] 3)).setCell ⟨D, 8, none⟩ (.slice (some ⟨w.heap.size, 0, none⟩) 1 1)).alloc (.cells #[.int .i64 m] 3)).setCell ⟨E, 8, none⟩ (.slice (some ⟨w.heap.size + 1, 0, none⟩) 1 1)).drew) := by
  have q1 := lt_of_block h.bd
  have q2 := lt_of_block h.be
  have h1 := h.on (alloc_one _ (.cells #[.int .i64 n] 3))
  have ka : (w.alloc (.cells #[.int .i64 n] 3)).heap[w.heap.size]? = some (.cells #[.int .i64 n] 3 (0, 0)) := by
    have t := new_block (w) (.cells #[.int .i64 n] 3)
    exact t
  have h2 := h1.putD 8 (.slice (some ⟨w.heap.size, 0, none⟩) 1 1)
  replace ka := kept_set (D := D) (v := .slice (some ⟨w.heap.size, 0, none⟩) 1 1) ka (by omega)
  have h3 := h2.on (alloc_one _ (.cells #[.int .i64 m] 3))
  replace ka := kept_alloc (o' := (.cells #[.int .i64 m] 3)) ka
  have kb : (((w.alloc (.cells #[.int .i64 n] 3)).setCell ⟨D, 8, none⟩ (.slice (some ⟨w.heap.size, 0, none⟩) 1 1)).alloc (.cells #[.int .i64 m] 3)).heap[w.heap.size + 1]? = some (.cells #[.int .i64 m] 3 (0, 0)) := by
    have t := new_block ((w.alloc (.cells #[.int .i64 n] 3)).setCell ⟨D, 8, none⟩ (.slice (some ⟨w.heap.size, 0, none⟩) 1 1)) (.cells #[.int .i64 m] 3)
    rw [show ((w.alloc (.cells #[.int .i64 n] 3)).setCell ⟨D, 8, none⟩ (.slice (some ⟨w.heap.size, 0, none⟩) 1 1)).heap.size = w.heap.size + 1 by simp [World.setCell]] at t; exact t
  have h4 := h3.putE 8 (.slice (some ⟨w.heap.size + 1, 0, none⟩) 1 1)
  replace ka := kept_set (D := E) (v := .slice (some ⟨w.heap.size + 1, 0, none⟩) 1 1) ka (by omega)
  replace kb := kept_set (D := E) (v := .slice (some ⟨w.heap.size + 1, 0, none⟩) 1 1) kb (by omega)
  exact ⟨h4.on (below_drew1 _), (is_one ka).below (below_drew1 _), (is_one kb).below (below_drew1 _)⟩
theorem mk_abDE {w0 w : World} {D E : Nat} {x y : Array Value} (h : Two w0 D E x y w) (n m : Int) : Mks w0 D E x y (w.heap.size) (w.heap.size + 1) n m (((((w.alloc (.cells #[.int .i64 n] 3)).alloc (.cells #[.int .i64 m] 3)).setCell ⟨D, 8, none⟩ (.slice (some ⟨w.heap.size, 0, none⟩) 1 1)).setCell ⟨E, 8, none⟩ (.slice (some ⟨w.heap.size + 1, 0, none⟩) 1 1)).drew) := by
  have q1 := lt_of_block h.bd
  have q2 := lt_of_block h.be
  have h1 := h.on (alloc_one _ (.cells #[.int .i64 n] 3))
  have ka : (w.alloc (.cells #[.int .i64 n] 3)).heap[w.heap.size]? = some (.cells #[.int .i64 n] 3 (0, 0)) := by
    have t := new_block (w) (.cells #[.int .i64 n] 3)
    exact t
  have h2 := h1.on (alloc_one _ (.cells #[.int .i64 m] 3))
  replace ka := kept_alloc (o' := (.cells #[.int .i64 m] 3)) ka
  have kb : ((w.alloc (.cells #[.int .i64 n] 3)).alloc (.cells #[.int .i64 m] 3)).heap[w.heap.size + 1]? = some (.cells #[.int .i64 m] 3 (0, 0)) := by
    have t := new_block (w.alloc (.cells #[.int .i64 n] 3)) (.cells #[.int .i64 m] 3)
    rw [show (w.alloc (.cells #[.int .i64 n] 3)).heap.size = w.heap.size + 1 by simp] at t; exact t
  have h3 := h2.putD 8 (.slice (some ⟨w.heap.size, 0, none⟩) 1 1)
  replace ka := kept_set (D := D) (v := .slice (some ⟨w.heap.size, 0, none⟩) 1 1) ka (by omega)
  replace kb := kept_set (D := D) (v := .slice (some ⟨w.heap.size, 0, none⟩) 1 1) kb (by omega)
  have h4 := h3.putE 8 (.slice (some ⟨w.heap.size + 1, 0, none⟩) 1 1)
  replace ka := kept_set (D := E) (v := .slice (some ⟨w.heap.size + 1, 0, none⟩) 1 1) ka (by omega)
  replace kb := kept_set (D := E) (v := .slice (some ⟨w.heap.size + 1, 0, none⟩) 1 1) kb (by omega)
  exact ⟨h4.on (below_drew1 _), (is_one ka).below (below_drew1 _), (is_one kb).below (below_drew1 _)⟩
theorem mk_abED {w0 w : World} {D E : Nat} {x y : Array Value} (h : Two w0 D E x y w) (n m : Int) : Mks w0 D E x y (w.heap.size) (w.heap.size + 1) n m (((((w.alloc (.cells #[.int .i64 n] 3)).alloc (.cells #[.int .i64 m] 3)).setCell ⟨E, 8, none⟩ (.slice (some ⟨w.heap.size + 1, 0, none⟩) 1 1)).setCell ⟨D, 8, none⟩ (.slice (some ⟨w.heap.size, 0, none⟩) 1 1)).drew) := by
  have q1 := lt_of_block h.bd
  have q2 := lt_of_block h.be
  have h1 := h.on (alloc_one _ (.cells #[.int .i64 n] 3))
  have ka : (w.alloc (.cells #[.int .i64 n] 3)).heap[w.heap.size]? = some (.cells #[.int .i64 n] 3 (0, 0)) := by
    have t := new_block (w) (.cells #[.int .i64 n] 3)
    exact t
  have h2 := h1.on (alloc_one _ (.cells #[.int .i64 m] 3))
  replace ka := kept_alloc (o' := (.cells #[.int .i64 m] 3)) ka
  have kb : ((w.alloc (.cells #[.int .i64 n] 3)).alloc (.cells #[.int .i64 m] 3)).heap[w.heap.size + 1]? = some (.cells #[.int .i64 m] 3 (0, 0)) := by
    have t := new_block (w.alloc (.cells #[.int .i64 n] 3)) (.cells #[.int .i64 m] 3)
    rw [show (w.alloc (.cells #[.int .i64 n] 3)).heap.size = w.heap.size + 1 by simp] at t; exact t
  have h3 := h2.putE 8 (.slice (some ⟨w.heap.size + 1, 0, none⟩) 1 1)
  replace ka := kept_set (D := E) (v := .slice (some ⟨w.heap.size + 1, 0, none⟩) 1 1) ka (by omega)
  replace kb := kept_set (D := E) (v := .slice (some ⟨w.heap.size + 1, 0, none⟩) 1 1) kb (by omega)
  have h4 := h3.putD 8 (.slice (some ⟨w.heap.size, 0, none⟩) 1 1)
  replace ka := kept_set (D := D) (v := .slice (some ⟨w.heap.size, 0, none⟩) 1 1) ka (by omega)
  replace kb := kept_set (D := D) (v := .slice (some ⟨w.heap.size, 0, none⟩) 1 1) kb (by omega)
  exact ⟨h4.on (below_drew1 _), (is_one ka).below (below_drew1 _), (is_one kb).below (below_drew1 _)⟩
theorem mk_baDE {w0 w : World} {D E : Nat} {x y : Array Value} (h : Two w0 D E x y w) (n m : Int) : Mks w0 D E x y (w.heap.size + 1) (w.heap.size) n m (((((w.alloc (.cells #[.int .i64 m] 3)).alloc (.cells #[.int .i64 n] 3)).setCell ⟨D, 8, none⟩ (.slice (some ⟨w.heap.size + 1, 0, none⟩) 1 1)).setCell ⟨E, 8, none⟩ (.slice (some ⟨w.heap.size, 0, none⟩) 1 1)).drew) := by
  have q1 := lt_of_block h.bd
  have q2 := lt_of_block h.be
  have h1 := h.on (alloc_one _ (.cells #[.int .i64 m] 3))
  have kb : (w.alloc (.cells #[.int .i64 m] 3)).heap[w.heap.size]? = some (.cells #[.int .i64 m] 3 (0, 0)) := by
    have t := new_block (w) (.cells #[.int .i64 m] 3)
    exact t
  have h2 := h1.on (alloc_one _ (.cells #[.int .i64 n] 3))
  replace kb := kept_alloc (o' := (.cells #[.int .i64 n] 3)) kb
  have ka : ((w.alloc (.cells #[.int .i64 m] 3)).alloc (.cells #[.int .i64 n] 3)).heap[w.heap.size + 1]? = some (.cells #[.int .i64 n] 3 (0, 0)) := by
    have t := new_block (w.alloc (.cells #[.int .i64 m] 3)) (.cells #[.int .i64 n] 3)
    rw [show (w.alloc (.cells #[.int .i64 m] 3)).heap.size = w.heap.size + 1 by simp] at t; exact t
  have h3 := h2.putD 8 (.slice (some ⟨w.heap.size + 1, 0, none⟩) 1 1)
  replace kb := kept_set (D := D) (v := .slice (some ⟨w.heap.size + 1, 0, none⟩) 1 1) kb (by omega)
  replace ka := kept_set (D := D) (v := .slice (some ⟨w.heap.size + 1, 0, none⟩) 1 1) ka (by omega)
  have h4 := h3.putE 8 (.slice (some ⟨w.heap.size, 0, none⟩) 1 1)
  replace kb := kept_set (D := E) (v := .slice (some ⟨w.heap.size, 0, none⟩) 1 1) kb (by omega)
  replace ka := kept_set (D := E) (v := .slice (some ⟨w.heap.size, 0, none⟩) 1 1) ka (by omega)
  exact ⟨h4.on (below_drew1 _), (is_one ka).below (below_drew1 _), (is_one kb).below (below_drew1 _)⟩
theorem mk_baED {w0 w : World} {D E : Nat} {x y : Array Value} (h : Two w0 D E x y w) (n m : Int) : Mks w0 D E x y (w.heap.size + 1) (w.heap.size) n m (((((w.alloc (.cells #[.int .i64 m] 3)).alloc (.cells #[.int .i64 n] 3)).setCell ⟨E, 8, none⟩ (.slice (some ⟨w.heap.size, 0, none⟩) 1 1)).setCell ⟨D, 8, none⟩ (.slice (some ⟨w.heap.size + 1, 0, none⟩) 1 1)).drew) := by
  have q1 := lt_of_block h.bd
  have q2 := lt_of_block h.be
  have h1 := h.on (alloc_one _ (.cells #[.int .i64 m] 3))
  have kb : (w.alloc (.cells #[.int .i64 m] 3)).heap[w.heap.size]? = some (.cells #[.int .i64 m] 3 (0, 0)) := by
    have t := new_block (w) (.cells #[.int .i64 m] 3)
    exact t
  have h2 := h1.on (alloc_one _ (.cells #[.int .i64 n] 3))
  replace kb := kept_alloc (o' := (.cells #[.int .i64 n] 3)) kb
  have ka : ((w.alloc (.cells #[.int .i64 m] 3)).alloc (.cells #[.int .i64 n] 3)).heap[w.heap.size + 1]? = some (.cells #[.int .i64 n] 3 (0, 0)) := by
    have t := new_block (w.alloc (.cells #[.int .i64 m] 3)) (.cells #[.int .i64 n] 3)
    rw [show (w.alloc (.cells #[.int .i64 m] 3)).heap.size = w.heap.size + 1 by simp] at t; exact t
  have h3 := h2.putE 8 (.slice (some ⟨w.heap.size, 0, none⟩) 1 1)
  replace kb := kept_set (D := E) (v := .slice (some ⟨w.heap.size, 0, none⟩) 1 1) kb (by omega)
  replace ka := kept_set (D := E) (v := .slice (some ⟨w.heap.size, 0, none⟩) 1 1) ka (by omega)
  have h4 := h3.putD 8 (.slice (some ⟨w.heap.size + 1, 0, none⟩) 1 1)
  replace kb := kept_set (D := D) (v := .slice (some ⟨w.heap.size + 1, 0, none⟩) 1 1) kb (by omega)
  replace ka := kept_set (D := D) (v := .slice (some ⟨w.heap.size + 1, 0, none⟩) 1 1) ka (by omega)
  exact ⟨h4.on (below_drew1 _), (is_one ka).below (below_drew1 _), (is_one kb).below (below_drew1 _)⟩
theorem mk_bEaD {w0 w : World} {D E : Nat} {x y : Array Value} (h : Two w0 D E x y w) (n m : Int) : Mks w0 D E x y (w.heap.size + 1) (w.heap.size) n m (((((w.alloc (.cells #[.int .i64 m] 3)).setCell ⟨E, 8, none⟩ (.slice (some ⟨w.heap.size, 0, none⟩) 1 1)).alloc (.cells #[.int .i64 n] 3)).setCell ⟨D, 8, none⟩ (.slice (some ⟨w.heap.size + 1, 0, none⟩) 1 1)).drew) := by
  have q1 := lt_of_block h.bd
  have q2 := lt_of_block h.be
  have h1 := h.on (alloc_one _ (.cells #[.int .i64 m] 3))
  have kb : (w.alloc (.cells #[.int .i64 m] 3)).heap[w.heap.size]? = some (.cells #[.int .i64 m] 3 (0, 0)) := by
    have t := new_block (w) (.cells #[.int .i64 m] 3)
    exact t
  have h2 := h1.putE 8 (.slice (some ⟨w.heap.size, 0, none⟩) 1 1)
  replace kb := kept_set (D := E) (v := .slice (some ⟨w.heap.size, 0, none⟩) 1 1) kb (by omega)
  have h3 := h2.on (alloc_one _ (.cells #[.int .i64 n] 3))
  replace kb := kept_alloc (o' := (.cells #[.int .i64 n] 3)) kb
  have ka : (((w.alloc (.cells #[.int .i64 m] 3)).setCell ⟨E, 8, none⟩ (.slice (some ⟨w.heap.size, 0, none⟩) 1 1)).alloc (.cells #[.int .i64 n] 3)).heap[w.heap.size + 1]? = some (.cells #[.int .i64 n] 3 (0, 0)) := by
    have t := new_block ((w.alloc (.cells #[.int .i64 m] 3)).setCell ⟨E, 8, none⟩ (.slice (some ⟨w.heap.size, 0, none⟩) 1 1)) (.cells #[.int .i64 n] 3)
    rw [show ((w.alloc (.cells #[.int .i64 m] 3)).setCell ⟨E, 8, none⟩ (.slice (some ⟨w.heap.size, 0, none⟩) 1 1)).heap.size = w.heap.size + 1 by simp [World.setCell]] at t; exact t
  have h4 := h3.putD 8 (.slice (some ⟨w.heap.size + 1, 0, none⟩) 1 1)
  replace kb := kept_set (D := D) (v := .slice (some ⟨w.heap.size + 1, 0, none⟩) 1 1) kb (by omega)
  replace ka := kept_set (D := D) (v := .slice (some ⟨w.heap.size + 1, 0, none⟩) 1 1) ka (by omega)
  exact ⟨h4.on (below_drew1 _), (is_one ka).below (below_drew1 _), (is_one kb).below (below_drew1 _)⟩
end Go.Proofs.Ytjmlanmdlpooaaa
