/- A job that lies boxed; jobs that differ in what a model does not look at. -/
import Derived.Test.YtcahfnjhcngceaaGreatDoorGOc
import Derived.Test.YtcahfnjhcngceaaGreatDoorGJob
import Derived.Test.YtcahfnjhcngceaaGreatDoorLowC
namespace Go.Proofs.YtcahfnjhcngceaaGreatDoor
open Go.RowKit Go.Lib
set_option linter.unusedVariables false
set_option maxRecDepth 100000

abbrev joObj (s : SlJ) (j : JobV) : Obj := .cells #[.slice s.so j.splits.length s.sc, .int .i64 j.parts, .slice s.mo j.mp.length s.mc, .slice s.co j.cb.length s.cc, .slice s.ro j.rd.length s.rc, .int .i64 j.chunk, .int .i64 j.window, .int .i64 j.fuel, .slice s.ko j.marks.length s.kc] 26 (0, 0)
theorem heap_on {w w' : World} {x : Nat} {o : Obj} (h : w.heap[x]? = some o) (hb : Below w.heap.size w w') : w'.heap[x]? = some o := (hb.block _ (lt_of_block h)).trans h
theorem iwrap {x : Int} (h1 : -9223372036854775808 ≤ x) (h2 : x ≤ 9223372036854775807) : IntKind.i64.wrap x = x := by
  simp [IntKind.wrap, IntKind.bits, IntKind.signed]
  omega
theorem owns_just {w w' : World} {b : Nat} {cs : Array Value} {t0 : TypeId} (hb : w.heap[b]? = some (.cells cs t0 (0, 0))) (hs : Sav (Just b) w w') {C e s n : Nat} {v : Value} {xs : List Value} (h : w.ownsRow C e s v n xs) (he : e ≠ t0) : w'.ownsRow C e s v n xs := by
  refine ⟨h.1, ?_⟩
  rcases h.2 with h0 | ⟨g, cap, cur, hv, hg, hh, r⟩
  · exact .inl h0
  · refine .inr ⟨g, cap, cur, hv, hg, hs.at hh fun hu => ?_, r⟩
    unfold Just at hu
    subst hu
    rw [hh] at hb
    cases hb
    exact he rfl
theorem LRows.just {w w' : World} {b : Nat} {cs : Array Value} {t0 : TypeId} (hb : w.heap[b]? = some (.cells cs t0 (0, 0))) (hs : Sav (Just b) w w') {B : Nat} {ls : List (List KV)} {u : Value} (h : LRows B ls u w) (h1 : 31 ≠ t0) (h2 : 53 ≠ t0) : LRows B ls u w' := by
  obtain ⟨vs, hv, hl⟩ := h
  refine ⟨vs, owns_just hb hs hv h1, fun j l hj => ?_⟩
  obtain ⟨x, hx, ho⟩ := hl j l hj
  exact ⟨x, hx, owns_just hb hs ho h2⟩
/-- Another chunk size and window, no marks. -/
def alikeJ (j : JobV) (c d : Int) : JobV := { j with chunk := c, window := d, marks := [] }
def alikeS (s : SlJ) : SlJ := { s with ko := none, kc := 0 }
theorem alike_whole (j : JobV) (c d : Int) : wholeD (alikeJ j c d) = wholeD j := rfl
theorem alike_may {j : JobV} {c d : Int} (h : mayJ j = true) (hc : 1 ≤ c ∧ c ≤ 7) (hd : 1 ≤ d ∧ d ≤ 4) : mayJ (alikeJ j c d) = true := by
  unfold mayJ at h ⊢
  simp only [Bool.and_eq_true] at h ⊢
  obtain ⟨⟨⟨⟨⟨⟨⟨⟨⟨⟨⟨⟨h1, h2⟩, h3⟩, h4⟩, h5⟩, h6⟩, h7⟩, h8⟩, h9⟩, h10⟩, h11⟩, h12⟩, h13⟩ := h
  refine ⟨⟨⟨⟨⟨⟨⟨⟨⟨⟨⟨⟨h1, h2⟩, h3⟩, h4⟩, h5⟩, h6⟩, h7⟩, h8⟩, inI_iff.2 hc⟩, inI_iff.2 hd⟩, h11⟩, ?_⟩, ?_⟩
  · simp [alikeJ]
  · simp [alikeJ, marksJ, risesI]
theorem alike_given {w : World} {s : SlJ} {j : JobV} {c d : Int} (G : Given w s j) (hc : 1 ≤ c ∧ c ≤ 7) (hd : 1 ≤ d ∧ d ≤ 4) : Given w (alikeS s) (alikeJ j c d) :=
  ⟨⟨G.job.sp, G.job.mp, G.job.cb, G.job.rd, is_nilO w⟩, ⟨G.fit.mp, G.fit.cb, G.fit.rd, G.fit.parts, (show I64 c from i64_small (by omega) (by omega)), (show I64 d from i64_small (by omega) (by omega)), G.fit.fuel⟩, alike_may G.may hc hd, G.tabs⟩
/-- More fuel. -/
def fuelJ (j : JobV) (f : Int) : JobV := { j with fuel := f }
theorem fuel_may {j : JobV} {f : Int} (h : mayJ j = true) (hf : 1 ≤ f ∧ f ≤ 2000) : mayJ (fuelJ j f) = true := by
  unfold mayJ at h ⊢
  simp only [Bool.and_eq_true] at h ⊢
  obtain ⟨⟨⟨⟨⟨⟨⟨⟨⟨⟨⟨⟨h1, h2⟩, h3⟩, h4⟩, h5⟩, h6⟩, h7⟩, h8⟩, h9⟩, h10⟩, h11⟩, h12⟩, h13⟩ := h
  exact ⟨⟨⟨⟨⟨⟨⟨⟨⟨⟨⟨⟨h1, h2⟩, h3⟩, h4⟩, h5⟩, h6⟩, h7⟩, h8⟩, h9⟩, h10⟩, inI_iff.2 hf⟩, h12⟩, h13⟩
theorem fuel_given {w : World} {s : SlJ} {j : JobV} {f : Int} (G : Given w s j) (hf : 1 ≤ f ∧ f ≤ 2000) : Given w s (fuelJ j f) :=
  ⟨⟨G.job.sp, G.job.mp, G.job.cb, G.job.rd, G.job.mks⟩, ⟨G.fit.mp, G.fit.cb, G.fit.rd, G.fit.parts, G.fit.chunk, G.fit.window, (show I64 f from i64_small (by omega) (by omega))⟩, fuel_may G.may hf, G.tabs⟩
theorem fuel_whole {j : JobV} {f : Int} (M : MayIs j) (hf : j.fuel ≤ f) (h2 : f ≤ 2000) (h : (wholeD j).2.1 = 0) : wholeD (fuelJ j f) = wholeD j :=
  whole_more M.mp M.cb M.rd (by have := M.f1; omega) hf h2 h
/-- Another combine. -/
def combJ (j : JobV) (l : List Inst) : JobV := { j with cb := l }
theorem comb_may {j : JobV} {l : List Inst} (h : mayJ j = true) (hl : bad l < 0) : mayJ (combJ j l) = true := by
  unfold mayJ at h ⊢
  simp only [Bool.and_eq_true] at h ⊢
  obtain ⟨⟨⟨⟨⟨⟨⟨⟨⟨⟨⟨⟨h1, h2⟩, h3⟩, h4⟩, h5⟩, h6⟩, h7⟩, h8⟩, h9⟩, h10⟩, h11⟩, h12⟩, h13⟩ := h
  exact ⟨⟨⟨⟨⟨⟨⟨⟨⟨⟨⟨⟨h1, h2⟩, h3⟩, h4⟩, h5⟩, decide_eq_true hl⟩, h7⟩, h8⟩, h9⟩, h10⟩, h11⟩, h12⟩, h13⟩
def combS (s : SlJ) (co : Option Addr) (cc : Nat) : SlJ := { s with co := co, cc := cc }
theorem comb_given {w : World} {s : SlJ} {j : JobV} (G : Given w s j) {co : Option Addr} {cc : Nat} {l : List Inst} (hl : bad l < 0) (hn : ∀ x ∈ l, I64 x.2.1) (hc : Co w (.slice co l.length cc) l) : Given w (combS s co cc) (combJ j l) :=
  ⟨⟨G.job.sp, G.job.mp, hc, G.job.rd, G.job.mks⟩, ⟨G.fit.mp, hn, G.fit.rd, G.fit.parts, G.fit.chunk, G.fit.window, G.fit.fuel⟩, comb_may G.may hl, G.tabs⟩
/-- With as much fuel as there is, the two come to the same. -/
theorem plain_split {j : JobV} (F : JobFit j) (l : List KV) : splitL (combJ (fuelJ j 2000) tellP).mp (combJ (fuelJ j 2000) tellP).cb (combJ (fuelJ j 2000) tellP).fuel l = splitL (combJ (fuelJ j 2000) []).mp (combJ (fuelJ j 2000) []).cb (combJ (fuelJ j 2000) []).fuel l := splitL_tell F.mp l
theorem plain_whole {j : JobV} (F : JobFit j) : wholeD (combJ (fuelJ j 2000) tellP) = wholeD (combJ (fuelJ j 2000) []) := whole_tell F.mp j.parts.toNat j.splits
/-- Two copies of a job that lies boxed. -/
structure Copies (w : World) (A P Q : Nat) (o : Obj) (w' : World) : Prop where
  below : Below w.heap.size w w'
  a : w'.heap[A]? = some o
  p : w'.heap[P]? = some o
  q : w'.heap[Q]? = some o
  pq : P ≠ Q
  ap : A ≠ P
  aq : A ≠ Q
  old : w.heap.size ≤ P ∧ w.heap.size ≤ Q
theorem copies_new {w w' : World} {A : Nat} {cs : Array Value} {t : TypeId} (hb : Below w.heap.size w w') (ha : w'.heap[A]? = some (.cells cs t (0, 0))) :
    Copies w A w'.heap.size (w'.heap.size + 1) (.cells cs t (0, 0)) ((w'.alloc (.cells cs t)).alloc (.cells cs t)).drew ∧ Copies w A (w'.heap.size + 1) w'.heap.size (.cells cs t (0, 0)) ((w'.alloc (.cells cs t)).alloc (.cells cs t)).drew := by
  have hA := lt_of_block ha
  have b1 := alloc_oneC w' (.cells cs t)
  have b2 := below_then hb (b1.trans ((alloc_oneC (w'.alloc (.cells cs t)) (.cells cs t)).mono b1.size)) hb.size
  have n1 := ((Sav.refl Non (w'.alloc (.cells cs t))).alloc (.cells cs t)).at (new_block w' (.cells cs t)) (fun h => h)
  have n2 := new_block (w'.alloc (.cells cs t)) (.cells cs t)
  rw [show (w'.alloc (.cells cs t)).heap.size = w'.heap.size + 1 by simp] at n2
  have n0 := ((((Sav.refl Non w').alloc (.cells cs t)).alloc (.cells cs t)).at ha (fun h => h))
  have hz := hb.size
  have b3 : Below w.heap.size w ((w'.alloc (.cells cs t)).alloc (.cells cs t)).drew := ⟨b2.os, b2.tape, b2.output, b2.size, b2.block⟩
  exact ⟨⟨b3, n0, n1, n2, by omega, by omega, by omega, by omega, by omega⟩, ⟨b3, n0, n2, n1, by omega, by omega, by omega, by omega, by omega⟩⟩
theorem tellP_nums : ∀ x ∈ tellP, I64 x.2.1 := by intro x hx; simp only [tellP, List.mem_cons, List.mem_nil_iff, or_false] at hx; rcases hx with rfl | rfl | rfl | rfl | rfl | rfl | rfl | rfl <;> exact i64_small (by simp) (by simp)
theorem co_made_just (l : List Inst) (w : World) (hl : l.length ≤ 100) {Q : Nat} {cs : Array Value} {w' : World} (hQ : (w.alloc (.cells (icl l).toArray 41)).heap[Q]? = some (.cells cs 26 (0, 0))) (hs : Sav (Just Q) (w.alloc (.cells (icl l).toArray 41)) w') : Co w' (.slice (some ⟨w.heap.size, 0, none⟩) l.length l.length) l := by
  have h : (w.alloc (.cells (icl l).toArray 41)).ownsRow w.heap.size 41 3 (.slice (some ⟨w.heap.size, 0, none⟩) l.length l.length) l.length (icl l) :=
    ⟨icl_length l, .inr ⟨w.heap.size, l.length, (icl l).toArray, rfl, Nat.le_refl _, new_block _ _, Nat.le_refl _, by unfold maxLen; omega, by rw [List.size_toArray, icl_length], by rw [List.toList_toArray]; exact List.take_of_length_le (by rw [icl_length]; omega)⟩⟩
  exact Co.own (owns_just hQ hs h (by decide))
/-- GreatJob or not May: awake alone is asked. -/
theorem false_of_may {j : JobV} (h : ¬ mayJ j = true) : mayJ j = false := by simpa using h
end Go.Proofs.YtcahfnjhcngceaaGreatDoor
