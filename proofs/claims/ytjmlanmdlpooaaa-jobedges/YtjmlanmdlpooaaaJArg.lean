/- Jobs and configurations as they come in; a configuration that is held in a cell. -/
import Derived.Test.YtjmlanmdlpooaaaJHome
import Derived.Test.YtjmlanmdlpooaaaJRef
import Derived.Test.YtjmlanmdlpooaaaJGreat
import Derived.Test.YtjmlanmdlpooaaaJAwake
import Derived.Test.YtjmlanmdlpooaaaPArg
import Derived.Test.YtjmlanmdlpooaaaIntsArg
namespace Go.Proofs.Ytjmlanmdlpooaaa
open Go.RowKit
set_option linter.unusedVariables false

abbrev rJob := rPair 1 (rSlice 1 (rSlice 2 rPr)) (rPair 1 (rInt .i64) (rPair 1 (rSlice 3 rIns) (rPair 1 (rSlice 3 rIns) (rPair 1 (rSlice 3 rIns) (rPair 1 (rInt .i64) (rPair 1 (rInt .i64) (rPair 1 (rInt .i64) (rSlice 1 (rInt .i64)))))))))
theorem opens_job : Opens Try.prog 26 9 rJob :=
  opens_struct Try.underlying26 (by kernel_rfl) (opensF_cons rfl (by kernel_rfl) opens_lists (opensF_cons rfl (by kernel_rfl) (opens_int Try.underlying3) (opensF_cons rfl (by kernel_rfl) opens_code (opensF_cons rfl (by kernel_rfl) opens_code (opensF_cons rfl (by kernel_rfl) opens_code (opensF_cons rfl (by kernel_rfl) (opens_int Try.underlying3) (opensF_cons rfl (by kernel_rfl) (opens_int Try.underlying3) (opensF_cons rfl (by kernel_rfl) (opens_int Try.underlying3) (opensF_last rfl (by kernel_rfl) rfl opens_ints)))))))))
abbrev rCfg := rPair 9 rJob (rPair 1 (rInt .i64) (rPair 1 (rInt .i64) (rInt .i64)))
theorem opens_cfg : Opens Try.prog 28 12 rCfg :=
  opens_struct Try.underlying28 (by kernel_rfl) (opensF_cons rfl (by kernel_rfl) opens_job (opensF_cons rfl (by kernel_rfl) (opens_int Try.underlying3) (opensF_cons rfl (by kernel_rfl) (opens_int Try.underlying3) (opensF_last rfl (by kernel_rfl) rfl (opens_int Try.underlying3)))))
theorem Co.form {w : World} {v : Value} {l : List Inst} (h : Co w v l) : ∃ ao cap, v = .slice ao l.length cap := by
  obtain ⟨ao, cap, e, _⟩ := h
  exact ⟨ao, cap, e⟩
theorem Is.form {w : World} {v : Value} {l : List Int} (h : Is w v l) : ∃ ao cap, v = .slice ao l.length cap := by
  obtain ⟨ao, cap, e, _⟩ := h
  exact ⟨ao, cap, e⟩
theorem cfg_arg {w : World} {cs : Array Value} {a} (hs : cs.size = 12) (h : rCfg w cs.toList a) :
    ∃ (c : CfgV) (so mo co ro ko : Option Addr) (sc mc cc rc kc : Nat), cs = #[.slice so c.job.splits.length sc, .int .i64 c.job.parts, .slice mo c.job.mp.length mc, .slice co c.job.cb.length cc, .slice ro c.job.rd.length rc, .int .i64 c.job.chunk, .int .i64 c.job.window, .int .i64 c.job.fuel, .slice ko c.job.marks.length kc, .int .i64 c.workers, .int .i64 c.tries, .int .i64 c.timeout] ∧ JobIs w so mo co ro ko sc mc cc rc kc c.job := by
  obtain ⟨l, rfl⟩ : ∃ l : List Value, cs = l.toArray := ⟨cs.toList, by simp⟩
  simp only [List.size_toArray] at hs
  match l, hs with
  | [x0, x1, x2, x3, x4, x5, x6, x7, x8, x9, x10, x11], _ =>
    obtain ⟨⟨a0, a1, a2, a3, a4, a5, a6, a7, a8⟩, a9, a10, a11⟩ := a
    obtain ⟨⟨h0, h1, h2, h3, h4, h5, h6, h7, h8⟩, h9, h10, h11⟩ := h
    have k0 : Lis w x0 a0 := Lis.arg h0
    have k2 : Co w x2 a2 := Co.arg h2
    have k3 : Co w x3 a3 := Co.arg h3
    have k4 : Co w x4 a4 := Co.arg h4
    have k8 : Is w x8 a8 := (Is.arg h8).1
    have e1 : x1 = .int .i64 a1 := by simpa [rInt] using h1.1
    have e5 : x5 = .int .i64 a5 := by simpa [rInt] using h5.1
    have e6 : x6 = .int .i64 a6 := by simpa [rInt] using h6.1
    have e7 : x7 = .int .i64 a7 := by simpa [rInt] using h7.1
    have e9 : x9 = .int .i64 a9 := by simpa [rInt] using h9.1
    have e10 : x10 = .int .i64 a10 := by simpa [rInt] using h10.1
    have e11 : x11 = .int .i64 a11 := by simpa [rInt] using h11.1
    obtain ⟨so, sc, e0, -⟩ := k0.slice
    obtain ⟨mo, mc, e2⟩ := k2.form
    obtain ⟨co, cc, e3⟩ := k3.form
    obtain ⟨ro, rc, e4⟩ := k4.form
    obtain ⟨ko, kc, e8⟩ := k8.form
    subst e0 e1 e2 e3 e4 e5 e6 e7 e8 e9 e10 e11
    exact ⟨⟨⟨a0, a1, a2, a3, a4, a5, a6, a7, a8⟩, a9, a10, a11⟩, so, mo, co, ro, ko, sc, mc, cc, rc, kc, rfl, ⟨k0, k2, k3, k4, k8⟩⟩
/-- A configuration that lies at A, in a world behind w. -/
structure Hj (w : World) (A : Nat) (so mo co ro ko : Option Addr) (sc mc cc rc kc : Nat) (c : CfgV) (w' : World) : Prop where
  below : Below w.heap.size w w'
  la : A < w'.heap.size
  job : JobIs w' so mo co ro ko sc mc cc rc kc c.job
  eqs : w'.cell? ⟨A, 0, none⟩ = some (.slice so c.job.splits.length sc) ∧ w'.cell? ⟨A, 1, none⟩ = some (.int .i64 c.job.parts) ∧ w'.cell? ⟨A, 2, none⟩ = some (.slice mo c.job.mp.length mc) ∧ w'.cell? ⟨A, 3, none⟩ = some (.slice co c.job.cb.length cc) ∧ w'.cell? ⟨A, 4, none⟩ = some (.slice ro c.job.rd.length rc) ∧ w'.cell? ⟨A, 5, none⟩ = some (.int .i64 c.job.chunk) ∧ w'.cell? ⟨A, 6, none⟩ = some (.int .i64 c.job.window) ∧ w'.cell? ⟨A, 7, none⟩ = some (.int .i64 c.job.fuel) ∧ w'.cell? ⟨A, 8, none⟩ = some (.slice ko c.job.marks.length kc) ∧ w'.cell? ⟨A, 9, none⟩ = some (.int .i64 c.workers) ∧ w'.cell? ⟨A, 10, none⟩ = some (.int .i64 c.tries) ∧ w'.cell? ⟨A, 11, none⟩ = some (.int .i64 c.timeout)
theorem Hj.on {w : World} {A : Nat} {so mo co ro ko : Option Addr} {sc mc cc rc kc : Nat} {c : CfgV} {w1 w2 : World} (h : Hj w A so mo co ro ko sc mc cc rc kc c w1) (hb : Below w1.heap.size w1 w2) : Hj w A so mo co ro ko sc mc cc rc kc c w2 := by
  obtain ⟨h1, h2, h3, h4⟩ := h
  refine ⟨below_then h1 hb h1.size, Nat.lt_of_lt_of_le h2 hb.size, h3.below hb, ?_⟩
  obtain ⟨c0, c1, c2, c3, c4, c5, c6, c7, c8, c9, c10, c11⟩ := h4
  exact ⟨(hb.cell (p := ⟨A, 0, none⟩) h2).trans c0, (hb.cell (p := ⟨A, 1, none⟩) h2).trans c1, (hb.cell (p := ⟨A, 2, none⟩) h2).trans c2, (hb.cell (p := ⟨A, 3, none⟩) h2).trans c3, (hb.cell (p := ⟨A, 4, none⟩) h2).trans c4, (hb.cell (p := ⟨A, 5, none⟩) h2).trans c5, (hb.cell (p := ⟨A, 6, none⟩) h2).trans c6, (hb.cell (p := ⟨A, 7, none⟩) h2).trans c7, (hb.cell (p := ⟨A, 8, none⟩) h2).trans c8, (hb.cell (p := ⟨A, 9, none⟩) h2).trans c9, (hb.cell (p := ⟨A, 10, none⟩) h2).trans c10, (hb.cell (p := ⟨A, 11, none⟩) h2).trans c11⟩
theorem Hj.at {w : World} {A : Nat} {so mo co ro ko : Option Addr} {sc mc cc rc kc : Nat} {c : CfgV} {w' : World} (h1 : Below w.heap.size w w') (h2 : A < w'.heap.size) (h3 : JobIs w' so mo co ro ko sc mc cc rc kc c.job) (h4 : At w' A [.slice so c.job.splits.length sc, .int .i64 c.job.parts, .slice mo c.job.mp.length mc, .slice co c.job.cb.length cc, .slice ro c.job.rd.length rc, .int .i64 c.job.chunk, .int .i64 c.job.window, .int .i64 c.job.fuel, .slice ko c.job.marks.length kc, .int .i64 c.workers, .int .i64 c.tries, .int .i64 c.timeout]) : Hj w A so mo co ro ko sc mc cc rc kc c w' :=
  ⟨h1, h2, h3, ⟨h4 0 _ rfl, h4 1 _ rfl, h4 2 _ rfl, h4 3 _ rfl, h4 4 _ rfl, h4 5 _ rfl, h4 6 _ rfl, h4 7 _ rfl, h4 8 _ rfl, h4 9 _ rfl, h4 10 _ rfl, h4 11 _ rfl⟩⟩
/-- Just boxed. -/
theorem Hj.new (w : World) {so mo co ro ko : Option Addr} {sc mc cc rc kc : Nat} (c : CfgV) (h : JobIs w so mo co ro ko sc mc cc rc kc c.job) : Hj w w.heap.size so mo co ro ko sc mc cc rc kc c (w.alloc (.cells #[.slice so c.job.splits.length sc, .int .i64 c.job.parts, .slice mo c.job.mp.length mc, .slice co c.job.cb.length cc, .slice ro c.job.rd.length rc, .int .i64 c.job.chunk, .int .i64 c.job.window, .int .i64 c.job.fuel, .slice ko c.job.marks.length kc, .int .i64 c.workers, .int .i64 c.tries, .int .i64 c.timeout] 28)) :=
  Hj.at (alloc_one _ _) (by simp) (h.below (alloc_one _ _)) (At.new w #[.slice so c.job.splits.length sc, .int .i64 c.job.parts, .slice mo c.job.mp.length mc, .slice co c.job.cb.length cc, .slice ro c.job.rd.length rc, .int .i64 c.job.chunk, .int .i64 c.job.window, .int .i64 c.job.fuel, .slice ko c.job.marks.length kc, .int .i64 c.workers, .int .i64 c.tries, .int .i64 c.timeout] 28)
end Go.Proofs.Ytjmlanmdlpooaaa
