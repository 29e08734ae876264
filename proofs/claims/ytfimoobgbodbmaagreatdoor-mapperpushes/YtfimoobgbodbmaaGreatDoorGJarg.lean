/- Laid together: IntsArg JArg JIn. -/
import Derived.Test.YtfimoobgbodbmaaGreatDoorGJob
import Derived.Test.YtfimoobgbodbmaaGreatDoorGArg
import Derived.Laws.BitsAllLaws
import Derived.Test.YtfimoobgbodbmaaGreatDoorVArg
/-! A slice of whole numbers that came in; Low. -/
namespace Go.Proofs.YtfimoobgbodbmaaGreatDoor
open Go.RowKit
set_option linter.unusedVariables false
set_option maxRecDepth 100000
theorem opens_ints : Opens Tryz.prog 24 1 (rSlice 1 (rInt .i64)) := opens_slice Tryz.underlying24 (by kernel_rfl) (by decide) (opens_int Tryz.underlying3)
theorem Is.arg {w : World} {v : Value} {l : List Int} (h : rSlice 1 (rInt .i64) w [v] l) : Is w v l ∧ ∀ j, j < l.length → (Lit.int .i64 (l.getD j 0)).wf = true := by
  obtain ⟨ao, cap, hv, h1, h2, h3, h4⟩ := h
  have hcell : ∀ j, j < l.length → ∀ b off, (∀ (j : Nat) (a : Int), l[j]? = some a → ∃ ds : List Value, ds.length = 1 ∧ rInt .i64 w ds a ∧ ∀ (k : Nat) (u : Value), ds[k]? = some u → w.cell? ⟨b, off + j * 1 + k, none⟩ = some u) → w.cell? ⟨b, off + j, none⟩ = some (.int .i64 (l.getD j 0)) ∧ (Lit.int .i64 (l.getD j 0)).wf = true := by
    intro j hj b off hc
    obtain ⟨ds, _, ⟨rfl, hw⟩, hu⟩ := hc j l[j] (List.getElem?_eq_getElem hj)
    have := hu 0 _ rfl
    rw [Nat.mul_one, Nat.add_zero] at this
    simp only [List.getD, List.getElem?_eq_getElem hj, Option.getD_some]
    exact ⟨this, hw⟩
  refine ⟨⟨ao, cap, by simpa using hv, h1, h2, h3, fun hl => ?_⟩, fun j hj => ?_⟩
  · obtain ⟨b, off, rfl, hlt, hc⟩ := h4 hl
    exact ⟨b, off, rfl, hlt, fun j hj => (hcell j hj b off hc).1⟩
  · obtain ⟨b, off, _, _, hc⟩ := h4 (by intro e; rw [e] at hj; simp at hj)
    exact (hcell j hj b off hc).2

end Go.Proofs.YtfimoobgbodbmaaGreatDoor
/-! Jobs and configurations as they come in; a configuration that is held in a cell. -/
namespace Go.Proofs.YtfimoobgbodbmaaGreatDoor
open Go.RowKit
set_option linter.unusedVariables false
set_option maxRecDepth 100000

abbrev rJob := rPair 1 (rSlice 1 (rSlice 2 rPr)) (rPair 1 (rInt .i64) (rPair 1 (rSlice 3 rIns) (rPair 1 (rSlice 3 rIns) (rPair 1 (rSlice 3 rIns) (rPair 1 (rInt .i64) (rPair 1 (rInt .i64) (rPair 1 (rInt .i64) (rSlice 1 (rInt .i64)))))))))
theorem opens_job : Opens Tryz.prog 26 9 rJob :=
  opens_struct Tryz.underlying26 (by kernel_rfl) (opensF_cons rfl (by kernel_rfl) opens_lists (opensF_cons rfl (by kernel_rfl) (opens_int Tryz.underlying3) (opensF_cons rfl (by kernel_rfl) opens_code (opensF_cons rfl (by kernel_rfl) opens_code (opensF_cons rfl (by kernel_rfl) opens_code (opensF_cons rfl (by kernel_rfl) (opens_int Tryz.underlying3) (opensF_cons rfl (by kernel_rfl) (opens_int Tryz.underlying3) (opensF_cons rfl (by kernel_rfl) (opens_int Tryz.underlying3) (opensF_last rfl (by kernel_rfl) rfl opens_ints)))))))))
abbrev rCfg := rPair 9 rJob (rPair 1 (rInt .i64) (rPair 1 (rInt .i64) (rInt .i64)))
theorem opens_cfg : Opens Tryz.prog 28 12 rCfg :=
  opens_struct Tryz.underlying28 (by kernel_rfl) (opensF_cons rfl (by kernel_rfl) opens_job (opensF_cons rfl (by kernel_rfl) (opens_int Tryz.underlying3) (opensF_cons rfl (by kernel_rfl) (opens_int Tryz.underlying3) (opensF_last rfl (by kernel_rfl) rfl (opens_int Tryz.underlying3)))))
theorem Co.form {w : World} {v : Value} {l : List Inst} (h : Co w v l) : ∃ ao cap, v = .slice ao l.length cap := by
  obtain ⟨ao, cap, e, _⟩ := h
  exact ⟨ao, cap, e⟩
theorem Is.form {w : World} {v : Value} {l : List Int} (h : Is w v l) : ∃ ao cap, v = .slice ao l.length cap := by
  obtain ⟨ao, cap, e, _⟩ := h
  exact ⟨ao, cap, e⟩
theorem cfg_arg {w : World} {cs : Array Value} {a} (hs : cs.size = 12) (h : rCfg w cs.toList a) :
    ∃ (c : CfgV) (so mo co ro ko : Option Addr) (sc mc cc rc kc : Nat), cs = #[.slice so c.job.splits.length sc, .int .i64 c.job.parts, .slice mo c.job.mp.length mc, .slice co c.job.cb.length cc, .slice ro c.job.rd.length rc, .int .i64 c.job.chunk, .int .i64 c.job.window, .int .i64 c.job.fuel, .slice ko c.job.marks.length kc, .int .i64 c.workers, .int .i64 c.tries, .int .i64 c.timeout] ∧ JobIs w so mo co ro ko sc mc cc rc kc c.job := by
  obtain ⟨l, rfl⟩ : ∃ l : List Value, cs = l.toArray := ⟨cs.toList, by simp⟩
  simp only [List.size_toArray] at hs
  match l, hs with
  | [x0, x1, x2, x3, x4, x5, x6, x7, x8, x9, x10, x11], _ =>
    obtain ⟨⟨a0, a1, a2, a3, a4, a5, a6, a7, a8⟩, a9, a10, a11⟩ := a
    obtain ⟨⟨h0, h1, h2, h3, h4, h5, h6, h7, h8⟩, h9, h10, h11⟩ := h
    have k0 : Lis w x0 a0 := Lis.arg h0
    have k2 : Co w x2 a2 := Co.arg h2
    have k3 : Co w x3 a3 := Co.arg h3
    have k4 : Co w x4 a4 := Co.arg h4
    have k8 : Is w x8 a8 := (Is.arg h8).1
    have e1 : x1 = .int .i64 a1 := by simpa [rInt] using h1.1
    have e5 : x5 = .int .i64 a5 := by simpa [rInt] using h5.1
    have e6 : x6 = .int .i64 a6 := by simpa [rInt] using h6.1
    have e7 : x7 = .int .i64 a7 := by simpa [rInt] using h7.1
    have e9 : x9 = .int .i64 a9 := by simpa [rInt] using h9.1
    have e10 : x10 = .int .i64 a10 := by simpa [rInt] using h10.1
    have e11 : x11 = .int .i64 a11 := by simpa [rInt] using h11.1
    obtain ⟨so, sc, e0, -⟩ := k0.slice
    obtain ⟨mo, mc, e2⟩ := k2.form
    obtain ⟨co, cc, e3⟩ := k3.form
    obtain ⟨ro, rc, e4⟩ := k4.form
    obtain ⟨ko, kc, e8⟩ := k8.form
    subst e0 e1 e2 e3 e4 e5 e6 e7 e8 e9 e10 e11
    exact ⟨⟨⟨a0, a1, a2, a3, a4, a5, a6, a7, a8⟩, a9, a10, a11⟩, so, mo, co, ro, ko, sc, mc, cc, rc, kc, rfl, ⟨k0, k2, k3, k4, k8⟩⟩
/-- A configuration that lies at A, in a world behind w. -/
structure Hj (w : World) (A : Nat) (so mo co ro ko : Option Addr) (sc mc cc rc kc : Nat) (c : CfgV) (w' : World) : Prop where
  below : Below w.heap.size w w'
  la : A < w'.heap.size
  job : JobIs w' so mo co ro ko sc mc cc rc kc c.job
  eqs : w'.cell? ⟨A, 0, none⟩ = some (.slice so c.job.splits.length sc) ∧ w'.cell? ⟨A, 1, none⟩ = some (.int .i64 c.job.parts) ∧ w'.cell? ⟨A, 2, none⟩ = some (.slice mo c.job.mp.length mc) ∧ w'.cell? ⟨A, 3, none⟩ = some (.slice co c.job.cb.length cc) ∧ w'.cell? ⟨A, 4, none⟩ = some (.slice ro c.job.rd.length rc) ∧ w'.cell? ⟨A, 5, none⟩ = some (.int .i64 c.job.chunk) ∧ w'.cell? ⟨A, 6, none⟩ = some (.int .i64 c.job.window) ∧ w'.cell? ⟨A, 7, none⟩ = some (.int .i64 c.job.fuel) ∧ w'.cell? ⟨A, 8, none⟩ = some (.slice ko c.job.marks.length kc) ∧ w'.cell? ⟨A, 9, none⟩ = some (.int .i64 c.workers) ∧ w'.cell? ⟨A, 10, none⟩ = some (.int .i64 c.tries) ∧ w'.cell? ⟨A, 11, none⟩ = some (.int .i64 c.timeout)
theorem Hj.on {w : World} {A : Nat} {so mo co ro ko : Option Addr} {sc mc cc rc kc : Nat} {c : CfgV} {w1 w2 : World} (h : Hj w A so mo co ro ko sc mc cc rc kc c w1) (hb : Below w1.heap.size w1 w2) : Hj w A so mo co ro ko sc mc cc rc kc c w2 := by
  obtain ⟨h1, h2, h3, h4⟩ := h
  refine ⟨below_then h1 hb h1.size, Nat.lt_of_lt_of_le h2 hb.size, h3.below hb, ?_⟩
  obtain ⟨c0, c1, c2, c3, c4, c5, c6, c7, c8, c9, c10, c11⟩ := h4
  exact ⟨(hb.cell (p := ⟨A, 0, none⟩) h2).trans c0, (hb.cell (p := ⟨A, 1, none⟩) h2).trans c1, (hb.cell (p := ⟨A, 2, none⟩) h2).trans c2, (hb.cell (p := ⟨A, 3, none⟩) h2).trans c3, (hb.cell (p := ⟨A, 4, none⟩) h2).trans c4, (hb.cell (p := ⟨A, 5, none⟩) h2).trans c5, (hb.cell (p := ⟨A, 6, none⟩) h2).trans c6, (hb.cell (p := ⟨A, 7, none⟩) h2).trans c7, (hb.cell (p := ⟨A, 8, none⟩) h2).trans c8, (hb.cell (p := ⟨A, 9, none⟩) h2).trans c9, (hb.cell (p := ⟨A, 10, none⟩) h2).trans c10, (hb.cell (p := ⟨A, 11, none⟩) h2).trans c11⟩
theorem Hj.at {w : World} {A : Nat} {so mo co ro ko : Option Addr} {sc mc cc rc kc : Nat} {c : CfgV} {w' : World} (h1 : Below w.heap.size w w') (h2 : A < w'.heap.size) (h3 : JobIs w' so mo co ro ko sc mc cc rc kc c.job) (h4 : At w' A [.slice so c.job.splits.length sc, .int .i64 c.job.parts, .slice mo c.job.mp.length mc, .slice co c.job.cb.length cc, .slice ro c.job.rd.length rc, .int .i64 c.job.chunk, .int .i64 c.job.window, .int .i64 c.job.fuel, .slice ko c.job.marks.length kc, .int .i64 c.workers, .int .i64 c.tries, .int .i64 c.timeout]) : Hj w A so mo co ro ko sc mc cc rc kc c w' :=
  ⟨h1, h2, h3, ⟨h4 0 _ rfl, h4 1 _ rfl, h4 2 _ rfl, h4 3 _ rfl, h4 4 _ rfl, h4 5 _ rfl, h4 6 _ rfl, h4 7 _ rfl, h4 8 _ rfl, h4 9 _ rfl, h4 10 _ rfl, h4 11 _ rfl⟩⟩
/-- Just boxed. -/
theorem Hj.new (w : World) {so mo co ro ko : Option Addr} {sc mc cc rc kc : Nat} (c : CfgV) (h : JobIs w so mo co ro ko sc mc cc rc kc c.job) : Hj w w.heap.size so mo co ro ko sc mc cc rc kc c (w.alloc (.cells #[.slice so c.job.splits.length sc, .int .i64 c.job.parts, .slice mo c.job.mp.length mc, .slice co c.job.cb.length cc, .slice ro c.job.rd.length rc, .int .i64 c.job.chunk, .int .i64 c.job.window, .int .i64 c.job.fuel, .slice ko c.job.marks.length kc, .int .i64 c.workers, .int .i64 c.tries, .int .i64 c.timeout] 28)) :=
  Hj.at (alloc_one _ _) (by simp) (h.below (alloc_one _ _)) (At.new w #[.slice so c.job.splits.length sc, .int .i64 c.job.parts, .slice mo c.job.mp.length mc, .slice co c.job.cb.length cc, .slice ro c.job.rd.length rc, .int .i64 c.job.chunk, .int .i64 c.job.window, .int .i64 c.job.fuel, .slice ko c.job.marks.length kc, .int .i64 c.workers, .int .i64 c.tries, .int .i64 c.timeout] 28)
end Go.Proofs.YtfimoobgbodbmaaGreatDoor
/-! A job that comes in as an argument: its slices, and that its numbers are of 64 bits. -/
namespace Go.Proofs.YtfimoobgbodbmaaGreatDoor
open Go.RowKit Go.Lib
set_option linter.unusedVariables false
set_option maxRecDepth 100000

/-- A job's numbers are of 64 bits. -/
structure JobFit (j : JobV) : Prop where
  mp : ∀ x ∈ j.mp, I64 x.2.1
  cb : ∀ x ∈ j.cb, I64 x.2.1
  rd : ∀ x ∈ j.rd, I64 x.2.1
  parts : I64 j.parts
  chunk : I64 j.chunk
  window : I64 j.window
  fuel : I64 j.fuel
theorem job_arg {w : World} {cs : Array Value} {a} (hs : cs.size = 9) (h : rJob w cs.toList a) :
    ∃ (j : JobV) (so mo co ro ko : Option Addr) (sc mc cc rc kc : Nat), cs = #[.slice so j.splits.length sc, .int .i64 j.parts, .slice mo j.mp.length mc, .slice co j.cb.length cc, .slice ro j.rd.length rc, .int .i64 j.chunk, .int .i64 j.window, .int .i64 j.fuel, .slice ko j.marks.length kc] ∧ JobIs w so mo co ro ko sc mc cc rc kc j ∧ JobFit j := by
  obtain ⟨l, rfl⟩ : ∃ l : List Value, cs = l.toArray := ⟨cs.toList, by simp⟩
  simp only [List.size_toArray] at hs
  match l, hs with
  | [x0, x1, x2, x3, x4, x5, x6, x7, x8], _ =>
    obtain ⟨a0, a1, a2, a3, a4, a5, a6, a7, a8⟩ := a
    obtain ⟨h0, h1, h2, h3, h4, h5, h6, h7, h8⟩ := h
    have k0 : Lis w x0 a0 := Lis.arg h0
    have k2 : Co w x2 a2 := Co.arg h2
    have k3 : Co w x3 a3 := Co.arg h3
    have k4 : Co w x4 a4 := Co.arg h4
    have k8 : Is w x8 a8 := (Is.arg h8).1
    have n2 : ∀ x ∈ a2, I64 x.2.1 := code_nums (v := x2) h2
    have n3 : ∀ x ∈ a3, I64 x.2.1 := code_nums (v := x3) h3
    have n4 : ∀ x ∈ a4, I64 x.2.1 := code_nums (v := x4) h4
    have n1 : I64 a1 := wf_i64 h1.2
    have n5 : I64 a5 := wf_i64 h5.2
    have n6 : I64 a6 := wf_i64 h6.2
    have n7 : I64 a7 := wf_i64 h7.2
    have e1 : x1 = .int .i64 a1 := by simpa [rInt] using h1.1
    have e5 : x5 = .int .i64 a5 := by simpa [rInt] using h5.1
    have e6 : x6 = .int .i64 a6 := by simpa [rInt] using h6.1
    have e7 : x7 = .int .i64 a7 := by simpa [rInt] using h7.1
    obtain ⟨so, sc, e0, -⟩ := k0.slice
    obtain ⟨mo, mc, e2⟩ := k2.form
    obtain ⟨co, cc, e3⟩ := k3.form
    obtain ⟨ro, rc, e4⟩ := k4.form
    obtain ⟨ko, kc, e8⟩ := k8.form
    subst e0 e1 e2 e3 e4 e5 e6 e7 e8
    exact ⟨⟨a0, a1, a2, a3, a4, a5, a6, a7, a8⟩, so, mo, co, ro, ko, sc, mc, cc, rc, kc, rfl, ⟨k0, k2, k3, k4, k8⟩, ⟨n2, n3, n4, n1, n5, n6, n7⟩⟩
end Go.Proofs.YtfimoobgbodbmaaGreatDoor
