/- A slice of two letters is built: one operation, its run known. -/
import Derived.Test.YtocedfagfmkgdaaLtTwo
import Derived.Test.YtocedfagfmkgdaaNewStruct
namespace Go.Proofs.Ytocedfagfmkgdaa
open Go.RowKit
set_option linter.unusedVariables false

set_option maxHeartbeats 4000000 in
set_option maxRecDepth 100000 in
theorem run_two (x y : LetX) (w : World) : (Instr.buildSlice 28 2 #[(0, .agg #[.int .i64 x.r.from_, .int .i64 x.r.to_, .int .i64 x.r.kind, .int .i64 x.r.split, .int .i64 x.r.attempt, .int .i64 x.r.part, .int .i64 x.r.seq, .int .i64 x.r.next, .int .i64 x.r.epoch, .int .i64 x.r.reason, .slice x.so x.r.set.length x.sc, .slice x.po x.r.prs.length x.pc]), (1, .agg #[.int .i64 y.r.from_, .int .i64 y.r.to_, .int .i64 y.r.kind, .int .i64 y.r.split, .int .i64 y.r.attempt, .int .i64 y.r.part, .int .i64 y.r.seq, .int .i64 y.r.next, .int .i64 y.r.epoch, .int .i64 y.r.reason, .slice y.so y.r.set.length y.sc, .slice y.po y.r.prs.length y.pc])]).run Try.prog w = .ok (.slice (some ⟨w.heap.size, 0, none⟩) 2 2) (w.alloc (.cells (twoCs x y) 36)) := by
  unfold twoCs encL
  go_simp
theorem wp_build2 {o : Oper} {a : Act} {w : World} {K : Act → World → Prop} {Q : Exit → Act → World → Prop} (d : Nat) (hd : o.dst = some d) (s1 s2 : Operand) (ho : o.op = .buildSlice 28 2 #[(0, s1), (1, s2)]) (x y : LetX) (h1 : a.eval s1 = .agg #[.int .i64 x.r.from_, .int .i64 x.r.to_, .int .i64 x.r.kind, .int .i64 x.r.split, .int .i64 x.r.attempt, .int .i64 x.r.part, .int .i64 x.r.seq, .int .i64 x.r.next, .int .i64 x.r.epoch, .int .i64 x.r.reason, .slice x.so x.r.set.length x.sc, .slice x.po x.r.prs.length x.pc]) (h2 : a.eval s2 = .agg #[.int .i64 y.r.from_, .int .i64 y.r.to_, .int .i64 y.r.kind, .int .i64 y.r.split, .int .i64 y.r.attempt, .int .i64 y.r.part, .int .i64 y.r.seq, .int .i64 y.r.next, .int .i64 y.r.epoch, .int .i64 y.r.reason, .slice y.so y.r.set.length y.sc, .slice y.po y.r.prs.length y.pc])
    (h : K (a.put (some d) (.slice (some ⟨w.heap.size, 0, none⟩) 2 2)) (w.alloc (.cells (twoCs x y) 36))) : Oper.wp Try.prog o a w K Q := by
  have hr : (execOp a.eval o).run Try.prog w = .ok (.value (.slice (some ⟨w.heap.size, 0, none⟩) 2 2)) (w.alloc (.cells (twoCs x y) 36)) := by
    unfold execOp
    simp only [ho, List.map_toArray, List.map_cons, List.map_nil, h1, h2, Sem.run_bind, run_two, Result.andThen_ok, Sem.run_pure]
  unfold Oper.wp
  rw [hr]
  simp only [Oper.upon, hd]
  exact h
theorem run_one (x : LetX) (w : World) : (Instr.buildSlice 28 1 #[(0, .agg (encL x).toArray)]).run Try.prog w = .ok (.slice (some ⟨w.heap.size, 0, none⟩) 1 1) (w.alloc (.cells (encL x).toArray 36)) := by
  unfold encL
  go_simp
theorem wpList_build1 {ops : Array Oper} {rest : List Oper} {o : Oper} {a : Act} {w : World} {Q : Exit → Act → World → Prop} (hg : o.guard = none) (d : Nat) (hd : o.dst = some d) (s1 : Operand) (ho : o.op = .buildSlice 28 1 #[(0, s1)]) (x : LetX) (h1 : a.eval s1 = .agg (encL x).toArray)
    (h : wpList Try.prog ops Q rest (a.put (some d) (.slice (some ⟨w.heap.size, 0, none⟩) 1 1)) (w.alloc (.cells (encL x).toArray 36))) : wpList Try.prog ops Q (o :: rest) a w := by
  refine wpList_ran hg d hd _ _ ?_ h
  unfold execOp
  simp only [ho, List.map_toArray, List.map_cons, List.map_nil, h1, Sem.run_bind, run_one, Result.andThen_ok, Sem.run_pure]
theorem range_box {b : Nat} {x : LetX} {w : World} (h : w.heap[b]? = some (.cells (encL x).toArray 36 (0, 0))) : w.rangeAt b 0 (encL x) := fun j v hj => by
  rw [Nat.zero_add, cell_of_cells h]
  simpa using hj
theorem info_letter (x : LetX) : (Try.prog.info? 36).map (·.size) = some (encL x).length := by rw [encL_len]; kernel_rfl
end Go.Proofs.Ytocedfagfmkgdaa
