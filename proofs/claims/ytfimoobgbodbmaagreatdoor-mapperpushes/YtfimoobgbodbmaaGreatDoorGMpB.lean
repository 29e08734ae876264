/- Laid together: StStep MpMake MpOut MpOnce MpOut2. -/
import Derived.Test.YtfimoobgbodbmaaGreatDoorGWn
import Derived.Test.YtfimoobgbodbmaaGreatDoorAppAny
import Derived.Test.YtfimoobgbodbmaaGreatDoorLPairs
import Derived.Test.YtfimoobgbodbmaaGreatDoorGOb
import Derived.Test.YtfimoobgbodbmaaGreatDoorGMpA
import Derived.Test.YtfimoobgbodbmaaGreatDoorGC
import Derived.Test.YtfimoobgbodbmaaGreatDoorGQ
import Derived.Test.YtfimoobgbodbmaaGreatDoorNewStruct
/-! Steps of a region that draws its order: appends, and an entry of a map that is held ready and filled. No program in this text. -/
namespace Go.Proofs.YtfimoobgbodbmaaGreatDoor
open Go.RowKit
set_option linter.unusedVariables false
set_option maxRecDepth 100000

/-- append onto what the call owns, as one step; the slot is written out, and where the new slice lies is told. -/
theorem step_append_to {P : Program} {ops : Array Oper} {o : Oper} {a : Act} {w : World} {K : Act → World → Prop} {Q : Exit → Act → World → Prop} {C : Prop}
    (d : Nat) (hdst : o.dst = some d) (hg : o.guard = none) (s x : Operand) (t : TypeId) (hop : o.op = Op.call { callee := Callee.builtin Builtin.append, args := #[s, x], argTypes := #[t, t] })
    (base : Nat) (e : TypeId) (i : TypeInfo) (z : Value) (size bytes : Nat) (h1 : P.underlying t = some (.slice e)) (h2 : P.info? e = some i) (h3 : i.zero = some z) (h4 : i.size = size) (h5 : i.bytes = bytes) (h6 : z.cells.size = size) (h7 : 0 < size)
    (v : Value) (n : Nat) (xs : List Value) (hs : a.eval s = v) (hown : w.ownsRow base e size v n xs)
    (ad : Addr) (m c : Nat) (news : List Value) (hx : a.eval x = .slice (some ad) m c) (hn : news.length = m * size) (hc : ∀ j u, news[j]? = some u → w.cell? (ad.add j) = some u) (h1c : ∀ u ∈ news, u.oneCell' = true)
    (b1 : n + m ≤ maxLen) (b2 : (n + m) * bytes ≤ 140737488355328) (hb : base ≤ w.heap.size)
    (hK : ∀ v' w', w'.ownsRow base e size v' (n + m) (xs ++ news) → w.grownBy w' v.ownBlock → (v'.ownBlock = v.ownBlock ∨ v'.ownBlock = some w.heap.size) → K (a.put (some d) v') w') :
    if Region.wanted o (yielded ops a.tmps) = true then Oper.wp P o a w K Q else C := by
  have hw : Region.wanted o (yielded ops a.tmps) = true := by simp [Region.wanted, hg]
  rw [if_pos hw]
  have hK2 : ∀ v' w', w'.ownsRow base e size v' (n + m) (xs ++ news) → w.grownBy w' v.ownBlock → (v'.ownBlock = v.ownBlock ∨ v'.ownBlock = some w.heap.size) → K (a.put o.dst v') w' := by rw [hdst]; exact hK
  obtain ⟨v', w', hrun, r1, r2, _, r3⟩ := run_append_own_at (P := P) w base t o.type e i z size bytes h1 h2 h3 h4 h5 h6 h7 v n xs hown ad m c news hn hc h1c b1 b2 hb
  unfold Oper.wp
  simp [execOp, hop, resolve, invoke, builtin, hs, hx, hrun, Result.andThen]
  exact hK2 v' w' r1 r2 r3
/-- append of a slice, nil or not, as one step; the slot is written out. -/
theorem step_append_any_to {P : Program} {ops : Array Oper} {o : Oper} {a : Act} {w : World} {K : Act → World → Prop} {Q : Exit → Act → World → Prop} {C : Prop}
    (d : Nat) (hdst : o.dst = some d) (hg : o.guard = none) (s x : Operand) (t : TypeId) (hop : o.op = Op.call { callee := Callee.builtin Builtin.append, args := #[s, x], argTypes := #[t, t] })
    (base : Nat) (e : TypeId) (i : TypeInfo) (z : Value) (size bytes : Nat) (h1 : P.underlying t = some (.slice e)) (h2 : P.info? e = some i) (h3 : i.zero = some z) (h4 : i.size = size) (h5 : i.bytes = bytes) (h6 : z.cells.size = size) (h7 : 0 < size)
    (v : Value) (n : Nat) (xs : List Value) (hs : a.eval s = v) (hown : w.ownsRow base e size v n xs)
    (ao : Option Addr) (m c : Nat) (news : List Value) (hx : a.eval x = .slice ao m c) (hn : news.length = m * size) (hnone : ao = none → m = 0 ∧ c = 0) (hc : ∀ ad, ao = some ad → ∀ j u, news[j]? = some u → w.cell? (ad.add j) = some u) (h1c : ∀ u ∈ news, u.oneCell' = true)
    (b1 : n + m ≤ maxLen) (b2 : (n + m) * bytes ≤ 140737488355328) (hb : base ≤ w.heap.size)
    (hK : ∀ v' w', w'.ownsRow base e size v' (n + m) (xs ++ news) → w.grownBy w' v.ownBlock → K (a.put (some d) v') w') :
    if Region.wanted o (yielded ops a.tmps) = true then Oper.wp P o a w K Q else C :=
  step_append_any hg s x t hop base e i z size bytes h1 h2 h3 h4 h5 h6 h7 v n xs hs hown ao m c news hx hn hnone hc h1c b1 b2 hb (by rw [hdst]; exact hK)
theorem news_below {w w' : World} {a : Addr} {l : List Value} (h : ∀ j u, l[j]? = some u → w.cell? (a.add j) = some u) (hb : Below w.heap.size w w') (ha : a.block < w.heap.size) : ∀ j u, l[j]? = some u → w'.cell? (a.add j) = some u := by
  intro j u hu
  rw [hb.cell (p := a.add j) (by unfold Addr.add; split <;> exact ha)]
  exact h j u hu
theorem new_cells (w : World) (xs : Array Value) (t : TypeId) : ∀ j u, xs.toList[j]? = some u → (w.alloc (.cells xs t)).cell? ((⟨w.heap.size, 0, none⟩ : Addr).add j) = some u := by
  intro j u h
  rw [addr_add, Nat.zero_add, cell_of_cells (new_block w (.cells xs t))]
  simpa using h
/-- append onto what the call owns, in a region whose operations are guarded. -/
theorem wpList_append_got {P : Program} (w : World) {ops : Array Oper} {rest : List Oper} {o : Oper} {a : Act} {Q : Exit → Act → World → Prop} (hw : Region.wanted o (yielded ops a.tmps) = true) (s x : Operand) (t : TypeId)
    (hop : o.op = .call { callee := .builtin .append, args := #[s, x], argTypes := #[t, t] })
    (base : Nat) (e : TypeId) (i : TypeInfo) (z : Value) (size bytes : Nat) (h1 : P.underlying t = some (.slice e)) (h2 : P.info? e = some i) (h3 : i.zero = some z) (h4 : i.size = size) (h5 : i.bytes = bytes) (h6 : z.cells.size = size) (h7 : 0 < size)
    (v : Value) (n : Nat) (xs : List Value) (hs : a.eval s = v) (hown : w.ownsRow base e size v n xs)
    (ao : Option Addr) (m c : Nat) (news : List Value) (hx : a.eval x = .slice ao m c) (hn : news.length = m * size) (hnone : ao = none → m = 0 ∧ c = 0) (hc : ∀ ad, ao = some ad → ∀ j u, news[j]? = some u → w.cell? (ad.add j) = some u) (h1c : ∀ u ∈ news, u.oneCell' = true)
    (b1 : n + m ≤ maxLen) (b2 : (n + m) * bytes ≤ 140737488355328) (hb : base ≤ w.heap.size)
    (h : ∀ v' w', w'.ownsRow base e size v' (n + m) (xs ++ news) → w.grownBy w' v.ownBlock → wpList P ops Q rest (a.put o.dst v') w') : wpList P ops Q (o :: rest) a w := by
  refine wpList_step fun K hK => ?_
  rw [if_pos hw]
  cases ao with
  | some ad =>
    obtain ⟨v', w', hrun, r1, r2, _⟩ := run_append_own (P := P) w base t o.type e i z size bytes h1 h2 h3 h4 h5 h6 h7 v n xs hown ad m c news hn (hc ad rfl) h1c b1 b2 hb
    unfold Oper.wp
    simp [execOp, hop, resolve, invoke, builtin, hs, hx, hrun, Result.andThen]
    exact hK _ _ (h v' w' r1 r2)
  | none =>
    obtain ⟨rfl, rfl⟩ := hnone rfl
    have hnil : news = [] := List.eq_nil_of_length_eq_zero (by simpa using hn)
    subst hnil
    have hrun := run_append_owned_none (P := P) (w := w) base t o.type e i size h1 h2 v n xs hown
    unfold Oper.wp
    simp [execOp, hop, resolve, invoke, builtin, hs, hx, hrun, Result.andThen]
    exact hK _ _ (h v w (by simpa using hown) (World.grownBy.refl _ _))
end Go.Proofs.YtfimoobgbodbmaaGreatDoor
/-! package mapper: streamOf, outputOf. -/
namespace Go.Proofs.YtfimoobgbodbmaaGreatDoor
open Go.RowKit Go.Lib
set_option linter.unusedVariables false
set_option maxRecDepth 100000

theorem Tryz.infoSt : (Tryz.prog.info? 98).map (fun i => (i.zero, i.size, i.bytes)) = some (some (.agg #[.slice none 0 0, .int .i64 0, .pointer none]), 3, 40) := by kernel_rfl

set_option maxHeartbeats 4000000 in
theorem streamOf_any (ao : Option Addr) (n c : Nat) (size win : Int) (hn : n ≤ 40) (s1 : 1 ≤ size) (s8 : size ≤ 8) (hw : mayW (chunksI n size) win = true) (w : World) :
    Calls Tryz.prog 93 #[.slice ao n c, .int .i64 size, .int .i64 win] w fun e w' => ∃ wb, e = .returned (.agg #[.slice ao n c, .int .i64 size, pt wb]) ∧ w.heap.size ≤ wb ∧ Wn 125 wb (newW (chunksI n size) win) w' ∧ Below w.heap.size w w' := by
  have HW := hid hw
  clear hw
  go_enter Tryz.func93, Tryz.ntmps93
  go_wp2_with fail
  refine (cut_Chunks_any n size (by omega) (by omega) (by omega) (by omega) _).mono ?_
  rintro e w2 ⟨rfl, rfl⟩
  go_wp2_with fail
  refine (winNew_any (chunksI n size) win _).mono ?_
  intro e w3 hNI
  unfold NewIs at hNI
  rw [if_pos HW.out] at hNI
  obtain ⟨rfl, hw3⟩ := hNI
  have hb1 := alloc_one w (.cells #[.slice none 0 0, .int .i64 0, .pointer none] 98)
  have hn1 := new_block w (.cells #[.slice none 0 0, .int .i64 0, .pointer none] 98)
  have hz1 : (w.alloc (.cells #[.slice none 0 0, .int .i64 0, .pointer none] 98)).heap.size = w.heap.size + 1 := by simp
  have hb3 := below_new 125 (chunksI n size) win (w.alloc (.cells #[.slice none 0 0, .int .i64 0, .pointer none] 98))
  have hx3 := Wn.new 125 (chunksI n size) win (w.alloc (.cells #[.slice none 0 0, .int .i64 0, .pointer none] 98))
  rw [← hw3] at hb3 hx3
  rw [hz1] at hx3
  have hg3 := (hb3.block _ (lt_of_block hn1)).trans hn1
  have ht3 : (((w3.setCell ⟨w.heap.size, 0, none⟩ (.slice ao n c)).setCell ⟨w.heap.size, 1, none⟩ (.int .i64 size)).setCell ⟨w.heap.size, 2, none⟩ (pt (w.heap.size + 1))).heap[w.heap.size]? = some (.cells #[.slice ao n c, .int .i64 size, pt (w.heap.size + 1)] 98 (0, 0)) := set_same (set_same (set_same hg3))
  have hs3 : Sav (Just w.heap.size) w3 (((w3.setCell ⟨w.heap.size, 0, none⟩ (.slice ao n c)).setCell ⟨w.heap.size, 1, none⟩ (.int .i64 size)).setCell ⟨w.heap.size, 2, none⟩ (pt (w.heap.size + 1))) := (((Sav.refl _ _).setCell (just _) 0 _).setCell (just _) 1 _).setCell (just _) 2 _
  have HX4 := hid (hx3.sav hs3 (by unfold Just; omega))
  have hb3' := below_then hb1 hb3 hb1.size
  have HB4 := hid (hb3'.trans (hs3.below (B := w.heap.size) (fun g hg => by unfold Just at hg; omega) hb3'.size))
  have HT3 := hid ht3
  have z0 : w3.cell? ⟨w.heap.size, 0, none⟩ = some (.slice none 0 0) := cell_of_cells hg3
  have z1 : w3.cell? ⟨w.heap.size, 1, none⟩ = some (.int .i64 0) := cell_of_cells hg3
  have z2 : w3.cell? ⟨w.heap.size, 2, none⟩ = some (.pointer none) := cell_of_cells hg3
  have f0 : w3.frozen? ⟨w.heap.size, 0, none⟩ = false := free_of_cells hg3
  have f1 : w3.frozen? ⟨w.heap.size, 1, none⟩ = false := free_of_cells hg3
  have f2 : w3.frozen? ⟨w.heap.size, 2, none⟩ = false := free_of_cells hg3
  clear hw3 hb1 hn1 hb3 hx3 hg3 hb3' ht3 hs3
  rw [hz1]
  clear hz1
  go_wp2
  generalize ((w3.setCell ⟨w.heap.size, 0, none⟩ (.slice ao n c)).setCell ⟨w.heap.size, 1, none⟩ (.int .i64 size)).setCell ⟨w.heap.size, 2, none⟩ (pt (w.heap.size + 1)) = w4 at HT3 HX4 HB4 ⊢
  have e0 : w4.cell? ⟨w.heap.size, 0, none⟩ = some (.slice ao n c) := cell_of_cells HT3.out
  have e1 : w4.cell? ⟨w.heap.size, 1, none⟩ = some (.int .i64 size) := cell_of_cells HT3.out
  have e2 : w4.cell? ⟨w.heap.size, 2, none⟩ = some (pt (w.heap.size + 1)) := cell_of_cells HT3.out
  refine bodyPost_ret (by simp [results, Tryz.results93, go_sem, e0, e1, e2]; try rfl) rfl ?_
  exact ⟨w.heap.size + 1, rfl, by omega, HX4.out, HB4.out⟩
end Go.Proofs.YtfimoobgbodbmaaGreatDoor
/-! package mapper: outputOf. -/
namespace Go.Proofs.YtfimoobgbodbmaaGreatDoor
open Go.RowKit Go.Lib
set_option linter.unusedVariables false
set_option maxRecDepth 100000

theorem ws0_take {A : AtV} {n : Nat} (h : n < A.num) : A.ws0.take (n + 1) = A.ws0.take n ++ [newW (A.cnt n) A.win] := by
  have := ws0_at h
  rw [List.take_add_one, this]
  rfl
theorem ws0_len (A : AtV) : A.ws0.length = A.num := by simp [AtV.ws0]
/-- What outputOf answers. -/
def OutIs (A : AtV) (w : World) (e : Ending) (w' : World) : Prop :=
  ∃ ao c Z, e = .returned (.agg #[.int .i64 A.R.2, .slice ao Z.length c]) ∧ Sts w.heap.size A A.ws0 Z (.slice ao Z.length c) w' ∧ Below w.heap.size w w'

set_option maxHeartbeats 8000000 in
theorem outputOf_any {s : SlJ} {j : JobV} {w : World} (G : Given w s j) (h1 : 0 < j.splits.length) (A : AtV) (hA : AtOk A) (hR : A.R = splitL j.mp j.cb j.fuel j.splits[0]) (hp : (A.parts : Int) = j.parts) (hw : A.win = j.window) :
    Calls Tryz.prog 70 #[jobV s j, .int .i64 A.size] w (OutIs A w) := by
  obtain ⟨i0, hi, hz0, hz1, hz2⟩ := info_parts Tryz.infoSt
  have hA1 : ((w.alloc (.cells #[.slice s.so j.splits.length s.sc, .int .i64 j.parts, .slice s.mo j.mp.length s.mc, .slice s.co j.cb.length s.cc, .slice s.ro j.rd.length s.rc, .int .i64 j.chunk, .int .i64 j.window, .int .i64 j.fuel, .slice s.ko j.marks.length s.kc] 26)).alloc (.cells #[.int .i64 0, .slice none 0 0] 88)).heap[w.heap.size]? = some (.cells #[.slice s.so j.splits.length s.sc, .int .i64 j.parts, .slice s.mo j.mp.length s.mc, .slice s.co j.cb.length s.cc, .slice s.ro j.rd.length s.rc, .int .i64 j.chunk, .int .i64 j.window, .int .i64 j.fuel, .slice s.ko j.marks.length s.kc] 26 (0, 0)) := ((alloc_one _ _).block _ (by simp)).trans (new_block _ _)
  have hR1 : ((w.alloc (.cells #[.slice s.so j.splits.length s.sc, .int .i64 j.parts, .slice s.mo j.mp.length s.mc, .slice s.co j.cb.length s.cc, .slice s.ro j.rd.length s.rc, .int .i64 j.chunk, .int .i64 j.window, .int .i64 j.fuel, .slice s.ko j.marks.length s.kc] 26)).alloc (.cells #[.int .i64 0, .slice none 0 0] 88)).heap[w.heap.size + 1]? = some (.cells #[.int .i64 0, .slice none 0 0] 88 (0, 0)) := by
    have := new_block (w.alloc (.cells #[.slice s.so j.splits.length s.sc, .int .i64 j.parts, .slice s.mo j.mp.length s.mc, .slice s.co j.cb.length s.cc, .slice s.ro j.rd.length s.rc, .int .i64 j.chunk, .int .i64 j.window, .int .i64 j.fuel, .slice s.ko j.marks.length s.kc] 26)) (.cells #[.int .i64 0, .slice none 0 0] 88)
    simpa using this
  have hB1 : Below w.heap.size w ((w.alloc (.cells #[.slice s.so j.splits.length s.sc, .int .i64 j.parts, .slice s.mo j.mp.length s.mc, .slice s.co j.cb.length s.cc, .slice s.ro j.rd.length s.rc, .int .i64 j.chunk, .int .i64 j.window, .int .i64 j.fuel, .slice s.ko j.marks.length s.kc] 26)).alloc (.cells #[.int .i64 0, .slice none 0 0] 88)) := below_then (alloc_one _ _) (alloc_one _ _) (by simp)
  have HG := hid G
  have HOK := hid hA
  have HRR := hid hR
  have HP := hid hp
  have HW := hid hw
  clear G hA hR hp hw
  go_enter Tryz.func70, Tryz.ntmps70
  go_upto_region 1 with fail
  generalize (w.alloc (.cells #[.slice s.so j.splits.length s.sc, .int .i64 j.parts, .slice s.mo j.mp.length s.mc, .slice s.co j.cb.length s.cc, .slice s.ro j.rd.length s.rc, .int .i64 j.chunk, .int .i64 j.window, .int .i64 j.fuel, .slice s.ko j.marks.length s.kc] 26)).alloc (.cells #[.int .i64 0, .slice none 0 0] 88) = w1 at *
  have HA1 := hid hA1
  have HR1 := hid hR1
  have HB1 := hid hB1
  clear hA1 hR1 hB1
  have c0 : w1.cell? ⟨w.heap.size, 0, none⟩ = some (.slice s.so j.splits.length s.sc) := cell_of_cells HA1.out
  have c1 : w1.cell? ⟨w.heap.size, 1, none⟩ = some (.int .i64 j.parts) := cell_of_cells HA1.out
  have c2 : w1.cell? ⟨w.heap.size, 2, none⟩ = some (.slice s.mo j.mp.length s.mc) := cell_of_cells HA1.out
  have c3 : w1.cell? ⟨w.heap.size, 3, none⟩ = some (.slice s.co j.cb.length s.cc) := cell_of_cells HA1.out
  have c4 : w1.cell? ⟨w.heap.size, 4, none⟩ = some (.slice s.ro j.rd.length s.rc) := cell_of_cells HA1.out
  have c5 : w1.cell? ⟨w.heap.size, 5, none⟩ = some (.int .i64 j.chunk) := cell_of_cells HA1.out
  have c6 : w1.cell? ⟨w.heap.size, 6, none⟩ = some (.int .i64 j.window) := cell_of_cells HA1.out
  have c7 : w1.cell? ⟨w.heap.size, 7, none⟩ = some (.int .i64 j.fuel) := cell_of_cells HA1.out
  have c8 : w1.cell? ⟨w.heap.size, 8, none⟩ = some (.slice s.ko j.marks.length s.kc) := cell_of_cells HA1.out
  go_wp2_with fail
  refine (modelSplit_any (HG.out.on HB1.out) h1).mono ?_
  rintro e w2 ⟨u, rfl, ho2, hb2⟩
  rw [← HRR.out] at ho2 ⊢
  obtain ⟨ao, co, rfl⟩ := own_slice ho2
  have HA2 := hid ((hb2.block _ (lt_of_block HA1.out)).trans HA1.out)
  have hR2 := (hb2.block _ (lt_of_block HR1.out)).trans HR1.out
  have hB2 := below_then HB1.out hb2 HB1.out.size
  have HO2 := hid (owns_mono ho2 HB1.out.size)
  clear c0 c1 c2 c3 c4 c5 c6 c7 c8 ho2 hb2 HA1 HR1 HB1
  by_cases hr : A.R.2 = 0
  case neg =>
    have d1 : (A.R.2 != 0) = true := by simpa using hr
    have z0 : w2.cell? ⟨w.heap.size + 1, 0, none⟩ = some (.int .i64 0) := cell_of_cells hR2
    have z1 : w2.cell? ⟨w.heap.size + 1, 1, none⟩ = some (.slice none 0 0) := cell_of_cells hR2
    have f0 : w2.frozen? ⟨w.heap.size + 1, 0, none⟩ = false := free_of_cells hR2
    have f1 : w2.frozen? ⟨w.heap.size + 1, 1, none⟩ = false := free_of_cells hR2
    have hs : Sav (Just (w.heap.size + 1)) w2 ((w2.setCell ⟨w.heap.size + 1, 0, none⟩ (.int .i64 A.R.2)).setCell ⟨w.heap.size + 1, 1, none⟩ (.slice none 0 0)) := ((Sav.refl _ _).setCell (just _) 0 _).setCell (just _) 1 _
    have HR3 := hid (show ((w2.setCell ⟨w.heap.size + 1, 0, none⟩ (.int .i64 A.R.2)).setCell ⟨w.heap.size + 1, 1, none⟩ (.slice none 0 0)).heap[w.heap.size + 1]? = some (.cells #[.int .i64 A.R.2, .slice none 0 0] 88 (0, 0)) from set_same (set_same hR2))
    have HB3 := hid (hB2.trans (hs.below (B := w.heap.size) (fun g hg => by unfold Just at hg; omega) hB2.size))
    have HN := hid hr
    clear hr hs hR2 hB2
    go_wp2
    generalize (w2.setCell ⟨w.heap.size + 1, 0, none⟩ (.int .i64 A.R.2)).setCell ⟨w.heap.size + 1, 1, none⟩ (.slice none 0 0) = w3 at *
    have e0 : w3.cell? ⟨w.heap.size + 1, 0, none⟩ = some (.int .i64 A.R.2) := cell_of_cells HR3.out
    have e1 : w3.cell? ⟨w.heap.size + 1, 1, none⟩ = some (.slice none 0 0) := cell_of_cells HR3.out
    refine bodyPost_ret (by simp [results, Tryz.results70, go_sem, e0, e1]; try rfl) rfl ?_
    refine ⟨none, 0, [], rfl, ?_, HB3.out⟩
    have : A.ws0 = [] := List.eq_nil_of_length_eq_zero (by rw [ws0_len, AtV.num_not HN.out])
    rw [this]
    exact Sts.nil _ _ _
  have d1 : (A.R.2 != 0) = false := by simpa using hr
  have hnum : A.num = A.parts := AtV.num_fine hr
  have HNum := hid hnum
  have HR2 := hid hR2
  have HB2 := hid hB2
  have HN := hid hr
  have k1 : w2.cell? ⟨w.heap.size, 1, none⟩ = some (.int .i64 A.parts) := (cell_of_cells HA2.out).trans (by rw [HP.out]; rfl)
  clear hr hnum hR2 hB2
  go_wp2
  go_loopw [7, 20] (fun u i wr => ∃ Z, i = .int .i64 (Z.length : Nat) ∧ Z.length ≤ A.parts ∧ Sts w.heap.size A (A.ws0.take Z.length) Z u wr ∧ wr.ownsRow w.heap.size 105 2 (.slice ao A.R.1.length co) A.R.1.length (fl encP A.R.1) ∧ wr.heap[w.heap.size]? = some (.cells #[.slice s.so j.splits.length s.sc, .int .i64 j.parts, .slice s.mo j.mp.length s.mc, .slice s.co j.cb.length s.cc, .slice s.ro j.rd.length s.rc, .int .i64 j.chunk, .int .i64 j.window, .int .i64 j.fuel, .slice s.ko j.marks.length s.kc] 26 (0, 0)) ∧ wr.heap[w.heap.size + 1]? = some (.cells #[.int .i64 0, .slice none 0 0] 88 (0, 0)) ∧ Below w.heap.size w wr) (fun _ i _ => A.parts - (intOf i).toNat)
  case atStart => exact ⟨[], rfl, Nat.zero_le _, Sts.nil _ _ _, HO2.out, HA2.out, HR2.out, HB2.out⟩
  case round =>
    clear HO2 HA2 HR2 HB2 k1
    obtain ⟨Z, rfl, hle, hst, how, hA3, hR3, hB3⟩ := hrel
    by_cases hlt : Z.length < A.parts
    · have d5 : decide ((Z.length : Int) < (A.parts : Int)) = true := by simp; omega
      have hb0 := below_drew wr 1
      have k1 : (wr.drewN 1).cell? ⟨w.heap.size, 1, none⟩ = some (.int .i64 A.parts) := (cell_of_cells hA3).trans (by rw [HP.out]; rfl)
      have k6 : (wr.drewN 1).cell? ⟨w.heap.size, 6, none⟩ = some (.int .i64 A.win) := (cell_of_cells hA3).trans (by rw [HW.out]; rfl)
      have HV := hid (show Prs wr.drew (.slice ao A.R.1.length co) A.R.1 from Reads.own encP_len (by decide) (owns_below how hb0))
      have HT := hid (show Sts w.heap.size A (A.ws0.take Z.length) Z u7 wr.drew from hst.below hb0)
      have HO := hid (show wr.drew.ownsRow w.heap.size 105 2 (.slice ao A.R.1.length co) A.R.1.length (fl encP A.R.1) from owns_below how hb0)
      have HA4 := hid (show wr.drew.heap[w.heap.size]? = _ from hA3)
      have HR4 := hid (show wr.drew.heap[w.heap.size + 1]? = _ from hR3)
      have HB4 := hid (show Below w.heap.size w wr.drew from below_then hB3 hb0 hB3.size)
      clear hst how hA3 hR3 hB3 hb0
      have hlist : (A.list Z.length).length ≤ 40 := HOK.out.list_le _
      have hz4 : Z.length < 4 := by have := HOK.out.p4; omega
      have hsz1 := HOK.out.s1
      have hsz8 := HOK.out.s8
      go_wp2_with fail
      go_region_held3 (fun w' => w'.cell? ⟨w.heap.size, 1, none⟩ = some (.int .i64 A.parts) ∧ w'.cell? ⟨w.heap.size, 6, none⟩ = some (.int .i64 A.win)) (first | exact ⟨r1, r6⟩ | exact ⟨q1, q6⟩ | exact ⟨p1, p6⟩ | exact ⟨k1, k6⟩ | go_keep)
        (first
          | (go_at_call 83; refine (only_any _ A.R.1 A.parts Z.length (by omega) (by have := HOK.out.p4; omega) _ HV.out (by have := HOK.out.few; omega) (fun x hx => by have := (HOK.out.small x hx).1; omega)).mono ?_; rintro e w4 ⟨u4, rfl, ho4, hb4⟩; (obtain ⟨a4, k4, rfl⟩ := own_slice ho4); have p1 : w4.cell? ⟨w.heap.size, 1, none⟩ = some (.int .i64 A.parts) := (hb4.cell (p := ⟨w.heap.size, 1, none⟩) (lt_of_block HA4.out)).trans k1; have p6 : w4.cell? ⟨w.heap.size, 6, none⟩ = some (.int .i64 A.win) := (hb4.cell (p := ⟨w.heap.size, 6, none⟩) (lt_of_block HA4.out)).trans k6; have HO5 := hid (show w4.ownsRow w.heap.size 105 2 (.slice a4 (A.list Z.length).length k4) (A.list Z.length).length (fl encP (A.list Z.length)) from owns_mono ho4 HB4.out.size); have HB5 := hid hb4; clear ho4 hb4)
          | (go_at_call 93; refine (streamOf_any a4 (A.list Z.length).length k4 A.size A.win hlist hsz1 hsz8 (HOK.out.mayW _) w4).mono ?_; rintro e w5 ⟨wb, rfl, hwb, hx5, hb5⟩; have q1 : w5.cell? ⟨w.heap.size, 1, none⟩ = some (.int .i64 A.parts) := (hb5.cell (p := ⟨w.heap.size, 1, none⟩) (Nat.lt_of_lt_of_le (lt_of_block HA4.out) HB5.out.size)).trans p1; have q6 : w5.cell? ⟨w.heap.size, 6, none⟩ = some (.int .i64 A.win) := (hb5.cell (p := ⟨w.heap.size, 6, none⟩) (Nat.lt_of_lt_of_le (lt_of_block HA4.out) HB5.out.size)).trans p6; have HX5 := hid hx5; have HWB := hid hwb; have HB6 := hid hb5; have HT6 := hid (((HT.out.below HB5.out).below hb5).below (alloc_one w5 (.cells #[.slice a4 (A.list Z.length).length k4, .int .i64 A.size, pt wb] 98))); have HO6 := hid (owns_below (owns_below HO5.out hb5) (alloc_one w5 (.cells #[.slice a4 (A.list Z.length).length k4, .int .i64 A.size, pt wb] 98))); have HX6 := hid (hx5.below (alloc_one w5 (.cells #[.slice a4 (A.list Z.length).length k4, .int .i64 A.size, pt wb] 98))); have HB7 := hid (below_then (below_then (below_then HB4.out HB5.out HB4.out.size) hb5 (Nat.le_trans HB4.out.size HB5.out.size)) (alloc_one w5 (.cells #[.slice a4 (A.list Z.length).length k4, .int .i64 A.size, pt wb] 98)) (Nat.le_trans HB4.out.size (Nat.le_trans HB5.out.size hb5.size))); have hbU := below_then (below_then HB5.out hb5 HB5.out.size) (alloc_one w5 (.cells #[.slice a4 (A.list Z.length).length k4, .int .i64 A.size, pt wb] 98)) (Nat.le_trans HB5.out.size hb5.size); have HA6 := hid ((hbU.block _ (lt_of_block HA4.out)).trans HA4.out); have HR6 := hid ((hbU.block _ (lt_of_block HR4.out)).trans HR4.out); clear hwb hx5 hb5 hbU)
          | (refine step_append_own rfl (.tmp 23) (.tmp 33) 86 rfl w.heap.size 98 i0 _ 3 40 Tryz.underlying86 hi hz0 hz1 hz2 rfl (by decide) u7 Z.length _ (by simp [Act.eval]) HT6.out.row ⟨w5.heap.size, 0, none⟩ 1 1 [.slice a4 (A.list Z.length).length k4, .int .i64 A.size, pt wb] (by simp [Act.eval]) rfl (new_cells w5 #[.slice a4 (A.list Z.length).length k4, .int .i64 A.size, pt wb] 98) (by intro u hu; simp at hu; rcases hu with rfl | rfl | rfl <;> rfl) (by unfold maxLen; omega) (by omega) HB7.out.size ?_; intro v6 w6 ho6 hg6; have HO7 := hid ho6; have HG7 := hid hg6; have HA7 := hid (grown_at HT6.out.row hg6 HA6.out (by decide)); have HR7 := hid (grown_at HT6.out.row hg6 HR6.out (by decide)); have r1 : w6.cell? ⟨w.heap.size, 1, none⟩ = some (.int .i64 A.parts) := (cell_of_cells HA7.out).trans (by rw [HP.out]; rfl); have r6 : w6.cell? ⟨w.heap.size, 6, none⟩ = some (.int .i64 A.win) := (cell_of_cells HA7.out).trans (by rw [HW.out]; rfl); clear ho6 hg6))
      have hZb : ∀ y ∈ Z, y.b ≠ wb := by
        intro y hy
        obtain ⟨p, hp, rfl⟩ := List.getElem_of_mem hy
        obtain ⟨z, x, hz, hx⟩ := HT.out.at hp
        rw [List.getElem?_eq_getElem hp] at hz
        cases hz
        have h1 := (HT.out.win p _ x (List.getElem?_eq_getElem hp) hx).lt
        have h2 := HB5.out.size
        have h3 := HWB.out
        omega
      have hlow : w.heap.size ≤ wb := by
        have h1 := HB4.out.size
        have h2 := HB5.out.size
        have h3 := HWB.out
        omega
      have HS8 := hid (HT6.out.more (z := ⟨.slice a4 (A.list Z.length).length k4, wb⟩) HO6.out HX6.out hlow hZb HO7.out HG7.out)
      have HO8 := hid (owns_grown (show (w5.alloc (.cells #[.slice a4 (A.list Z.length).length k4, .int .i64 A.size, pt wb] 98)).ownsRow w.heap.size 105 2 (.slice ao A.R.1.length co) A.R.1.length (fl encP A.R.1) from owns_below (owns_below (owns_below HO.out HB5.out) HB6.out) (alloc_one _ _)) HT6.out.row (by decide) HG7.out)
      have HB8 := hid (HB7.out.grown HG7.out HB7.out.size (fun q hq => (HT6.out.row.lt q hq).1))
      have hws : A.ws0.take Z.length ++ [newW (chunksI (A.list Z.length).length A.size) A.win] = A.ws0.take (Z.length + 1) := (ws0_take (A := A) (by rw [HNum.out]; exact hlt)).symm
      rw [hws] at HS8
      clear HT HO HA4 HR4 HB4 HB5 HB6 HT6 HO6 HX6 HB7 HA6 HR6 HO7 HG7 r1 r6 q1 q6 p1 p6 k1 k6 hws hZb hlow HWB HX5 HO5 HV
      go_wp2
      go_roundw
      case rel => exact ⟨Z ++ [⟨.slice a4 (A.list Z.length).length k4, wb⟩], by simp, by simp; omega, by simpa using HS8.out, HO8.out, HA7.out, HR7.out, HB8.out⟩
      case measure => simp [intOf]; omega
    · have he : Z.length = A.parts := by omega
      have d5 : decide ((Z.length : Int) < (A.parts : Int)) = false := by simp; omega
      have hws : A.ws0.take Z.length = A.ws0 := by
        rw [List.take_of_length_le]
        rw [ws0_len, HNum.out]
        omega
      rw [hws] at hst
      obtain ⟨ao7, k7, rfl⟩ := owns_slice hst.row
      have z0 : wr.cell? ⟨w.heap.size + 1, 0, none⟩ = some (.int .i64 0) := cell_of_cells hR3
      have z1 : wr.cell? ⟨w.heap.size + 1, 1, none⟩ = some (.slice none 0 0) := cell_of_cells hR3
      have f0 : wr.frozen? ⟨w.heap.size + 1, 0, none⟩ = false := free_of_cells hR3
      have f1 : wr.frozen? ⟨w.heap.size + 1, 1, none⟩ = false := free_of_cells hR3
      have hs : Sav (Just (w.heap.size + 1)) wr ((wr.setCell ⟨w.heap.size + 1, 0, none⟩ (.int .i64 0)).setCell ⟨w.heap.size + 1, 1, none⟩ (.slice ao7 Z.length k7)) := ((Sav.refl _ _).setCell (just _) 0 _).setCell (just _) 1 _
      have HR9 := hid (show ((wr.setCell ⟨w.heap.size + 1, 0, none⟩ (.int .i64 0)).setCell ⟨w.heap.size + 1, 1, none⟩ (.slice ao7 Z.length k7)).heap[w.heap.size + 1]? = some (.cells #[.int .i64 0, .slice ao7 Z.length k7] 88 (0, 0)) from set_same (set_same hR3))
      have HB9 := hid (hB3.trans (hs.below (B := w.heap.size) (fun g hg => by unfold Just at hg; omega) hB3.size))
      have hnot : ∀ g, InS Z (.slice ao7 Z.length k7) g → ¬ Just (w.heap.size + 1) g := by
        intro g hg e
        have e1 : g = w.heap.size + 1 := e
        subst e1
        rcases hg with hg | ⟨z, hz, hg⟩
        · exact owns_ne hst.row hR3 (by decide) hg.symm
        · obtain ⟨p, hp, rfl⟩ := List.getElem_of_mem hz
          obtain ⟨z, x, hz, hx⟩ := hst.at hp
          rw [List.getElem?_eq_getElem hp] at hz
          cases hz
          rcases hg with hg | hg
          · exact owns_ne (hst.prs p _ (List.getElem?_eq_getElem hp)) hR3 (by decide) hg.symm
          · exact tag_ne (hst.win p _ x (List.getElem?_eq_getElem hp) hx) hR3 (by decide) hg
      have HS9 := hid (hst.sav hs hnot)
      clear hst hs hR3 hB3 hA3 how hnot hws he
      go_wp2
      clear z0 z1 f0 f1
      generalize (wr.setCell ⟨w.heap.size + 1, 0, none⟩ (.int .i64 0)).setCell ⟨w.heap.size + 1, 1, none⟩ (.slice ao7 Z.length k7) = w9 at *
      have e0 : w9.cell? ⟨w.heap.size + 1, 0, none⟩ = some (.int .i64 0) := cell_of_cells HR9.out
      have e1 : w9.cell? ⟨w.heap.size + 1, 1, none⟩ = some (.slice ao7 Z.length k7) := cell_of_cells HR9.out
      refine bodyPost_ret (by simp [results, Tryz.results70, go_sem, e0, e1]; try rfl) rfl ?_
      exact ⟨ao7, k7, Z, by rw [HN.out], HS9.out, HB9.out⟩
end Go.Proofs.YtfimoobgbodbmaaGreatDoor
/-! package mapper: the output of an attempt, made when it is first asked for, and kept from then on. -/
namespace Go.Proofs.YtfimoobgbodbmaaGreatDoor
open Go.RowKit Go.Lib
set_option linter.unusedVariables false
set_option maxRecDepth 100000

/-- A struct is stored into the midst of a block. -/
theorem setCells_block {b : Nat} {t : TypeId} : ∀ (vs : List Value) (o : Nat) {w : World} {cs : Array Value}, w.heap[b]? = some (.cells cs t (0, 0)) → (w.setCells b o vs).heap[b]? = some (.cells (setAll cs o vs) t (0, 0))
  | [], _, _, _, h => h
  | v :: r, o, w, cs, h => by
    rw [World.setCells]
    exact setCells_block r (o + 1) (set_same h)
theorem setCells_sav {b : Nat} : ∀ (vs : List Value) (o : Nat) (w : World), Sav (Just b) w (w.setCells b o vs)
  | [], _, w => Sav.refl _ w
  | v :: r, o, w => by
    rw [World.setCells]
    exact ((Sav.refl _ w).setCell (just b) o v).trans (setCells_sav r (o + 1) _)
theorem there_cells {w : World} {b : Nat} {t : TypeId} {cs : Array Value} (h : w.heap[b]? = some (.cells cs t (0, 0))) {o n : Nat} (hn : o + n ≤ cs.size) : w.there b o n := by
  intro j hj
  refine ⟨?_, free_of_cells h⟩
  rw [cell_of_cells h, Array.getElem?_eq_getElem (by omega)]
  rfl
theorem Grow.mono {I : Nat → Prop} {w w1 w2 : World} (h : w1.heap.size ≤ w2.heap.size) {g : Nat} (hg : Grow I w w1 g) : Grow I w w2 g := hg.imp id fun h2 => ⟨h2.1, Nat.lt_of_lt_of_le h2.2 h⟩
theorem alone_given {W : World} {c : CfgV} {k b : Nat} {a lk : Int} {s : SlJ} {I : Nat → Prop} {w : World} (HBs : Base W c k a) (h : Fr W c k a b s lk I w) : Given w s (aloneJ c.job (c.job.splits.getD k [])) := by
  have hm : c.job.splits.getD k [] ∈ c.job.splits := by
    rw [List.getD_eq_getElem?_getD, List.getElem?_eq_getElem HBs.lt]
    exact List.getElem_mem HBs.lt
  exact ⟨h.job.job, ⟨HBs.fit.mp, HBs.fit.cb, HBs.fit.rd, HBs.fit.parts, HBs.fit.chunk, HBs.fit.window, HBs.fit.fuel⟩, alone_may (mayC_job HBs.may) hm, HBs.tabs.on h.bel⟩
theorem out_given {W : World} {c : CfgV} {k b : Nat} {a lk : Int} {s : SlJ} {I : Nat → Prop} {w : World} (HBs : Base W c k a) (h : Fr W c k a b s lk I w) :
    Calls Tryz.prog 70 #[.agg #[.slice s.so 1 s.sc, .int .i64 c.job.parts, .slice s.mo c.job.mp.length s.mc, .slice s.co c.job.cb.length s.cc, .slice s.ro c.job.rd.length s.rc, .int .i64 c.job.chunk, .int .i64 c.job.window, .int .i64 c.job.fuel, .slice none 0 0], .int .i64 (sizeI c.job.chunk a)] w (OutIs (attV c k a) w) := by
  have hp := (mayJ_nums (mayC_job HBs.may)).1
  have G := outputOf_any (alone_given HBs h) (by show 0 < 1; omega) (attV c k a) HBs.at rfl (by show ((c.job.parts.toNat : Nat) : Int) = c.job.parts; omega) rfl
  have k1 := h.job.ko
  have k2 := h.job.kc
  unfold jobV at G
  rw [k1, k2] at G
  exact G
set_option maxHeartbeats 8000000 in
/-- Within the once: the output is made and kept; what it was made of is given up. -/
theorem fillM {W : World} {c : CfgV} {k b : Nat} {a : Int} {s : SlJ} {I : Nat → Prop} (c0 : Nat) (w : World) (HBs : Base W c k a) (h : Fr W c k a b s 1 I w) (hc : w.heap[c0]? = some (.cells #[pt b] 32 (0, 0))) (hI : ¬ I c0) :
    Calls Tryz.prog 69 #[.pointer (some ⟨c0, 0, none⟩)] w fun e w' => e = .returned (.tuple #[]) ∧ ∃ Z v, MdG W (attV c k a) b 0 1 (attV c k a).ws0 Z v (Grow I w w') w' ∧ Sav (Just b) w w' := by
  have hne : c0 ≠ b := fun e => hI (by rw [e]; exact h.inb)
  have HO := hid (out_given HBs (h.below ((below_drew w 1))))
  have H := hid h
  have HC := hid hc
  have HS := hid HBs
  have HI := hid hI
  have d0 : w.drew.cell? ⟨c0, 0, none⟩ = some (pt b) := cell_of_cells hc
  have d1 : w.drew.cell? ⟨b, 1, none⟩ = some (.int .i64 a) := cell_of_cells h.obj
  have d5 : w.drew.cell? ⟨b, 5, none⟩ = some (.slice s.so 1 s.sc) := cell_of_cells h.obj
  have d6 : w.drew.cell? ⟨b, 6, none⟩ = some (.int .i64 c.job.parts) := cell_of_cells h.obj
  have d7 : w.drew.cell? ⟨b, 7, none⟩ = some (.slice s.mo c.job.mp.length s.mc) := cell_of_cells h.obj
  have d8 : w.drew.cell? ⟨b, 8, none⟩ = some (.slice s.co c.job.cb.length s.cc) := cell_of_cells h.obj
  have d9 : w.drew.cell? ⟨b, 9, none⟩ = some (.slice s.ro c.job.rd.length s.rc) := cell_of_cells h.obj
  have d10 : w.drew.cell? ⟨b, 10, none⟩ = some (.int .i64 c.job.chunk) := cell_of_cells h.obj
  have d11 : w.drew.cell? ⟨b, 11, none⟩ = some (.int .i64 c.job.window) := cell_of_cells h.obj
  have d12 : w.drew.cell? ⟨b, 12, none⟩ = some (.int .i64 c.job.fuel) := cell_of_cells h.obj
  have d13 : w.drew.cell? ⟨b, 13, none⟩ = some (.slice none 0 0) := cell_of_cells h.obj
  have hch := (mayJ_nums (mayC_job HBs.may)).2.1
  have HCH := hid hch
  clear h hc HBs hI hch
  go_enter Tryz.func69, Tryz.ntmps69
  go_wp2_with fail
  go_region_held3 (fun w' => w'.cell? ⟨c0, 0, none⟩ = some (pt b) ∧ w'.cell? ⟨b, 1, none⟩ = some (.int .i64 a) ∧ w'.cell? ⟨b, 5, none⟩ = some (.slice s.so 1 s.sc) ∧ w'.cell? ⟨b, 6, none⟩ = some (.int .i64 c.job.parts) ∧ w'.cell? ⟨b, 7, none⟩ = some (.slice s.mo c.job.mp.length s.mc) ∧ w'.cell? ⟨b, 8, none⟩ = some (.slice s.co c.job.cb.length s.cc) ∧ w'.cell? ⟨b, 9, none⟩ = some (.slice s.ro c.job.rd.length s.rc) ∧ w'.cell? ⟨b, 10, none⟩ = some (.int .i64 c.job.chunk) ∧ w'.cell? ⟨b, 11, none⟩ = some (.int .i64 c.job.window) ∧ w'.cell? ⟨b, 12, none⟩ = some (.int .i64 c.job.fuel) ∧ w'.cell? ⟨b, 13, none⟩ = some (.slice none 0 0)) (first | exact ⟨g0, g1, g5, g6, g7, g8, g9, g10, g11, g12, g13⟩ | exact ⟨e0, e1, e5, e6, e7, e8, e9, e10, e11, e12, e13⟩ | exact ⟨d0, d1, d5, d6, d7, d8, d9, d10, d11, d12, d13⟩ | go_keep)
    (first
      | (go_at_call 71; refine (cut_Size_any c.job.chunk a (by have := HCH.out; omega) (by have := HCH.out; omega) _).mono ?_; rintro e w4 ⟨rfl, rfl⟩)
      | (go_at_call 70; refine HO.out.mono ?_; rintro e y ⟨ao, cz, Z, rfl, hst, hbl⟩; have hy := (hbl.block b (lt_of_block (show w.drew.heap[b]? = _ from H.out.obj))).trans (show w.drew.heap[b]? = _ from H.out.obj); have hyc := (hbl.block c0 (lt_of_block (show w.drew.heap[c0]? = _ from HC.out))).trans (show w.drew.heap[c0]? = _ from HC.out); have e0 : y.cell? ⟨c0, 0, none⟩ = some (pt b) := cell_of_cells hyc; have e1 : y.cell? ⟨b, 1, none⟩ = some (.int .i64 a) := cell_of_cells hy; have e5 : y.cell? ⟨b, 5, none⟩ = some (.slice s.so 1 s.sc) := cell_of_cells hy; have e6 : y.cell? ⟨b, 6, none⟩ = some (.int .i64 c.job.parts) := cell_of_cells hy; have e7 : y.cell? ⟨b, 7, none⟩ = some (.slice s.mo c.job.mp.length s.mc) := cell_of_cells hy; have e8 : y.cell? ⟨b, 8, none⟩ = some (.slice s.co c.job.cb.length s.cc) := cell_of_cells hy; have e9 : y.cell? ⟨b, 9, none⟩ = some (.slice s.ro c.job.rd.length s.rc) := cell_of_cells hy; have e10 : y.cell? ⟨b, 10, none⟩ = some (.int .i64 c.job.chunk) := cell_of_cells hy; have e11 : y.cell? ⟨b, 11, none⟩ = some (.int .i64 c.job.window) := cell_of_cells hy; have e12 : y.cell? ⟨b, 12, none⟩ = some (.int .i64 c.job.fuel) := cell_of_cells hy; have e13 : y.cell? ⟨b, 13, none⟩ = some (.slice none 0 0) := cell_of_cells hy; have e14 : y.cell? ⟨b, 14, none⟩ = some (.int .i64 0) := cell_of_cells hy; have e15 : y.cell? ⟨b, 15, none⟩ = some (.slice none 0 0) := cell_of_cells hy; have f14 : y.frozen? ⟨b, 14, none⟩ = false := free_of_cells hy; have f15 : y.frozen? ⟨b, 15, none⟩ = false := free_of_cells hy; have hs2 : Sav (Just b) y ((y.setCell ⟨b, 14, none⟩ (.int .i64 (attV c k a).R.2)).setCell ⟨b, 15, none⟩ (.slice ao Z.length cz)) := ((Sav.refl _ _).setCell (just _) 14 _).setCell (just _) 15 _; have hy2 : ((y.setCell ⟨b, 14, none⟩ (.int .i64 (attV c k a).R.2)).setCell ⟨b, 15, none⟩ (.slice ao Z.length cz)).heap[b]? = some (mpObj k a 0 1 (.slice s.so 1 s.sc) c.job.parts (.slice s.mo c.job.mp.length s.mc) (.slice s.co c.job.cb.length s.cc) (.slice s.ro c.job.rd.length s.rc) c.job.chunk c.job.window c.job.fuel (attV c k a).R.2 (.slice ao Z.length cz)) := set_same (set_same hy); have hyc2 := hs2.at hyc hne; have g0 : ((y.setCell ⟨b, 14, none⟩ (.int .i64 (attV c k a).R.2)).setCell ⟨b, 15, none⟩ (.slice ao Z.length cz)).cell? ⟨c0, 0, none⟩ = some (pt b) := cell_of_cells hyc2; have g1 : ((y.setCell ⟨b, 14, none⟩ (.int .i64 (attV c k a).R.2)).setCell ⟨b, 15, none⟩ (.slice ao Z.length cz)).cell? ⟨b, 1, none⟩ = some (.int .i64 a) := cell_of_cells hy2; have g5 : ((y.setCell ⟨b, 14, none⟩ (.int .i64 (attV c k a).R.2)).setCell ⟨b, 15, none⟩ (.slice ao Z.length cz)).cell? ⟨b, 5, none⟩ = some (.slice s.so 1 s.sc) := cell_of_cells hy2; have g6 : ((y.setCell ⟨b, 14, none⟩ (.int .i64 (attV c k a).R.2)).setCell ⟨b, 15, none⟩ (.slice ao Z.length cz)).cell? ⟨b, 6, none⟩ = some (.int .i64 c.job.parts) := cell_of_cells hy2; have g7 : ((y.setCell ⟨b, 14, none⟩ (.int .i64 (attV c k a).R.2)).setCell ⟨b, 15, none⟩ (.slice ao Z.length cz)).cell? ⟨b, 7, none⟩ = some (.slice s.mo c.job.mp.length s.mc) := cell_of_cells hy2; have g8 : ((y.setCell ⟨b, 14, none⟩ (.int .i64 (attV c k a).R.2)).setCell ⟨b, 15, none⟩ (.slice ao Z.length cz)).cell? ⟨b, 8, none⟩ = some (.slice s.co c.job.cb.length s.cc) := cell_of_cells hy2; have g9 : ((y.setCell ⟨b, 14, none⟩ (.int .i64 (attV c k a).R.2)).setCell ⟨b, 15, none⟩ (.slice ao Z.length cz)).cell? ⟨b, 9, none⟩ = some (.slice s.ro c.job.rd.length s.rc) := cell_of_cells hy2; have g10 : ((y.setCell ⟨b, 14, none⟩ (.int .i64 (attV c k a).R.2)).setCell ⟨b, 15, none⟩ (.slice ao Z.length cz)).cell? ⟨b, 10, none⟩ = some (.int .i64 c.job.chunk) := cell_of_cells hy2; have g11 : ((y.setCell ⟨b, 14, none⟩ (.int .i64 (attV c k a).R.2)).setCell ⟨b, 15, none⟩ (.slice ao Z.length cz)).cell? ⟨b, 11, none⟩ = some (.int .i64 c.job.window) := cell_of_cells hy2; have g12 : ((y.setCell ⟨b, 14, none⟩ (.int .i64 (attV c k a).R.2)).setCell ⟨b, 15, none⟩ (.slice ao Z.length cz)).cell? ⟨b, 12, none⟩ = some (.int .i64 c.job.fuel) := cell_of_cells hy2; have g13 : ((y.setCell ⟨b, 14, none⟩ (.int .i64 (attV c k a).R.2)).setCell ⟨b, 15, none⟩ (.slice ao Z.length cz)).cell? ⟨b, 13, none⟩ = some (.slice none 0 0) := cell_of_cells hy2; have HY2 := hid hy2; have HYC2 := hid hyc2; have HS2 := hid hs2; clear hy2 hyc2 hs2; have HY := hid hy; have HYC := hid hyc; have HST := hid hst; have HBL := hid hbl; clear hst hbl hy hyc))
  clear d0 e0 g0 d1 e1 g1 d5 e5 g5 d6 e6 g6 d7 e7 g7 d8 e8 g8 d9 e9 g9 d10 e10 g10 d11 e11 g11 d12 e12 g12 d13 e13 g13 e14 e15 f14 f15
  generalize (y.setCell ⟨b, 14, none⟩ (.int .i64 (attV c k a).R.2)).setCell ⟨b, 15, none⟩ (.slice ao Z.length cz) = w5 at *
  have d0 : w5.cell? ⟨c0, 0, none⟩ = some (pt b) := cell_of_cells HYC2.out
  have hst6 : (Instr.storeAt 26 (.pointer (some ⟨b, 5, none⟩)) (.agg #[.slice none 0 0, .int .i64 0, .slice none 0 0, .slice none 0 0, .slice none 0 0, .int .i64 0, .int .i64 0, .int .i64 0, .slice none 0 0])).run Tryz.prog w5 = .ok () (w5.setCells b 5 [.slice none 0 0, .int .i64 0, .slice none 0 0, .slice none 0 0, .slice none 0 0, .int .i64 0, .int .i64 0, .int .i64 0, .slice none 0 0]) := run_storeAt_mid w5 b 5 26 #[.slice none 0 0, .int .i64 0, .slice none 0 0, .slice none 0 0, .slice none 0 0, .int .i64 0, .int .i64 0, .int .i64 0, .slice none 0 0] (there_cells HY2.out (show 5 + 9 ≤ 16 by omega)) (by kernel_rfl) (by kernel_rfl)
  have HS6 := hid (show Sav (Just b) w5 (w5.setCells b 5 [.slice none 0 0, .int .i64 0, .slice none 0 0, .slice none 0 0, .slice none 0 0, .int .i64 0, .int .i64 0, .int .i64 0, .slice none 0 0]) from setCells_sav _ _ _)
  have hE6 : setAll #[.int .i64 k, .int .i64 a, .int .u32 0, .int .i32 1, .int .u32 0, .slice s.so 1 s.sc, .int .i64 c.job.parts, .slice s.mo c.job.mp.length s.mc, .slice s.co c.job.cb.length s.cc, .slice s.ro c.job.rd.length s.rc, .int .i64 c.job.chunk, .int .i64 c.job.window, .int .i64 c.job.fuel, .slice none 0 0, .int .i64 (attV c k a).R.2, .slice ao Z.length cz] 5 [.slice none 0 0, .int .i64 0, .slice none 0 0, .slice none 0 0, .slice none 0 0, .int .i64 0, .int .i64 0, .int .i64 0, .slice none 0 0] = #[.int .i64 k, .int .i64 a, .int .u32 0, .int .i32 1, .int .u32 0, .slice none 0 0, .int .i64 0, .slice none 0 0, .slice none 0 0, .slice none 0 0, .int .i64 0, .int .i64 0, .int .i64 0, .slice none 0 0, .int .i64 (attV c k a).R.2, .slice ao Z.length cz] := by kernel_rfl
  have h6 := setCells_block [.slice none 0 0, .int .i64 0, .slice none 0 0, .slice none 0 0, .slice none 0 0, .int .i64 0, .int .i64 0, .int .i64 0, .slice none 0 0] 5 HY2.out
  rw [hE6] at h6
  have HY6 := hid h6
  clear hE6 h6
  generalize w5.setCells b 5 [.slice none 0 0, .int .i64 0, .slice none 0 0, .slice none 0 0, .slice none 0 0, .int .i64 0, .int .i64 0, .int .i64 0, .slice none 0 0] = w6 at *
  go_wp2_with (refine wpList_stored rfl _ _ _ rfl rfl _ hst6 ?_)
  go_end0
  have hby : Sav (Just b) y w6 := HS2.out.trans HS6.out
  have hwy : Sav (Just b) w y := (Sav.of_below (S := Just b) (below_drew w 1)).trans (Sav.of_below HBL.out)
  have hzy : w.heap.size ≤ y.heap.size := hwy.size
  have hzw : y.heap.size ≤ w6.heap.size := hby.size
  have hst := HST.out.sav hby (fun g hg e => by
    have h1 := (HST.out.lt hg).1
    have h2 := lt_of_block H.out.obj
    have h3 : g = b := e
    have h4 : (w.drewN 1).heap.size = w.heap.size := rfl
    omega)
  refine ⟨rfl, Z, .slice ao Z.length cz, ⟨?_, HY6.out, hst.mono (by have := H.out.bel.size; exact this), ws0_ok HS.out.at, .inl H.out.inb, fun g hg => .inr ?_, fun hg => ?_, fun g hg => ?_⟩, hwy.trans hby⟩
  · exact H.out.bel.trans ((hwy.trans hby).below (B := W.heap.size) (fun g hg => by rw [show g = b from hg]; exact H.out.low) H.out.bel.size)
  · have h1 := HST.out.lt hg
    have h4 : (w.drewN 1).heap.size = w.heap.size := rfl
    omega
  · have h1 := (HST.out.lt hg).1
    have h2 := lt_of_block H.out.obj
    have h4 : (w.drewN 1).heap.size = w.heap.size := rfl
    omega
  · rcases hg with hg | hg
    · have := H.out.bd g hg
      omega
    · have := H.out.bel.size
      omega
end Go.Proofs.YtfimoobgbodbmaaGreatDoor
/-! package mapper: output, when it is first asked for, and from then on. -/
namespace Go.Proofs.YtfimoobgbodbmaaGreatDoor
open Go.RowKit Go.Lib
set_option linter.unusedVariables false
set_option maxRecDepth 100000

theorem Fr.lock {W : World} {c : CfgV} {k b : Nat} {a : Int} {s : SlJ} {I : Nat → Prop} {w : World} (h : Fr W c k a b s 0 I w) : Fr W c k a b s 1 I (w.setCell ⟨b, 3, none⟩ (.int .i32 1)) := by
  have hs : Sav (Just b) w (w.setCell ⟨b, 3, none⟩ (.int .i32 1)) := (Sav.refl _ _).setCell (just b) 3 _
  have hnb : ∀ {e sz n : Nat} {u : Value} {xs : List Value}, w.ownsRow W.heap.size e sz u n xs → 90 ≠ e → (w.setCell ⟨b, 3, none⟩ (.int .i32 1)).ownsRow W.heap.size e sz u n xs := fun {e sz n u xs} ho he => owns_sav ho hs fun g hg e1 => owns_ne ho h.obj he (by rw [hg, show g = b from e1])
  obtain ⟨⟨x, h1, h2, h3, h4⟩, ⟨m1, m2⟩, ⟨c1, c2⟩, ⟨r1, r2⟩, k1, k2⟩ := h.job
  exact ⟨h.bel.trans (hs.below (B := W.heap.size) (fun g hg => by rw [show g = b from hg]; exact h.low) h.bel.size), set_same h.obj, ⟨⟨x, hnb h1 (by decide), hnb h2 (by decide), h3, h4⟩, ⟨hnb m1 (by decide), m2⟩, ⟨hnb c1 (by decide), c2⟩, ⟨hnb r1 (by decide), r2⟩, k1, k2⟩, h.inb, h.nb, fun g hg => ⟨(h.bd g hg).1, Nat.lt_of_lt_of_le (h.bd g hg).2 hs.size⟩⟩
/-- The once's cells have turned. -/
theorem MdG.once {W : World} {A : AtV} {b : Nat} {d l d' l' : Int} {ws : List WinV} {Z : List SX} {v : Value} {I : Nat → Prop} {w w' : World} (h : MdG W A b d l ws Z v I w) (hs : Sav (Just b) w w') (ho : w'.heap[b]? = some (mpObj A.split A.att d' l' (.slice none 0 0) 0 (.slice none 0 0) (.slice none 0 0) (.slice none 0 0) 0 0 0 A.R.2 v)) : MdG W A b d' l' ws Z v I w' :=
  ⟨h.bel.trans (hs.below (B := W.heap.size) (fun g hg => by rw [show g = b from hg]; exact (h.bd b h.inb).1) h.bel.size), ho, h.sts.sav hs (fun g hg e => h.nb (by rw [← show g = b from e]; exact hg)), h.ok, h.inb, h.ins, h.nb, fun g hg => ⟨(h.bd g hg).1, Nat.lt_of_lt_of_le (h.bd g hg).2 hs.size⟩⟩
theorem MdG.more {W : World} {A : AtV} {b : Nat} {d l : Int} {ws : List WinV} {Z : List SX} {v : Value} {I J : Nat → Prop} {w : World} (h : MdG W A b d l ws Z v I w) (hj : ∀ g, I g → J g) (hb : ∀ g, J g → W.heap.size ≤ g ∧ g < w.heap.size) : MdG W A b d l ws Z v J w :=
  ⟨h.bel, h.obj, h.sts, h.ok, hj b h.inb, fun g hg => hj g (h.ins g hg), h.nb, hb⟩

/-- The output is made. -/
def MadeM (W : World) (A : AtV) (b : Nat) (ws : List WinV) (I : Nat → Prop) (w w' : World) : Prop := ∃ Z v, Md W A b ws Z v (Grow I w w') w' ∧ Sav (Just b) w w'
set_option maxRecDepth 100000 in
set_option maxHeartbeats 4000000 in
theorem slowM {W : World} {c : CfgV} {k b : Nat} {a : Int} {s : SlJ} {I : Nat → Prop} (c0 : Nat) (w : World) (HBs : Base W c k a) (h : Fr W c k a b s 0 I w) (hc : w.heap[c0]? = some (.cells #[pt b] 32 (0, 0))) (hI : ¬ I c0) :
    Calls Tryz.prog 92 #[.pointer (some ⟨b, 2, none⟩), .func (.func 69) #[] #[.pointer (some ⟨c0, 0, none⟩)]] w fun e w' => e = .returned (.tuple #[]) ∧ MadeM W (attV c k a) b (attV c k a).ws0 I w w' := by
  have hne : c0 ≠ b := fun e => hI (by rw [e]; exact h.inb)
  have HS := hid HBs
  have H := hid h
  have HC := hid hc
  have HI := hid hI
  have hnot : ∀ (x : Bool) (w : World), (Op.unary .not (.bool x)).run Tryz.prog w = .ok (.bool (!x)) w := fun _ _ => rfl
  have h1 : w.cell? ⟨b, 3, none⟩ = some (.int .i32 0) := cell_of_cells h.obj
  have f1 : w.frozen? ⟨b, 3, none⟩ = false := free_of_cells h.obj
  have H1 := hid h1
  have F1 := hid f1
  clear h1 f1 h hc hI HBs
  go_enter_defers Tryz.func92, Tryz.ntmps92
  go_wp2_with fail
  refine (lock_free _ w H1.out F1.out).mono ?_
  rintro e w1 ⟨rfl, hw1⟩
  have HF1 := hid (show Fr W c k a b s 1 I w1 by rw [hw1]; exact H.out.lock)
  have hs1 : Sav (Just b) w w1 := by
    rw [hw1]
    exact (Sav.refl _ _).setCell (just b) 3 _
  have HC1 := hid (hs1.at HC.out hne)
  have HS1 := hid hs1
  clear hw1 hs1 H1 F1 HC
  go_wp2_with fail
  refine (bload_any _ 0 w1 (cell_of_cells HF1.out.obj)).mono ?_
  rintro e w2 ⟨rfl, rfl⟩
  have h00 : ((0 : Int) != 0) = false := rfl
  rw [h00]
  go_wp2_with fail
  refine (fillM c0 w1 HS.out HF1.out HC1.out HI.out).mono ?_
  rintro e w3 ⟨rfl, Z, v, hm, hs3⟩
  have HM := hid hm
  have HS3 := hid hs3
  clear hm hs3
  go_wp2
  refine leaves_cons (f := 114) (args := #[.pointer (some ⟨b, 2, none⟩), .bool true]) (by simp) (by simp [go_sem]) ?_
  refine (bstore_deferred ⟨b, 2, none⟩ (.int .u32 0) .returning _ (cell_of_cells HM.out.obj) (free_of_cells HM.out.obj)).mono ?_
  rintro e u' w4 ⟨rfl, rfl, hw4⟩
  have hs4 : Sav (Just b) w3 w4 := by
    rw [hw4]
    exact ((Sav.refl _ _).drew).setCell (just b) 2 _
  have hm4 : MdG W (attV c k a) b 1 1 (attV c k a).ws0 Z v (Grow I w1 w3) w4 := HM.out.once hs4 (by rw [hw4]; exact set_same (show w3.drew.heap[b]? = _ from HM.out.obj))
  clear hw4
  refine leaves_cons (f := 113) (args := #[.pointer (some ⟨b, 3, none⟩)]) (by simp [settle]) (by simp [go_sem]) ?_
  refine (unlock_deferred ⟨b, 3, none⟩ _ _ (cell_of_cells hm4.obj) (free_of_cells hm4.obj)).mono ?_
  rintro e u' w5 ⟨rfl, rfl, hw5⟩
  have hs5 : Sav (Just b) w4 w5 := by
    rw [hw5]
    exact (Sav.refl _ _).setCell (just b) 3 _
  have hm5 : MdG W (attV c k a) b 1 0 (attV c k a).ws0 Z v (Grow I w1 w3) w5 := hm4.once hs5 (by rw [hw5]; exact set_same hm4.obj)
  simp [Leaves, settle, results, Tryz.results92]
  have hall : Sav (Just b) w w5 := ((HS1.out.trans HS3.out).trans hs4).trans hs5
  have z1 := HS1.out.size
  have z4 := (hs4.trans hs5).size
  refine ⟨Z, v, hm5.more (fun g hg => ?_) (fun g hg => ?_), hall⟩
  · rcases hg with hg | hg
    · exact .inl hg
    · exact .inr ⟨by omega, by omega⟩
  · rcases hg with hg | hg
    · have := H.out.bd g hg
      have := hall.size
      omega
    · have := H.out.bel.size
      omega

theorem doM {W : World} {c : CfgV} {k b : Nat} {a : Int} {s : SlJ} {I : Nat → Prop} (c0 : Nat) (w : World) (HBs : Base W c k a) (h : Fr W c k a b s 0 I w) (hc : w.heap[c0]? = some (.cells #[pt b] 32 (0, 0))) (hI : ¬ I c0) :
    Calls Tryz.prog 68 #[.pointer (some ⟨b, 2, none⟩), .func (.func 69) #[] #[.pointer (some ⟨c0, 0, none⟩)]] w fun e w' => e = .returned (.tuple #[]) ∧ MadeM W (attV c k a) b (attV c k a).ws0 I w w' := by
  have H := hid (slowM c0 w HBs h hc hI)
  have HO := hid h.obj
  clear HBs h hc hI
  have hnot : ∀ (x : Bool) (w : World), (Op.unary .not (.bool x)).run Tryz.prog w = .ok (.bool (!x)) w := fun _ _ => rfl
  go_enter Tryz.func68, Tryz.ntmps68
  go_wp2_with fail
  refine (bload_any _ 0 w (cell_of_cells HO.out)).mono ?_
  rintro e w2 ⟨rfl, rfl⟩
  have h00 : ((0 : Int) != 0) = false := rfl
  rw [h00]
  go_wp2_with fail
  refine H.out.mono ?_
  rintro e w3 ⟨rfl, hr⟩
  have HR := hid hr
  clear hr
  go_wp2
  go_end0
  exact ⟨rfl, HR.out⟩
theorem doM_done {W : World} {A : AtV} {b : Nat} {ws : List WinV} {Z : List SX} {v fv : Value} {I : Nat → Prop} (w : World) (h : Md W A b ws Z v I w) :
    Calls Tryz.prog 68 #[.pointer (some ⟨b, 2, none⟩), fv] w fun e w' => e = .returned (.tuple #[]) ∧ w' = w := by
  have HO := hid h.obj
  clear h
  have hnot : ∀ (x : Bool) (w : World), (Op.unary .not (.bool x)).run Tryz.prog w = .ok (.bool (!x)) w := fun _ _ => rfl
  go_enter Tryz.func68, Tryz.ntmps68
  go_wp2_with fail
  refine (bload_any _ 1 w (cell_of_cells HO.out)).mono ?_
  rintro e w2 ⟨rfl, rfl⟩
  have h00 : ((1 : Int) != 0) = true := rfl
  rw [h00]
  go_wp2
  go_end0
  exact ⟨rfl, rfl⟩
/-- Where the output lies. -/
abbrev ptO (b : Nat) : Value := .pointer (some ⟨b, 14, none⟩)
set_option maxHeartbeats 4000000 in
theorem output_first {W : World} {c : CfgV} {k b : Nat} {a : Int} {s : SlJ} {I : Nat → Prop} (w : World) (HBs : Base W c k a) (h : Fr W c k a b s 0 I w) :
    Calls Tryz.prog 44 #[pt b] w fun e w' => e = .returned (ptO b) ∧ MadeM W (attV c k a) b (attV c k a).ws0 I w w' := by
  have hb1 := alloc_one w (.cells #[pt b] 32)
  have hn1 := new_block w (.cells #[pt b] 32)
  have HD := hid (doM w.heap.size _ HBs (h.below hb1) hn1 (fun hi => by have := (h.bd _ hi).2; omega))
  have c1 : (w.alloc (.cells #[pt b] 32)).cell? ⟨w.heap.size, 0, none⟩ = some (pt b) := cell_of_cells hn1
  have HN := hid hn1
  have HI := hid h.inb
  have HBD := hid h.bd
  have HL := hid h.low
  have HZ := hid h.bel.size
  clear h hb1 hn1 HBs
  go_enter Tryz.func44, Tryz.ntmps44
  go_wp2_with fail
  refine HD.out.mono ?_
  rintro e w3 ⟨rfl, Z, v, hm, hs3⟩
  have hne : w.heap.size ≠ b := by have := (HBD.out b HI.out).2; omega
  have c3 : w3.cell? ⟨w.heap.size, 0, none⟩ = some (pt b) := cell_of_cells (hs3.at HN.out hne)
  have HM := hid hm
  have HS3 := hid hs3
  clear hm hs3 hne c1
  go_wp2
  go_ret
  have hs := (Sav.of_below (S := Just b) (alloc_one w (.cells #[pt b] 32))).trans HS3.out
  have hz1 : (w.alloc (.cells #[pt b] 32)).heap.size = w.heap.size + 1 := by simp
  have hz3 := HS3.out.size
  have hz4 := HZ.out
  refine ⟨rfl, Z, v, HM.out.more (fun g hg => ?_) (fun g hg => ?_), hs⟩
  · rcases hg with hg | hg
    · exact .inl hg
    · exact .inr ⟨by omega, by omega⟩
  · rcases hg with hg | hg
    · have := HBD.out g hg
      omega
    · omega
set_option maxHeartbeats 4000000 in
theorem output_done {W : World} {A : AtV} {b : Nat} {ws : List WinV} {Z : List SX} {v : Value} {I : Nat → Prop} (w : World) (h : Md W A b ws Z v I w) :
    Calls Tryz.prog 44 #[pt b] w fun e w' => e = .returned (ptO b) ∧ Below w.heap.size w w' := by
  have hb1 := alloc_one w (.cells #[pt b] 32)
  have hn1 := new_block w (.cells #[pt b] 32)
  have HD := hid (fun fv => doM_done (fv := fv) _ (h.below hb1))
  have c1 : (w.alloc (.cells #[pt b] 32)).cell? ⟨w.heap.size, 0, none⟩ = some (pt b) := cell_of_cells hn1
  have HB := hid hb1
  clear h hb1 hn1
  go_enter Tryz.func44, Tryz.ntmps44
  go_wp2_with fail
  refine (HD.out _).mono ?_
  rintro e w3 ⟨rfl, rfl⟩
  go_wp2
  go_ret
  exact ⟨rfl, HB.out⟩
end Go.Proofs.YtfimoobgbodbmaaGreatDoor
