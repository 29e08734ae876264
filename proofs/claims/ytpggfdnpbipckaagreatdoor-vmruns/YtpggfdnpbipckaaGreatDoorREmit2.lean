/- does of chapter 6's own answer: OpEmit, where it tells a pair. -/
import Derived.Test.YtpggfdnpbipckaaGreatDoorREmit
import Derived.Test.YtpggfdnpbipckaaGreatDoorHeldBy
namespace Go.Proofs.YtpggfdnpbipckaaGreatDoor
open Go.RowKit Go.Lib
set_option linter.unusedVariables false
set_option maxRecDepth 100000

variable {w0 : World} {b : Nat} {key : ByteArray} {vv vs vt : Value} {m : St} {w : World}
/-- append onto what the call owns, as one step of a region that draws its order; the slot is written out. -/
theorem step_append_at {P : Program} {ops : Array Oper} {o : Oper} {a : Act} {w : World} {K : Act → World → Prop} {Q : Exit → Act → World → Prop} {C : Prop}
    (d : Nat) (hdst : o.dst = some d) (hg : o.guard = none) (s x : Operand) (t : TypeId) (hop : o.op = Op.call { callee := Callee.builtin Builtin.append, args := #[s, x], argTypes := #[t, t] })
    (base : Nat) (e : TypeId) (i : TypeInfo) (z : Value) (size bytes : Nat) (h1 : P.underlying t = some (.slice e)) (h2 : P.info? e = some i) (h3 : i.zero = some z) (h4 : i.size = size) (h5 : i.bytes = bytes) (h6 : z.cells.size = size) (h7 : 0 < size)
    (v : Value) (n : Nat) (xs : List Value) (hs : a.eval s = v) (hown : w.ownsRow base e size v n xs)
    (ad : Addr) (m c : Nat) (news : List Value) (hx : a.eval x = .slice (some ad) m c) (hn : news.length = m * size) (hc : ∀ j u, news[j]? = some u → w.cell? (ad.add j) = some u) (h1c : ∀ u ∈ news, u.oneCell' = true)
    (b1 : n + m ≤ maxLen) (b2 : (n + m) * bytes ≤ 140737488355328) (hb : base ≤ w.heap.size)
    (hK : ∀ v' w', w'.ownsRow base e size v' (n + m) (xs ++ news) → w.grownBy w' v.ownBlock → K (a.put (some d) v') w') :
    if Region.wanted o (yielded ops a.tmps) = true then Oper.wp P o a w K Q else C :=
  step_append_own hg s x t hop base e i z size bytes h1 h2 h3 h4 h5 h6 h7 v n xs hs hown ad m c news hx hn hc h1c b1 b2 hb (by rw [hdst]; exact hK)
/-- The pairs' row has grown, and its slice is written anew. -/
theorem Mac.emitted (h : Mac w0 b key vv vs vt m w) {w' : World} {vt' : Value} {l : List Pr} (ho : w'.ownsRow w0.heap.size 41 2 vt' l.length (fl encP l)) (hg : w.grownBy w' vt.ownBlock) : Mac w0 b key vv vs vt' { m with told := l } (w'.setCell ⟨b, 28, none⟩ vt') := by
  obtain ⟨cs, hc, hC⟩ := h.blk
  have hb : w'.heap[b]? = some (.cells cs 69 (0, 0)) := (hg.block _ (Array.getElem?_eq_some_iff.1 hc).1 (fun e => owns_off h.tl hc (by decide) e.symm)).trans hc
  have hbel : Below w0.heap.size w0 w' := h.bel.grown hg h.bel.size (fun q hq => owns_base h.tl hq)
  refine ⟨below_set hbel h.base 28 vt', h.base, ⟨_, set_block hb 28 vt', ?_⟩, owns_set (owns_grown h.st h.tl (by decide) hg) hb (by decide) 28 vt', owns_set ho hb (by decide) 28 vt'⟩
  exact ⟨by simpa using hC.size, by rw [Array.getElem?_setIfInBounds_ne (by omega)]; exact hC.s, fun k hk i u hu => by
    have hi : i < 3 := by have := (List.getElem?_eq_some_iff.1 hu).1; rw [encV_len] at this; exact this
    rw [Array.getElem?_setIfInBounds_ne (by omega)]; exact hC.r k hk i u hu, by rw [Array.getElem?_setIfInBounds_ne (by omega)]; exact hC.k, by rw [Array.getElem?_setIfInBounds_ne (by omega)]; exact hC.v, by rw [Array.getElem?_setIfInBounds_ne (by omega)]; exact hC.t, by rw [set_self (by rw [hC.size]; omega)]⟩
theorem Mac.heldP (h : Mac w0 b key vv vs vt m w) {w' : World} (hg : w.grownBy w' vt.ownBlock) : w'.heap[b]? = w.heap[b]? := by
  obtain ⟨cs, hc, hC⟩ := h.blk
  exact hg.block _ (Array.getElem?_eq_some_iff.1 hc).1 (fun e => owns_off h.tl hc (by decide) e.symm)
theorem Mac.heldS (h : Mac w0 b key vv vs vt m w) {w' : World} (hg : w.grownBy w' vs.ownBlock) : w'.heap[b]? = w.heap[b]? := by
  obtain ⟨cs, hc, hC⟩ := h.blk
  exact hg.block _ (Array.getElem?_eq_some_iff.1 hc).1 (fun e => owns_off h.st hc (by decide) e.symm)
theorem Mac.freeAt (h : Mac w0 b key vv vs vt m w) {w' : World} (he : w'.heap[b]? = w.heap[b]?) (j : Nat) : w'.frozen? ⟨b, j, none⟩ = false := by
  obtain ⟨cs, hc, hC⟩ := h.blk
  exact free_of_cells (he.trans hc)
set_option maxHeartbeats 4000000 in
set_option maxRecDepth 100000 in
theorem does_emit (h : Mac w0 b key vv vs vt m w) (A : Int) (s : ByteArray) (v : Value) (k x : ByteArray) (hv : Vls w v [.text k, .text x]) (hk : k.size ≤ 16) (hm : m.told.length < 40) (hne : v.ownBlock ≠ some b) (hne2 : ∀ g, v.ownBlock = some g → vt.ownBlock ≠ some g) :
    Calls Tryz.prog 65 #[.pointer (some ⟨b, 0, none⟩), .agg #[.int .i64 23, .int .i64 A, .string s], v] w (Leaves w0 b key vv { m with told := m.told ++ [(k, x)] } []) := by
  obtain ⟨g, off, cap, rfl, h2, hlt, hc⟩ := hv.lie (by simp)
  obtain ⟨o0, o2, rfl⟩ := own_slice h.tl
  have hgb : g ≠ b := fun e => hne (by rw [e]; rfl)
  have hgt := hne2 g rfl
  have H1 := alloc1 w (Obj.cells #[.int .i64 23, .int .i64 A, .string s] 43)
  have c2 : (w.alloc (Obj.cells #[.int .i64 23, .int .i64 A, .string s] 43)).cell? ⟨g, off + 2, none⟩ = some (.string k) := (H1.cell (p := ⟨g, off + 2, none⟩) hlt).trans (by simpa using hc 0 _ rfl 2 _ rfl)
  have c5 : (w.alloc (Obj.cells #[.int .i64 23, .int .i64 A, .string s] 43)).cell? ⟨g, off + 3 + 2, none⟩ = some (.string x) := (H1.cell (p := ⟨g, off + 3 + 2, none⟩) hlt).trans (by simpa using hc 1 _ rfl 2 _ rfl)
  have HM := hid (h.on H1)
  have c28 : (w.alloc (Obj.cells #[.int .i64 23, .int .i64 A, .string s] 43)).cell? ⟨b, 28, none⟩ = some (.slice o0 m.told.length o2) := HM.out.cP
  have f28 := HM.out.free 28
  have hd : decide ((16 : Int) < (k.size : Int)) = false := by simp; omega
  have hd2 : decide ((40 : Int) ≤ (m.told.length : Int)) = false := by simp; omega
  have hlt2 : g < (w.alloc (Obj.cells #[.int .i64 23, .int .i64 A, .string s] 43)).heap.size := by simp; omega
  clear hc hv h hne hne2 H1 hlt
  simp only [List.length_cons, List.length_nil, Nat.zero_add, Nat.reduceAdd] at h2
  go_enter Tryz.func65, Tryz.ntmps65
  go_wp2_with fail
  generalize w.alloc (Obj.cells #[.int .i64 23, .int .i64 A, .string s] 43) = W at HM c2 c5 c28 f28 hlt2 ⊢
  have HA := below_then (alloc1 W (Obj.cells #[.string k, .string x] 41)) (drew1 _) (alloc1 W _).size
  have HX := hid (HM.out.on HA)
  have d28 : (W.alloc (Obj.cells #[.string k, .string x] 41)).cell? ⟨b, 28, none⟩ = some (.slice o0 m.told.length o2) := (HM.out.on (alloc1 W _)).cP
  obtain ⟨i0, hi, hz0, hz1, hz2⟩ := info_parts Tryz.infoP
  refine wp_region_held_drew (S := fun w' => w'.cell? ⟨g, off + 2, none⟩ = some (.string k) ∧ w'.cell? ⟨g, off + 3 + 2, none⟩ = some (.string x)) (by kernel_rfl) ⟨c2, c5⟩ (fun hHeld => ?_)
  refine takeH 0 251 (.pointer (some ⟨b, 0, none⟩)) rfl rfl (by kernel_rfl) (by kernel_rfl) (by kernel_rfl) (fun _ _ _ h => h) (by rfl) ?_ (by assumption) ?_
  · intro w' hSw
    go_simp
  simp only [Act.put, List.setIfInBounds_toArray, List.set_cons_zero, List.set_cons_succ]
  refine takeH 1 252 (.pointer (some ⟨b, 0, none⟩)) rfl rfl (by kernel_rfl) (by kernel_rfl) (by kernel_rfl) (fun _ _ _ h => h) (by rfl) ?_ (by assumption) ?_
  · intro w' hSw
    go_simp
  simp only [Act.put, List.setIfInBounds_toArray, List.set_cons_zero, List.set_cons_succ]
  refine takeH 2 253 (.pointer (some ⟨b, 0, none⟩)) rfl rfl (by kernel_rfl) (by kernel_rfl) (by kernel_rfl) (fun _ _ _ h => h) (by rfl) ?_ (by assumption) ?_
  · intro w' hSw
    go_simp
  simp only [Act.put, List.setIfInBounds_toArray, List.set_cons_zero, List.set_cons_succ]
  refine takeH 3 254 (.pointer (some ⟨b, 28, none⟩)) rfl rfl (by kernel_rfl) (by kernel_rfl) (by kernel_rfl) (fun _ _ _ h => h) (by rfl) ?_ (by assumption) ?_
  · intro w' hSw
    go_simp
  simp only [Act.put, List.setIfInBounds_toArray, List.set_cons_zero, List.set_cons_succ]
  refine takeH 5 256 (.slice (some ⟨g, off, none⟩) 2 cap) rfl rfl (by kernel_rfl) (by kernel_rfl) (by kernel_rfl) (fun _ _ _ h => h) (by rfl) ?_ (by assumption) ?_
  · intro w' hSw
    go_simp
  simp only [Act.put, List.setIfInBounds_toArray, List.set_cons_zero, List.set_cons_succ]
  refine takeH 6 257 (.pointer (some ⟨g, off, none⟩)) rfl rfl (by kernel_rfl) (by kernel_rfl) (by kernel_rfl) (fun _ _ _ h => h) (by rfl) ?_ (by assumption) ?_
  · intro w' hSw
    go_simp
  simp only [Act.put, List.setIfInBounds_toArray, List.set_cons_zero, List.set_cons_succ]
  refine takeH 7 258 (.pointer (some ⟨g, off + 2, none⟩)) rfl rfl (by kernel_rfl) (by kernel_rfl) (by kernel_rfl) (fun _ _ _ h => h) (by rfl) ?_ (by assumption) ?_
  · intro w' hSw
    go_simp
  simp only [Act.put, List.setIfInBounds_toArray, List.set_cons_zero, List.set_cons_succ]
  refine takeH 8 259 (.string k) rfl rfl (by kernel_rfl) (by kernel_rfl) (by kernel_rfl) (fun _ _ _ h => h) (by rfl) ?_ (by assumption) ?_
  · intro w' hSw
    go_simp
  simp only [Act.put, List.setIfInBounds_toArray, List.set_cons_zero, List.set_cons_succ]
  refine takeH 9 260 (.slice (some ⟨g, off, none⟩) 2 cap) rfl rfl (by kernel_rfl) (by kernel_rfl) (by kernel_rfl) (fun _ _ _ h => h) (by rfl) ?_ (by assumption) ?_
  · intro w' hSw
    go_simp
  simp only [Act.put, List.setIfInBounds_toArray, List.set_cons_zero, List.set_cons_succ]
  refine takeH 10 261 (.pointer (some ⟨g, off + 3, none⟩)) rfl rfl (by kernel_rfl) (by kernel_rfl) (by kernel_rfl) (fun _ _ _ h => h) (by rfl) ?_ (by assumption) ?_
  · intro w' hSw
    go_simp
  simp only [Act.put, List.setIfInBounds_toArray, List.set_cons_zero, List.set_cons_succ]
  refine takeH 11 262 (.pointer (some ⟨g, off + 3 + 2, none⟩)) rfl rfl (by kernel_rfl) (by kernel_rfl) (by kernel_rfl) (fun _ _ _ h => h) (by rfl) ?_ (by assumption) ?_
  · intro w' hSw
    go_simp
  simp only [Act.put, List.setIfInBounds_toArray, List.set_cons_zero, List.set_cons_succ]
  refine takeH 12 263 (.string x) rfl rfl (by kernel_rfl) (by kernel_rfl) (by kernel_rfl) (fun _ _ _ h => h) (by rfl) ?_ (by assumption) ?_
  · intro w' hSw
    go_simp
  simp only [Act.put, List.setIfInBounds_toArray, List.set_cons_zero, List.set_cons_succ]
  refine takeH 13 264 (.agg #[.string k, .string x]) rfl rfl (by kernel_rfl) (by kernel_rfl) (by kernel_rfl) (fun _ _ _ h => h) (by rfl) ?_ (by assumption) ?_
  · intro w' hSw
    go_simp
  simp only [Act.put, List.setIfInBounds_toArray, List.set_cons_zero, List.set_cons_succ]
  refine wpAnyH_ready (rs := [4, 14]) (by kernel_rfl) (by simp) (nextH 4 rfl (by rfl) (fun K hK => ?_) (nextH 14 rfl (by rfl) (fun K hK => ?_) AllReadyH.nil))
  · go_simp
    refine hK.out _ _ hHeld (fun hHeld => ?_)
    clear hK K
    refine wpAnyH_ready (rs := [14]) (by kernel_rfl) (by simp) (nextH 14 rfl (by rfl) (fun K hK => ?_) AllReadyH.nil)
    go_simp
    refine hK.out _ _ ⟨stays_cell HA hlt2 c2, stays_cell HA hlt2 c5⟩ (fun hHeld => ?_)
    clear hK K
    refine wpAnyH_ready (rs := [15]) (by kernel_rfl) (by simp) (AllReadyH.cons rfl (fun K hK => ?_) AllReadyH.nil)
    refine step_append_at 266 rfl rfl (.tmp 255) (.tmp 265) 28 rfl w0.heap.size 41 i0 _ 2 32 Tryz.underlying28 hi hz0 hz1 hz2 rfl (by decide) (.slice o0 m.told.length o2) m.told.length (fl encP m.told) (by simp [Act.eval]) HX.out.tl ⟨W.heap.size, 0, none⟩ 1 1 [.string k, .string x] (by simp [Act.eval]) rfl (two_new W _ _ _) (by intro u hu; simp at hu; rcases hu with rfl | rfl <;> rfl) (by unfold maxLen; omega) (by omega) (HX.out.bel.size) ?_
    intro v1 w2 ho1 hg1
    have HO := hid ho1
    have HG := hid hg1
    have hg2 : w2.heap[g]? = ((W.alloc (Obj.cells #[.string k, .string x] 41)).drew).heap[g]? := hg1.block g (Nat.lt_of_lt_of_le hlt2 HA.size) (fun e => hgt e.symm)
    have e2 := (World.cell?_of_block (a := ⟨g, off + 2, none⟩) hg2).trans (stays_cell HA hlt2 c2)
    have e5 := (World.cell?_of_block (a := ⟨g, off + 3 + 2, none⟩) hg2).trans (stays_cell HA hlt2 c5)
    have e28 : w2.cell? ⟨b, 28, none⟩ = some (.slice o0 m.told.length o2) := (World.cell?_of_block (a := ⟨b, 28, none⟩) (HX.out.heldP hg1)).trans HX.out.cP
    have g28 : w2.frozen? ⟨b, 28, none⟩ = false := HX.out.freeAt (HX.out.heldP hg1) 28
    obtain ⟨ao1, cc1, rfl⟩ := own_slice ho1
    clear ho1 hg1
    refine hK.out _ _ ⟨e2, e5⟩ (fun hHeld => ?_)
    clear hK K
    simp only [Act.put, List.setIfInBounds_toArray, List.set_cons_zero, List.set_cons_succ]
    refine takeH 16 267 (.pointer (some ⟨b, 0, none⟩)) rfl rfl (by kernel_rfl) (by kernel_rfl) (by kernel_rfl) (fun _ _ _ h => h) (by rfl) ?_ (by assumption) ?_
    · intro w' hSw
      go_simp
    simp only [Act.put, List.setIfInBounds_toArray, List.set_cons_zero, List.set_cons_succ]
    refine takeH 17 268 (.pointer (some ⟨b, 28, none⟩)) rfl rfl (by kernel_rfl) (by kernel_rfl) (by kernel_rfl) (fun _ _ _ h => h) (by rfl) ?_ (by assumption) ?_
    · intro w' hSw
      go_simp
    simp only [Act.put, List.setIfInBounds_toArray, List.set_cons_zero, List.set_cons_succ]
    refine wpAnyH_ready (rs := [18]) (by kernel_rfl) (by simp) (nextH 18 rfl (by rfl) (fun K hK => ?_) AllReadyH.nil)
    go_simp
    refine hK.out _ _ ⟨(set_cell_off hgb).trans e2, (set_cell_off hgb).trans e5⟩ (fun hHeld => ?_)
    clear hK K
    refine wpAnyH_done (by kernel_rfl) ?_ _
    go_wp2
    go_ret2
    exact ⟨_, _, _, rfl, Reads.nil _, HX.out.emitted (told_row HO.out) HG.out⟩
  · go_simp
    refine hK.out _ _ ⟨stays_cell HA hlt2 c2, stays_cell HA hlt2 c5⟩ (fun hHeld => ?_)
    clear hK K
    refine wpAnyH_ready (rs := [4]) (by kernel_rfl) (by simp) (nextH 4 rfl (by rfl) (fun K hK => ?_) AllReadyH.nil)
    go_simp
    refine hK.out _ _ hHeld (fun hHeld => ?_)
    clear hK K
    refine wpAnyH_ready (rs := [15]) (by kernel_rfl) (by simp) (AllReadyH.cons rfl (fun K hK => ?_) AllReadyH.nil)
    refine step_append_at 266 rfl rfl (.tmp 255) (.tmp 265) 28 rfl w0.heap.size 41 i0 _ 2 32 Tryz.underlying28 hi hz0 hz1 hz2 rfl (by decide) (.slice o0 m.told.length o2) m.told.length (fl encP m.told) (by simp [Act.eval]) HX.out.tl ⟨W.heap.size, 0, none⟩ 1 1 [.string k, .string x] (by simp [Act.eval]) rfl (two_new W _ _ _) (by intro u hu; simp at hu; rcases hu with rfl | rfl <;> rfl) (by unfold maxLen; omega) (by omega) (HX.out.bel.size) ?_
    intro v1 w2 ho1 hg1
    have HO := hid ho1
    have HG := hid hg1
    have hg2 : w2.heap[g]? = ((W.alloc (Obj.cells #[.string k, .string x] 41)).drew).heap[g]? := hg1.block g (Nat.lt_of_lt_of_le hlt2 HA.size) (fun e => hgt e.symm)
    have e2 := (World.cell?_of_block (a := ⟨g, off + 2, none⟩) hg2).trans (stays_cell HA hlt2 c2)
    have e5 := (World.cell?_of_block (a := ⟨g, off + 3 + 2, none⟩) hg2).trans (stays_cell HA hlt2 c5)
    have e28 : w2.cell? ⟨b, 28, none⟩ = some (.slice o0 m.told.length o2) := (World.cell?_of_block (a := ⟨b, 28, none⟩) (HX.out.heldP hg1)).trans HX.out.cP
    have g28 : w2.frozen? ⟨b, 28, none⟩ = false := HX.out.freeAt (HX.out.heldP hg1) 28
    obtain ⟨ao1, cc1, rfl⟩ := own_slice ho1
    clear ho1 hg1
    refine hK.out _ _ ⟨e2, e5⟩ (fun hHeld => ?_)
    clear hK K
    simp only [Act.put, List.setIfInBounds_toArray, List.set_cons_zero, List.set_cons_succ]
    refine takeH 16 267 (.pointer (some ⟨b, 0, none⟩)) rfl rfl (by kernel_rfl) (by kernel_rfl) (by kernel_rfl) (fun _ _ _ h => h) (by rfl) ?_ (by assumption) ?_
    · intro w' hSw
      go_simp
    simp only [Act.put, List.setIfInBounds_toArray, List.set_cons_zero, List.set_cons_succ]
    refine takeH 17 268 (.pointer (some ⟨b, 28, none⟩)) rfl rfl (by kernel_rfl) (by kernel_rfl) (by kernel_rfl) (fun _ _ _ h => h) (by rfl) ?_ (by assumption) ?_
    · intro w' hSw
      go_simp
    simp only [Act.put, List.setIfInBounds_toArray, List.set_cons_zero, List.set_cons_succ]
    refine wpAnyH_ready (rs := [18]) (by kernel_rfl) (by simp) (nextH 18 rfl (by rfl) (fun K hK => ?_) AllReadyH.nil)
    go_simp
    refine hK.out _ _ ⟨(set_cell_off hgb).trans e2, (set_cell_off hgb).trans e5⟩ (fun hHeld => ?_)
    clear hK K
    refine wpAnyH_done (by kernel_rfl) ?_ _
    go_wp2
    go_ret2
    exact ⟨_, _, _, rfl, Reads.nil _, HX.out.emitted (told_row HO.out) HG.out⟩
end Go.Proofs.YtpggfdnpbipckaaGreatDoor
