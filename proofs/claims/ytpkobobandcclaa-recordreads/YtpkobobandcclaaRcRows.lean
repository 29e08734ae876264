/- Rows of records that grow; the program's Read. -/
import Derived.Test.YtpkobobandcclaaRcOneAt
namespace Go.Proofs.Ytpkobobandcclaa
open Go.RowKit
set_option linter.unusedVariables false

def RecX.sv (x : RecX) : Value := .slice x.so x.r.set.length x.sc
def RecX.pv (x : RecX) : Value := .slice x.po x.r.prs.length x.pc
/-- Their lists share no memory. -/
def RecX.Apart (x y : RecX) : Prop := (∀ g, x.sv.ownBlock = some g → y.sv.ownBlock ≠ some g) ∧ (∀ g, x.pv.ownBlock = some g → y.pv.ownBlock ≠ some g)
/-- A row of records that is owned from B on; each one's lists are owned, and apart. -/
structure RRows (B : Nat) (xs : List RecX) (u : Value) (w : World) : Prop where
  row : w.ownsRow B 33 7 u xs.length (fl encR xs)
  own : ∀ x ∈ xs, x.Own B w
  apart : xs.Pairwise RecX.Apart
theorem RRows.nil (B : Nat) (w : World) : RRows B [] (.slice none 0 0) w := ⟨World.ownsRow_nil _ _ _ _, fun x hx => by simp at hx, List.Pairwise.nil⟩
theorem RRows.below {B : Nat} {xs : List RecX} {u : Value} {w w' : World} (h : RRows B xs u w) (hb : Below w.heap.size w w') : RRows B xs u w' := ⟨owns_below h.row hb, fun x hx => (h.own x hx).below hb, h.apart⟩
theorem RRows.recs {B : Nat} {xs : List RecX} {u : Value} {w : World} (h : RRows B xs u w) : Recs w u (xs.map (·.r)) := ⟨xs, Reads.own encR_len (by decide) h.row, rfl, fun x hx => (h.own x hx).is⟩
theorem RecX.Own.low {B C : Nat} {x : RecX} {w : World} (h : x.Own B w) (hc : C ≤ B) : x.Own C w := ⟨owns_low h.set hc, owns_low h.prs hc⟩
theorem RecX.Own.grown {B C n s : Nat} {x : RecX} {w w' : World} {u : Value} {ys : List Value} (h : x.Own B w) (ho : w.ownsRow C 33 s u n ys) (hg : w.grownBy w' u.ownBlock) : x.Own B w' := ⟨owns_grown h.set ho (by decide) hg, owns_grown h.prs ho (by decide) hg⟩
/-- One more record, whose lists are new. -/
theorem RRows.push {B : Nat} {xs : List RecX} {x : RecX} {u u' : Value} {wr w w' : World} (h0 : RRows B xs u wr) (hb : Below wr.heap.size wr w) (hx : x.Own wr.heap.size w) (hB : B ≤ wr.heap.size) (ho : w'.ownsRow B 33 7 u' (xs.length + 1) (fl encR xs ++ encR x)) (hg : w.grownBy w' u.ownBlock) : RRows B (xs ++ [x]) u' w' := by
  have h1 := h0.below hb
  refine ⟨by rw [List.length_append, fl_append, List.length_singleton]; have : fl encR [x] = encR x := by simp [fl]
             rw [this]; exact ho, fun y hy => ?_, ?_⟩
  · rcases List.mem_append.1 hy with e | e
    · exact (h1.own y e).grown h1.row hg
    · rw [List.mem_singleton.1 e]
      exact (hx.low hB).grown h1.row hg
  · rw [List.pairwise_append]
    refine ⟨h0.apart, List.pairwise_singleton _ _, fun y hy z hz => ?_⟩
    rw [List.mem_singleton.1 hz]
    have hy1 := h0.own y hy
    refine ⟨fun g hg hq => ?_, fun g hg hq => ?_⟩
    · have e1 := (hy1.set.lt g hg).2
      have e2 := (hx.set.lt g hq).1
      omega
    · have e1 := (hy1.prs.lt g hg).2
      have e2 := (hx.prs.lt g hq).1
      omega
theorem new_cells (w : World) (xs : Array Value) (t : TypeId) : ∀ j u, xs.toList[j]? = some u → (w.alloc (.cells xs t)).cell? ((⟨w.heap.size, 0, none⟩ : Addr).add j) = some u := by
  intro j u h
  rw [addr_add, Nat.zero_add, cell_of_cells (new_block w (.cells xs t))]
  simpa using h

/-! ### What bytes begin with, as far as it was read -/
structure Upto (l : List Int) (rs : List RecV) (a : Nat) : Prop where
  at_ : a = (flatR rs).length
  le : a ≤ l.length
  may : ∀ r ∈ rs, mayR r = true
  eq : l = flatR rs ++ l.drop a
theorem Upto.start (l : List Int) : Upto l [] 0 := ⟨rfl, Nat.zero_le _, fun r h => by simp at h, by simp [flatR]⟩
theorem Upto.step {l : List Int} {rs : List RecV} {a : Nat} {r : RecV} (h : Upto l rs a) (k : Has (l.drop a) r) : Upto l (rs ++ [r]) (a + (layR r).length) := by
  obtain ⟨k1, s, k2⟩ := k
  have hl := congrArg List.length k2
  rw [List.length_drop, List.length_append] at hl
  have hle := h.le
  refine ⟨by rw [flatR_app, List.length_append, h.at_]; simp [flatR], by omega, fun q hq => ?_, ?_⟩
  · rcases List.mem_append.1 hq with e | e
    · exact h.may q e
    · rw [List.mem_singleton.1 e]; exact k1
  · have e2 : l.drop (a + (layR r).length) = s := by
      rw [← List.drop_drop, k2, List.drop_left]
    rw [e2, flatR_app, List.append_assoc, show flatR [r] = layR r by simp [flatR], ← k2]
    exact h.eq
theorem Upto.begins {l : List Int} {rs : List RecV} {a : Nat} (h : Upto l rs a) (k : HasNone (l.drop a)) : Begins l rs a := ⟨h.may, h.at_, _, h.eq, k⟩
theorem Upto.few {l : List Int} {rs : List RecV} {a : Nat} (h : Upto l rs a) : 64 * rs.length ≤ a := by
  rw [h.at_]
  have : ∀ rs : List RecV, 64 * rs.length ≤ (flatR rs).length := by
    intro rs
    induction rs with
    | nil => simp
    | cons r rs ih =>
      rw [flatR_cons, List.length_append, layR_length, bodyR_length, List.length_cons]
      omega
  exact this rs

set_option maxRecDepth 100000 in
set_option maxHeartbeats 16000000 in
theorem recRead_any (v : Value) (l : List Int) (w : World) (hv : Bs w v l) (hB : Byt l) (hl : l.length ≤ 1000000) :
    Calls Try.prog 17 #[v] w fun e w' => ∃ (u : Value) (xs : List RecX) (n : Nat), e = .returned (.tuple #[u, .int .i64 (n : Int)]) ∧ RRows w.heap.size xs u w' ∧ Begins l (xs.map (·.r)) n ∧ Below w.heap.size w w' := by
  have HV := hid hv
  have HY := hid hB
  have hv' := hv
  obtain ⟨vo, cap, rfl, v1, v2, v3, -⟩ := hv'
  unfold maxLen at v2
  obtain ⟨i0, hi, hz0, hz1, hz2⟩ := info_parts Try.infoR
  clear hv hB v3
  go_enter Try.func17, Try.ntmps17
  go_wp2
  go_loopw [4, 5] (fun u i wr => ∃ (xs : List RecX) (a : Nat), i = .int .i64 a ∧ Upto l (xs.map (·.r)) a ∧ RRows w.heap.size xs u wr ∧ Below w.heap.size w wr) (fun _ i _ => l.length - (intOf i).toNat)
  case atStart => exact ⟨[], 0, rfl, Upto.start l, RRows.nil _ _, Below.refl _ _⟩
  case round =>
    obtain ⟨xs, a, rfl, hu, hr, hb⟩ := hrel
    have HU := hid hu
    have HR := hid hr
    have hlow := hb.size
    have hle := hu.le
    have hfew := hu.few
    rw [List.length_map] at hfew
    clear hu hr
    go_wp2_with fail
    refine (readOne_any _ l a wr (HV.out.below hb) HY.out hle hl).mono ?_
    rintro e w1 ⟨hb1, ⟨x, rfl, hhas, hown⟩ | ⟨rfl, hnone⟩⟩
    · have HH := hid hhas
      have HX := hid hown
      have HB1 := hid hb1
      clear hhas hown hb1
      have HB3 := hid (two_below w1 (.cells #[.int .i64 x.r.kind, .int .i64 x.r.part, .int .i64 x.r.split, .int .i64 x.r.attempt, .int .i64 x.r.reason, .slice x.so x.r.set.length x.sc, .slice x.po x.r.prs.length x.pc] 33) (.cells #[.int .i64 x.r.kind, .int .i64 x.r.part, .int .i64 x.r.split, .int .i64 x.r.attempt, .int .i64 x.r.reason, .slice x.so x.r.set.length x.sc, .slice x.po x.r.prs.length x.pc] 33))
      have hnews : ∀ j u, (encR x)[j]? = some u → ((w1.alloc (.cells #[.int .i64 x.r.kind, .int .i64 x.r.part, .int .i64 x.r.split, .int .i64 x.r.attempt, .int .i64 x.r.reason, .slice x.so x.r.set.length x.sc, .slice x.po x.r.prs.length x.pc] 33)).alloc (.cells #[.int .i64 x.r.kind, .int .i64 x.r.part, .int .i64 x.r.split, .int .i64 x.r.attempt, .int .i64 x.r.reason, .slice x.so x.r.set.length x.sc, .slice x.po x.r.prs.length x.pc] 33)).cell? ((⟨w1.heap.size + 1, 0, none⟩ : Addr).add j) = some u := by
        have h := new_cells (w1.alloc (.cells #[.int .i64 x.r.kind, .int .i64 x.r.part, .int .i64 x.r.split, .int .i64 x.r.attempt, .int .i64 x.r.reason, .slice x.so x.r.set.length x.sc, .slice x.po x.r.prs.length x.pc] 33)) #[.int .i64 x.r.kind, .int .i64 x.r.part, .int .i64 x.r.split, .int .i64 x.r.attempt, .int .i64 x.r.reason, .slice x.so x.r.set.length x.sc, .slice x.po x.r.prs.length x.pc] 33
        simp only [World.size_alloc] at h
        exact h
      have HB4 := hid (below_then HB1.out HB3.out HB1.out.size)
      have HX4 := hid (HX.out.below HB3.out)
      have ho4 : ((w1.alloc (.cells #[.int .i64 x.r.kind, .int .i64 x.r.part, .int .i64 x.r.split, .int .i64 x.r.attempt, .int .i64 x.r.reason, .slice x.so x.r.set.length x.sc, .slice x.po x.r.prs.length x.pc] 33)).alloc (.cells #[.int .i64 x.r.kind, .int .i64 x.r.part, .int .i64 x.r.split, .int .i64 x.r.attempt, .int .i64 x.r.reason, .slice x.so x.r.set.length x.sc, .slice x.po x.r.prs.length x.pc] 33)).ownsRow w.heap.size 33 7 u4 xs.length (fl encR xs) := (HR.out.below HB4.out).row
      have hb4 : w.heap.size ≤ ((w1.alloc (.cells #[.int .i64 x.r.kind, .int .i64 x.r.part, .int .i64 x.r.split, .int .i64 x.r.attempt, .int .i64 x.r.reason, .slice x.so x.r.set.length x.sc, .slice x.po x.r.prs.length x.pc] 33)).alloc (.cells #[.int .i64 x.r.kind, .int .i64 x.r.part, .int .i64 x.r.split, .int .i64 x.r.attempt, .int .i64 x.r.reason, .slice x.so x.r.set.length x.sc, .slice x.po x.r.prs.length x.pc] 33)).heap.size := by have := HB4.out.size; omega
      have hx1 : xs.length + 1 ≤ maxLen := by unfold maxLen; omega
      have hx2 : (xs.length + 1) * 88 ≤ 140737488355328 := by omega
      go_wp2_with (at_builtin; refine wpList_append_own _ rfl _ _ 22 rfl w.heap.size 33 i0 _ 7 88 Try.underlying22 hi hz0 hz1 hz2 rfl (by decide) _ xs.length (fl encR xs) rfl ho4 ⟨w1.heap.size + 1, 0, none⟩ 1 1 (encR x) rfl rfl hnews (encR_one x) hx1 hx2 hb4 ?_; intro v5 w5 ho5 hg5 _)
      have HP := hid (HR.out.push HB4.out HX4.out hlow ho5 hg5)
      have HU2 := hid (HU.out.step HH.out)
      have HB5 := hid ((below_then hb HB4.out hlow).grown hg5 (below_then hb HB4.out hlow).size (fun k hk => (ho4.lt k hk).1))
      have hlr := layR_length x.r
      have hle2 := HU2.out.le
      clear ho5 hg5 ho4 hnews
      go_wp2
      go_roundw
      case rel => exact ⟨xs ++ [x], a + (layR x.r).length, by go_num, by rw [List.map_append]; exact HU2.out, HP.out, HB5.out⟩
      case measure => simp [intOf]; omega
    · have HB2 := hid (below_then (below_then hb hb1 hlow) (alloc_one w1 (.cells #[.int .i64 0, .int .i64 0, .int .i64 0, .int .i64 0, .int .i64 0, .slice none 0 0, .slice none 0 0] 33)) (below_then hb hb1 hlow).size)
      have HR2 := hid ((HR.out.below hb1).below (alloc_one w1 (.cells #[.int .i64 0, .int .i64 0, .int .i64 0, .int .i64 0, .int .i64 0, .slice none 0 0, .slice none 0 0] 33)))
      have HG := hid (HU.out.begins hnone)
      clear hnone hb1
      go_wp2
      go_ret2
      exact ⟨_, xs, a, rfl, HR2.out, HG.out, HB2.out⟩
end Go.Proofs.Ytpkobobandcclaa
