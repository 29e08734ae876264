/- GreatMessage, great: what is not great is small. -/
import Derived.Test.YtocedfagfmkgdaaLtSame
namespace Go.Proofs.Ytocedfagfmkgdaa
open Go.RowKit
set_option linter.unusedVariables false

/-- A letter's lists are short. -/
structure Sm (r : LetV) : Prop where
  set : r.set.length ≤ 20
  prs : r.prs.length ≤ 50
theorem Sm.zero : Sm zeroL := ⟨by decide, by decide⟩
theorem Sm.plain (a b : Int) : Sm (plainX a b).r := ⟨by simp [plainX], by simp [plainX]⟩
/-- Great, or P. -/
def GreatG (P : Prop) (e : Ending) : Prop := ∃ g, e = .returned (.bool g) ∧ (g = false → P)
/-- An act's letters' lists are. -/
def SmA (x : ActX) : Prop := Sm x.l.r ∧ Sm x.m.r
theorem Acts.cell {w : World} {ao : Option Addr} {m cap : Nat} {xs : List ActX} (h : Acts w (.slice ao m cap) xs) {j : Nat} (hj : j < xs.length) :
    ∃ b off x, xs[j]? = some x ∧ ao = some ⟨b, off, none⟩ ∧ b < w.heap.size ∧ x.Is w ∧ w.cell? ⟨b, off + j * 26, none⟩ = some (.int .i64 x.do_) ∧ w.cell? ⟨b, off + j * 26 + 1, none⟩ = some (.int .i64 x.i_) ∧ w.cell? ⟨b, off + j * 26 + 2, none⟩ = some (.int .i64 x.l.r.from_) ∧ w.cell? ⟨b, off + j * 26 + 3, none⟩ = some (.int .i64 x.l.r.to_) ∧ w.cell? ⟨b, off + j * 26 + 4, none⟩ = some (.int .i64 x.l.r.kind) ∧ w.cell? ⟨b, off + j * 26 + 5, none⟩ = some (.int .i64 x.l.r.split) ∧ w.cell? ⟨b, off + j * 26 + 6, none⟩ = some (.int .i64 x.l.r.attempt) ∧ w.cell? ⟨b, off + j * 26 + 7, none⟩ = some (.int .i64 x.l.r.part) ∧ w.cell? ⟨b, off + j * 26 + 8, none⟩ = some (.int .i64 x.l.r.seq) ∧ w.cell? ⟨b, off + j * 26 + 9, none⟩ = some (.int .i64 x.l.r.next) ∧ w.cell? ⟨b, off + j * 26 + 10, none⟩ = some (.int .i64 x.l.r.epoch) ∧ w.cell? ⟨b, off + j * 26 + 11, none⟩ = some (.int .i64 x.l.r.reason) ∧ w.cell? ⟨b, off + j * 26 + 12, none⟩ = some (.slice x.l.so x.l.r.set.length x.l.sc) ∧ w.cell? ⟨b, off + j * 26 + 13, none⟩ = some (.slice x.l.po x.l.r.prs.length x.l.pc) ∧ w.cell? ⟨b, off + j * 26 + 14, none⟩ = some (.int .i64 x.m.r.from_) ∧ w.cell? ⟨b, off + j * 26 + 15, none⟩ = some (.int .i64 x.m.r.to_) ∧ w.cell? ⟨b, off + j * 26 + 16, none⟩ = some (.int .i64 x.m.r.kind) ∧ w.cell? ⟨b, off + j * 26 + 17, none⟩ = some (.int .i64 x.m.r.split) ∧ w.cell? ⟨b, off + j * 26 + 18, none⟩ = some (.int .i64 x.m.r.attempt) ∧ w.cell? ⟨b, off + j * 26 + 19, none⟩ = some (.int .i64 x.m.r.part) ∧ w.cell? ⟨b, off + j * 26 + 20, none⟩ = some (.int .i64 x.m.r.seq) ∧ w.cell? ⟨b, off + j * 26 + 21, none⟩ = some (.int .i64 x.m.r.next) ∧ w.cell? ⟨b, off + j * 26 + 22, none⟩ = some (.int .i64 x.m.r.epoch) ∧ w.cell? ⟨b, off + j * 26 + 23, none⟩ = some (.int .i64 x.m.r.reason) ∧ w.cell? ⟨b, off + j * 26 + 24, none⟩ = some (.slice x.m.so x.m.r.set.length x.m.sc) ∧ w.cell? ⟨b, off + j * 26 + 25, none⟩ = some (.slice x.m.po x.m.r.prs.length x.m.pc) := by
  obtain ⟨h1, h3⟩ := h
  obtain ⟨b, off, e, hlt, hc⟩ := h1.cells (j := j) hj
  refine ⟨b, off, xs[j], List.getElem?_eq_getElem hj, e, hlt, h3 _ (List.getElem_mem hj), ?_⟩
  exact ⟨hc 0 _ rfl, hc 1 _ rfl, hc 2 _ rfl, hc 3 _ rfl, hc 4 _ rfl, hc 5 _ rfl, hc 6 _ rfl, hc 7 _ rfl, hc 8 _ rfl, hc 9 _ rfl, hc 10 _ rfl, hc 11 _ rfl, hc 12 _ rfl, hc 13 _ rfl, hc 14 _ rfl, hc 15 _ rfl, hc 16 _ rfl, hc 17 _ rfl, hc 18 _ rfl, hc 19 _ rfl, hc 20 _ rfl, hc 21 _ rfl, hc 22 _ rfl, hc 23 _ rfl, hc 24 _ rfl, hc 25 _ rfl⟩
theorem Acts.slice {w : World} {v : Value} {xs : List ActX} (h : Acts w v xs) : ∃ ao cap, v = .slice ao xs.length cap ∧ xs.length ≤ cap ∧ cap ≤ maxLen ∧ (ao = none → xs = [] ∧ cap = 0) := by
  obtain ⟨⟨ao, cap, rfl, h1, h2, h3, h4⟩, _⟩ := h
  exact ⟨ao, cap, rfl, h1, h2, h3⟩
set_option maxHeartbeats 4000000 in
theorem greatMsg_any (r : LetV) (so : Option Addr) (sc : Nat) (po : Option Addr) (pc : Nat) (w : World) (hr : LetIs w so sc po pc r) :
    Calls Try.prog 20 #[.agg #[.int .i64 r.kind, .int .i64 r.split, .int .i64 r.attempt, .int .i64 r.part, .int .i64 r.seq, .int .i64 r.next, .int .i64 r.epoch, .int .i64 r.reason, .slice so r.set.length sc, .slice po r.prs.length pc]] w fun e w' => GreatG (Sm r) e ∧ Below w.heap.size w w' := by
  have HB := hid (alloc_one w (.cells #[.int .i64 r.kind, .int .i64 r.split, .int .i64 r.attempt, .int .i64 r.part, .int .i64 r.seq, .int .i64 r.next, .int .i64 r.epoch, .int .i64 r.reason, .slice so r.set.length sc, .slice po r.prs.length pc] 34))
  have HI := hid (hr.below HB.out)
  have hsl := hr.set.len
  by_cases h0 : r.set.length ≤ 20
  rotate_left
  · have d0 : decide ((20 : Int) < (r.set.length : Int)) = true := by simp; omega
    clear hr
    go_enter Try.func20, Try.ntmps20
    go_wp2
    go_ret
    exact ⟨⟨true, rfl, fun e => by cases e⟩, HB.out⟩
  have d0 : decide ((20 : Int) < (r.set.length : Int)) = false := by simp; omega
  clear hr
  go_enter Try.func20, Try.ntmps20
  go_wp2_with fail
  refine (greatPairs_any _ r.prs 50 _ HI.out.prs).mono ?_
  rintro e w1 ⟨⟨g, rfl, hg⟩, rfl⟩
  have HG := hid hg
  clear hg
  go_wp2
  go_ret
  exact ⟨⟨g, rfl, fun e => ⟨h0, (HG.out e).1⟩⟩, HB.out⟩

theorem sm_step {xs : List ActX} {k : Nat} {x : ActX} (h : ∀ y ∈ xs.take k, SmA y) (hx : xs[k]? = some x) (hs : SmA x) : ∀ y ∈ xs.take (k + 1), SmA y := by
  obtain ⟨hk, rfl⟩ := List.getElem?_eq_some_iff.1 hx
  rw [List.take_succ_eq_append_getElem hk]
  intro y hy
  rcases List.mem_append.1 hy with e | e
  · exact h y e
  · rw [List.mem_singleton.1 e]; exact hs
set_option maxRecDepth 100000 in
set_option maxHeartbeats 8000000 in
theorem great_any (v : Value) (xs : List ActX) (w : World) (hv : Acts w v xs) :
    Calls Try.prog 6 #[v] w fun e w' => GreatG (xs.length ≤ 100 ∧ ∀ x ∈ xs, SmA x) e ∧ Below w.heap.size w w' := by
  have HV := hid hv
  obtain ⟨ao, cap, rfl, a1, a2, -⟩ := hv.slice
  unfold maxLen at a2
  clear hv
  by_cases hbig : 100 < xs.length
  · have d0 : decide ((xs.length : Int) ≤ (100 : Int)) = false := by simp; omega
    have d1 : decide ((100 : Int) < (xs.length : Int)) = true := by simp; omega
    have d2 : decide ((0 : Int) < (xs.length : Int)) = true := by simp; omega
    go_enter Try.func6, Try.ntmps6
    go_wp2
    go_loop [3] (fun i => i = .int .i64 0) (fun _ => 0)
    case atStart => rfl
    case round =>
      subst hrel
      go_wp2
      go_ret
      exact ⟨⟨true, rfl, fun e => by cases e⟩, Below.refl _ _⟩
  · have d0 : decide ((xs.length : Int) ≤ (100 : Int)) = true := by simp; omega
    have d1 : decide ((100 : Int) < (xs.length : Int)) = false := by simp; omega
    go_enter Try.func6, Try.ntmps6
    go_wp2
    go_loopw [3] (fun i wr => ∃ k : Nat, k ≤ xs.length ∧ i = .int .i64 k ∧ (∀ y ∈ xs.take k, SmA y) ∧ Below w.heap.size w wr) (fun i _ => xs.length - (intOf i).toNat)
    case atStart => exact ⟨0, by omega, rfl, (fun y hy => by simp at hy), Below.refl _ _⟩
    case round =>
      obtain ⟨k, hk, rfl, hsm, hbr⟩ := hrel
      have HS := hid hsm
      have hlow := hbr.size
      clear hsm
      by_cases hlt : k < xs.length
      · have d5 : decide ((k : Int) < (xs.length : Int)) = true := by simp; omega
        obtain ⟨p, po1, x, hx, rfl, hp, hix, c0, c1, c2, c3, c4, c5, c6, c7, c8, c9, c10, c11, c12, c13, c14, c15, c16, c17, c18, c19, c20, c21, c22, c23, c24, c25⟩ := (HV.out.below hbr).cell hlt
        have HX := hid hx
        have HI := hid hix
        have hk2 : (k : Int) < (xs.length : Int) := by omega
        clear hx hix c0 c1 c2 c3 c14 c15
        have HM := hid (show ∀ w', Below wr.heap.size wr w' → w'.cell? ⟨p, po1 + k * 26 + 16, none⟩ = some (.int .i64 x.m.r.kind) ∧ w'.cell? ⟨p, po1 + k * 26 + 17, none⟩ = some (.int .i64 x.m.r.split) ∧ w'.cell? ⟨p, po1 + k * 26 + 18, none⟩ = some (.int .i64 x.m.r.attempt) ∧ w'.cell? ⟨p, po1 + k * 26 + 19, none⟩ = some (.int .i64 x.m.r.part) ∧ w'.cell? ⟨p, po1 + k * 26 + 20, none⟩ = some (.int .i64 x.m.r.seq) ∧ w'.cell? ⟨p, po1 + k * 26 + 21, none⟩ = some (.int .i64 x.m.r.next) ∧ w'.cell? ⟨p, po1 + k * 26 + 22, none⟩ = some (.int .i64 x.m.r.epoch) ∧ w'.cell? ⟨p, po1 + k * 26 + 23, none⟩ = some (.int .i64 x.m.r.reason) ∧ w'.cell? ⟨p, po1 + k * 26 + 24, none⟩ = some (.slice x.m.so x.m.r.set.length x.m.sc) ∧ w'.cell? ⟨p, po1 + k * 26 + 25, none⟩ = some (.slice x.m.po x.m.r.prs.length x.m.pc) from fun w' hb =>
          ⟨(hb.cell (p := ⟨p, po1 + k * 26 + 16, none⟩) hp).trans c16, (hb.cell (p := ⟨p, po1 + k * 26 + 17, none⟩) hp).trans c17, (hb.cell (p := ⟨p, po1 + k * 26 + 18, none⟩) hp).trans c18, (hb.cell (p := ⟨p, po1 + k * 26 + 19, none⟩) hp).trans c19, (hb.cell (p := ⟨p, po1 + k * 26 + 20, none⟩) hp).trans c20, (hb.cell (p := ⟨p, po1 + k * 26 + 21, none⟩) hp).trans c21, (hb.cell (p := ⟨p, po1 + k * 26 + 22, none⟩) hp).trans c22, (hb.cell (p := ⟨p, po1 + k * 26 + 23, none⟩) hp).trans c23, (hb.cell (p := ⟨p, po1 + k * 26 + 24, none⟩) hp).trans c24, (hb.cell (p := ⟨p, po1 + k * 26 + 25, none⟩) hp).trans c25⟩)
        clear c16 c17 c18 c19 c20 c21 c22 c23 c24 c25
        go_wp2_with fail
        refine (greatMsg_any x.l.r _ _ _ _ wr HI.out.1).mono ?_
        rintro e w1 ⟨⟨g, rfl, hg⟩, hb1⟩
        have HG := hid hg
        have HB1 := hid hb1
        have hs1 := hb1.size
        obtain ⟨c16, c17, c18, c19, c20, c21, c22, c23, c24, c25⟩ := HM.out w1 hb1
        have HB2 := hid (below_then hbr hb1 hlow)
        clear hg c4 c5 c6 c7 c8 c9 c10 c11 c12 c13 hb1
        cases g
        · go_wp2_with fail
          refine (greatMsg_any x.m.r _ _ _ _ w1 (LetIs.below HI.out.2 HB1.out)).mono ?_
          rintro e w2 ⟨⟨g2, rfl, hg2⟩, hb2⟩
          have HG2 := hid hg2
          have HB3 := hid (below_then HB2.out hb2 HB2.out.size)
          clear hg2 c16 c17 c18 c19 c20 c21 c22 c23 c24 c25 hb2
          cases g2
          · have HS2 := hid (sm_step HS.out HX.out ⟨HG.out (by first | trivial | rfl), HG2.out (by first | trivial | rfl)⟩)
            go_wp2
            go_roundw
            case rel => exact ⟨k + 1, by omega, by go_num, HS2.out, HB3.out⟩
            case measure => simp [intOf]; omega
          · go_wp2
            go_ret
            exact ⟨⟨true, rfl, fun e => by cases e⟩, HB3.out⟩
        · go_wp2
          go_ret
          exact ⟨⟨true, rfl, fun e => by cases e⟩, HB2.out⟩
      · obtain rfl : k = xs.length := by omega
        have d5 : decide ((xs.length : Int) < (xs.length : Int)) = false := by simp
        go_wp2
        go_ret
        exact ⟨⟨false, rfl, fun _ => ⟨by omega, fun x hx => HS.out x (by rw [List.take_length]; exact hx)⟩⟩, hbr⟩
end Go.Proofs.Ytocedfagfmkgdaa
