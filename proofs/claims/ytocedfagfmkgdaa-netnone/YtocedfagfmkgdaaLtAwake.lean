/- awake: what every program answers that is one. -/
import Derived.Test.YtocedfagfmkgdaaLtSend
import Derived.Test.YtocedfagfmkgdaaLtList
namespace Go.Proofs.Ytocedfagfmkgdaa
open Go.RowKit
set_option linter.unusedVariables false

theorem Reads.sav {α : Type} {n : Nat} {enc : α → List Value} {S : Nat → Prop} {w w' : World} {p off m cap : Nat} {l : List α} (h : Reads n enc w (.slice (some ⟨p, off, none⟩) m cap) l) (hs : Sav S w w') (hp : p < w.heap.size) (hn : ¬ S p) : Reads n enc w' (.slice (some ⟨p, off, none⟩) m cap) l := by
  obtain ⟨ao, cap', hv, h1, h2, h3, h4⟩ := h
  cases hv
  refine ⟨_, cap, rfl, h1, h2, h3, fun hl => ?_⟩
  obtain ⟨b, o, e, hlt, hc⟩ := h4 hl
  cases e
  exact ⟨p, off, rfl, Nat.lt_of_lt_of_le hlt hs.size, fun j x hj k u hu => (hs.cell (a := ⟨p, off + j * n + k, none⟩) hlt hn).trans (hc j x hj k u hu)⟩
/-- Blocks turn that the slice does not lie in. -/
theorem LetsX.sav {S : Nat → Prop} {w w' : World} {p off m cap : Nat} {xs : List LetX} (h : LetsX w (.slice (some ⟨p, off, none⟩) m cap) xs) (hs : Sav S w w') (hp : p < w.heap.size) (hn : ¬ S p) (hi : ∀ x ∈ xs, x.Is w') : LetsX w' (.slice (some ⟨p, off, none⟩) m cap) xs :=
  ⟨h.1.sav hs hp hn, hi⟩
/-- Two slices of one letter each. -/
theorem ones (x y : LetX) (w : World) (hx : x.Is w) (hy : y.Is w) : LetsX ((w.alloc (.cells #[.int .i64 x.r.from_, .int .i64 x.r.to_, .int .i64 x.r.kind, .int .i64 x.r.split, .int .i64 x.r.attempt, .int .i64 x.r.part, .int .i64 x.r.seq, .int .i64 x.r.next, .int .i64 x.r.epoch, .int .i64 x.r.reason, .slice x.so x.r.set.length x.sc, .slice x.po x.r.prs.length x.pc] 36)).alloc (.cells #[.int .i64 y.r.from_, .int .i64 y.r.to_, .int .i64 y.r.kind, .int .i64 y.r.split, .int .i64 y.r.attempt, .int .i64 y.r.part, .int .i64 y.r.seq, .int .i64 y.r.next, .int .i64 y.r.epoch, .int .i64 y.r.reason, .slice y.so y.r.set.length y.sc, .slice y.po y.r.prs.length y.pc] 36)) (.slice (some ⟨w.heap.size, 0, none⟩) 1 1) [x] ∧ LetsX ((w.alloc (.cells #[.int .i64 x.r.from_, .int .i64 x.r.to_, .int .i64 x.r.kind, .int .i64 x.r.split, .int .i64 x.r.attempt, .int .i64 x.r.part, .int .i64 x.r.seq, .int .i64 x.r.next, .int .i64 x.r.epoch, .int .i64 x.r.reason, .slice x.so x.r.set.length x.sc, .slice x.po x.r.prs.length x.pc] 36)).alloc (.cells #[.int .i64 y.r.from_, .int .i64 y.r.to_, .int .i64 y.r.kind, .int .i64 y.r.split, .int .i64 y.r.attempt, .int .i64 y.r.part, .int .i64 y.r.seq, .int .i64 y.r.next, .int .i64 y.r.epoch, .int .i64 y.r.reason, .slice y.so y.r.set.length y.sc, .slice y.po y.r.prs.length y.pc] 36)) (.slice (some ⟨w.heap.size + 1, 0, none⟩) 1 1) [y] := by
  refine ⟨(LetsX.made x w hx).below (alloc_one _ _), ?_⟩
  have := LetsX.made y (w.alloc (.cells #[.int .i64 x.r.from_, .int .i64 x.r.to_, .int .i64 x.r.kind, .int .i64 x.r.split, .int .i64 x.r.attempt, .int .i64 x.r.part, .int .i64 x.r.seq, .int .i64 x.r.next, .int .i64 x.r.epoch, .int .i64 x.r.reason, .slice x.so x.r.set.length x.sc, .slice x.po x.r.prs.length x.pc] 36)) (hy.below (alloc_one _ _))
  simp only [World.size_alloc] at this
  exact this
theorem Nxt.none {w : World} {u : Value} {k : Nat} (h : Next w (.slice none 0 0) u) (hk : u.ownBlock = some k) : w.heap.size ≤ k := by
  rcases h with e | e
  · rw [e] at hk
    cases hk
  · exact e k hk
set_option maxHeartbeats 8000000 in
set_option maxRecDepth 100000 in
theorem awake_calls (w : World) : Calls Try.prog 7 #[] w fun e w' => e = .returned (.bool true) ∧ Below w.heap.size w w' := by
  have hn4 : Nt w.heap.size w.heap.size (.slice none 0 0) [] ((((w.alloc (.cells #[.slice none 0 0] 53)).alloc (.cells #[.int .i64 1, .int .i64 0, .int .i64 0, .int .i64 0, .int .i64 0, .int .i64 0, .int .i64 0, .int .i64 0, .int .i64 0, .int .i64 0, .slice none 0 0, .slice none 0 0] 36)).alloc (.cells #[.int .i64 2, .int .i64 0, .int .i64 0, .int .i64 0, .int .i64 0, .int .i64 0, .int .i64 0, .int .i64 0, .int .i64 0, .int .i64 0, .slice none 0 0, .slice none 0 0] 36)).alloc (.cells #[.int .i64 1, .int .i64 0, .int .i64 0, .int .i64 0, .int .i64 0, .int .i64 0, .int .i64 0, .int .i64 0, .int .i64 0, .int .i64 0, .slice none 0 0, .slice none 0 0, .int .i64 2, .int .i64 0, .int .i64 0, .int .i64 0, .int .i64 0, .int .i64 0, .int .i64 0, .int .i64 0, .int .i64 0, .int .i64 0, .slice none 0 0, .slice none 0 0] 36)) := (((Nt.new w w.heap.size (Nat.le_refl _)).below (alloc_one _ (.cells #[.int .i64 1, .int .i64 0, .int .i64 0, .int .i64 0, .int .i64 0, .int .i64 0, .int .i64 0, .int .i64 0, .int .i64 0, .int .i64 0, .slice none 0 0, .slice none 0 0] 36))).below (alloc_one _ (.cells #[.int .i64 2, .int .i64 0, .int .i64 0, .int .i64 0, .int .i64 0, .int .i64 0, .int .i64 0, .int .i64 0, .int .i64 0, .int .i64 0, .slice none 0 0, .slice none 0 0] 36))).below (alloc_one _ (.cells #[.int .i64 1, .int .i64 0, .int .i64 0, .int .i64 0, .int .i64 0, .int .i64 0, .int .i64 0, .int .i64 0, .int .i64 0, .int .i64 0, .slice none 0 0, .slice none 0 0, .int .i64 2, .int .i64 0, .int .i64 0, .int .i64 0, .int .i64 0, .int .i64 0, .int .i64 0, .int .i64 0, .int .i64 0, .int .i64 0, .slice none 0 0, .slice none 0 0] 36))
  have HN4 := hid hn4
  have hl : LetsX ((((w.alloc (.cells #[.slice none 0 0] 53)).alloc (.cells #[.int .i64 1, .int .i64 0, .int .i64 0, .int .i64 0, .int .i64 0, .int .i64 0, .int .i64 0, .int .i64 0, .int .i64 0, .int .i64 0, .slice none 0 0, .slice none 0 0] 36)).alloc (.cells #[.int .i64 2, .int .i64 0, .int .i64 0, .int .i64 0, .int .i64 0, .int .i64 0, .int .i64 0, .int .i64 0, .int .i64 0, .int .i64 0, .slice none 0 0, .slice none 0 0] 36)).alloc (.cells #[.int .i64 1, .int .i64 0, .int .i64 0, .int .i64 0, .int .i64 0, .int .i64 0, .int .i64 0, .int .i64 0, .int .i64 0, .int .i64 0, .slice none 0 0, .slice none 0 0, .int .i64 2, .int .i64 0, .int .i64 0, .int .i64 0, .int .i64 0, .int .i64 0, .int .i64 0, .int .i64 0, .int .i64 0, .int .i64 0, .slice none 0 0, .slice none 0 0] 36)) (.slice (some ⟨w.heap.size + 1 + 1 + 1, 0, none⟩) 2 2) [plainX 1 0, plainX 2 0] := by
    have := LetsX.two (plainX 1 0) (plainX 2 0) (((w.alloc (.cells #[.slice none 0 0] 53)).alloc (.cells #[.int .i64 1, .int .i64 0, .int .i64 0, .int .i64 0, .int .i64 0, .int .i64 0, .int .i64 0, .int .i64 0, .int .i64 0, .int .i64 0, .slice none 0 0, .slice none 0 0] 36)).alloc (.cells #[.int .i64 2, .int .i64 0, .int .i64 0, .int .i64 0, .int .i64 0, .int .i64 0, .int .i64 0, .int .i64 0, .int .i64 0, .int .i64 0, .slice none 0 0, .slice none 0 0] 36)) (plainX_is _ _ _) (plainX_is _ _ _)
    simp only [World.size_alloc] at this
    exact this
  have HV := hid (fun w' (hs : Sav (Ow w.heap.size (.slice none 0 0)) ((((w.alloc (.cells #[.slice none 0 0] 53)).alloc (.cells #[.int .i64 1, .int .i64 0, .int .i64 0, .int .i64 0, .int .i64 0, .int .i64 0, .int .i64 0, .int .i64 0, .int .i64 0, .int .i64 0, .slice none 0 0, .slice none 0 0] 36)).alloc (.cells #[.int .i64 2, .int .i64 0, .int .i64 0, .int .i64 0, .int .i64 0, .int .i64 0, .int .i64 0, .int .i64 0, .int .i64 0, .int .i64 0, .slice none 0 0, .slice none 0 0] 36)).alloc (.cells #[.int .i64 1, .int .i64 0, .int .i64 0, .int .i64 0, .int .i64 0, .int .i64 0, .int .i64 0, .int .i64 0, .int .i64 0, .int .i64 0, .slice none 0 0, .slice none 0 0, .int .i64 2, .int .i64 0, .int .i64 0, .int .i64 0, .int .i64 0, .int .i64 0, .int .i64 0, .int .i64 0, .int .i64 0, .int .i64 0, .slice none 0 0, .slice none 0 0] 36)) w') => hl.sav hs (by simp) (fun e => by
    rcases e with e | e
    · omega
    · cases e) (fun x hx => by
    rcases List.mem_cons.1 hx with rfl | hx
    · exact plainX_is _ _ _
    · rw [List.mem_singleton.1 hx]; exact plainX_is _ _ _))
  have hA4 : ((((w.alloc (.cells #[.slice none 0 0] 53)).alloc (.cells #[.int .i64 1, .int .i64 0, .int .i64 0, .int .i64 0, .int .i64 0, .int .i64 0, .int .i64 0, .int .i64 0, .int .i64 0, .int .i64 0, .slice none 0 0, .slice none 0 0] 36)).alloc (.cells #[.int .i64 2, .int .i64 0, .int .i64 0, .int .i64 0, .int .i64 0, .int .i64 0, .int .i64 0, .int .i64 0, .int .i64 0, .int .i64 0, .slice none 0 0, .slice none 0 0] 36)).alloc (.cells #[.int .i64 1, .int .i64 0, .int .i64 0, .int .i64 0, .int .i64 0, .int .i64 0, .int .i64 0, .int .i64 0, .int .i64 0, .int .i64 0, .slice none 0 0, .slice none 0 0, .int .i64 2, .int .i64 0, .int .i64 0, .int .i64 0, .int .i64 0, .int .i64 0, .int .i64 0, .int .i64 0, .int .i64 0, .int .i64 0, .slice none 0 0, .slice none 0 0] 36)).heap[w.heap.size + 1]? = some (.cells #[.int .i64 1, .int .i64 0, .int .i64 0, .int .i64 0, .int .i64 0, .int .i64 0, .int .i64 0, .int .i64 0, .int .i64 0, .int .i64 0, .slice none 0 0, .slice none 0 0] 36 (0, 0)) := ((alloc_one (((w.alloc (.cells #[.slice none 0 0] 53)).alloc (.cells #[.int .i64 1, .int .i64 0, .int .i64 0, .int .i64 0, .int .i64 0, .int .i64 0, .int .i64 0, .int .i64 0, .int .i64 0, .int .i64 0, .slice none 0 0, .slice none 0 0] 36)).alloc (.cells #[.int .i64 2, .int .i64 0, .int .i64 0, .int .i64 0, .int .i64 0, .int .i64 0, .int .i64 0, .int .i64 0, .int .i64 0, .int .i64 0, .slice none 0 0, .slice none 0 0] 36)) _).block _ (by simp)).trans (((alloc_one ((w.alloc (.cells #[.slice none 0 0] 53)).alloc (.cells #[.int .i64 1, .int .i64 0, .int .i64 0, .int .i64 0, .int .i64 0, .int .i64 0, .int .i64 0, .int .i64 0, .int .i64 0, .int .i64 0, .slice none 0 0, .slice none 0 0] 36)) _).block _ (by simp)).trans (by have := new_block (w.alloc (.cells #[.slice none 0 0] 53)) (.cells #[.int .i64 1, .int .i64 0, .int .i64 0, .int .i64 0, .int .i64 0, .int .i64 0, .int .i64 0, .int .i64 0, .int .i64 0, .int .i64 0, .slice none 0 0, .slice none 0 0] 36); simpa using this))
  have HA4 := hid hA4
  have HB4 := hid (show Below w.heap.size w ((((w.alloc (.cells #[.slice none 0 0] 53)).alloc (.cells #[.int .i64 1, .int .i64 0, .int .i64 0, .int .i64 0, .int .i64 0, .int .i64 0, .int .i64 0, .int .i64 0, .int .i64 0, .int .i64 0, .slice none 0 0, .slice none 0 0] 36)).alloc (.cells #[.int .i64 2, .int .i64 0, .int .i64 0, .int .i64 0, .int .i64 0, .int .i64 0, .int .i64 0, .int .i64 0, .int .i64 0, .int .i64 0, .slice none 0 0, .slice none 0 0] 36)).alloc (.cells #[.int .i64 1, .int .i64 0, .int .i64 0, .int .i64 0, .int .i64 0, .int .i64 0, .int .i64 0, .int .i64 0, .int .i64 0, .int .i64 0, .slice none 0 0, .slice none 0 0, .int .i64 2, .int .i64 0, .int .i64 0, .int .i64 0, .int .i64 0, .int .i64 0, .int .i64 0, .int .i64 0, .int .i64 0, .int .i64 0, .slice none 0 0, .slice none 0 0] 36)) from (((alloc_one w _).trans ((alloc_one _ _).mono (by simp))).trans ((alloc_one _ _).mono (by simp; omega))).trans ((alloc_one _ _).mono (by simp; omega)))
  clear hn4 hl hA4
  go_enter Try.func7, Try.ntmps7
  go_wp2_with fail
  refine (new_net w).mono ?_
  rintro e w1 ⟨rfl, rfl⟩
  go_wp2_with fail
  have hz4 : ((((w.alloc (.cells #[.slice none 0 0] 53)).alloc (.cells #[.int .i64 1, .int .i64 0, .int .i64 0, .int .i64 0, .int .i64 0, .int .i64 0, .int .i64 0, .int .i64 0, .int .i64 0, .int .i64 0, .slice none 0 0, .slice none 0 0] 36)).alloc (.cells #[.int .i64 2, .int .i64 0, .int .i64 0, .int .i64 0, .int .i64 0, .int .i64 0, .int .i64 0, .int .i64 0, .int .i64 0, .int .i64 0, .slice none 0 0, .slice none 0 0] 36)).alloc (.cells #[.int .i64 1, .int .i64 0, .int .i64 0, .int .i64 0, .int .i64 0, .int .i64 0, .int .i64 0, .int .i64 0, .int .i64 0, .int .i64 0, .slice none 0 0, .slice none 0 0, .int .i64 2, .int .i64 0, .int .i64 0, .int .i64 0, .int .i64 0, .int .i64 0, .int .i64 0, .int .i64 0, .int .i64 0, .int .i64 0, .slice none 0 0, .slice none 0 0] 36)).heap.size = w.heap.size + 4 := by simp
  generalize ((((w.alloc (.cells #[.slice none 0 0] 53)).alloc (.cells #[.int .i64 1, .int .i64 0, .int .i64 0, .int .i64 0, .int .i64 0, .int .i64 0, .int .i64 0, .int .i64 0, .int .i64 0, .int .i64 0, .slice none 0 0, .slice none 0 0] 36)).alloc (.cells #[.int .i64 2, .int .i64 0, .int .i64 0, .int .i64 0, .int .i64 0, .int .i64 0, .int .i64 0, .int .i64 0, .int .i64 0, .int .i64 0, .slice none 0 0, .slice none 0 0] 36)).alloc (.cells #[.int .i64 1, .int .i64 0, .int .i64 0, .int .i64 0, .int .i64 0, .int .i64 0, .int .i64 0, .int .i64 0, .int .i64 0, .int .i64 0, .slice none 0 0, .slice none 0 0, .int .i64 2, .int .i64 0, .int .i64 0, .int .i64 0, .int .i64 0, .int .i64 0, .int .i64 0, .int .i64 0, .int .i64 0, .int .i64 0, .slice none 0 0, .slice none 0 0] 36)) = W4 at HN4 HV HA4 HB4 hz4 ⊢
  refine (send_net w.heap.size w.heap.size _ _ [] [plainX 1 0, plainX 2 0] W4 HN4.out HV.out (fun x hx => by
    rcases List.mem_cons.1 hx with rfl | hx
    · exact Sm.plain _ _
    · rw [List.mem_singleton.1 hx]; exact Sm.plain _ _) (by decide)).mono ?_
  rintro e w4 ⟨rfl, u1, ys1, hp1, hn1, hs1, hx1⟩
  rw [show ((lostN (plain ([] : List LetX)) (plain [plainX 1 0, plainX 2 0]) : Nat) : Int) = 0 from rfl]
  replace hp1 : plain ys1 = [(plainX 1 0).r, (plainX 2 0).r] := hp1
  have HN1 := hid hn1
  have HX1 := hid (fun k (hk : u1.ownBlock = some k) => Nxt.none hx1 hk)
  have HA1 := hid (hs1.at HA4.out (fun e => by
    rcases e with e | e
    · omega
    · cases e))
  have HB1 := hid (HB4.out.trans (hs1.below (B := w.heap.size) (fun k hk => by
    rcases hk with hk | hk
    · omega
    · cases hk) HB4.out.size))
  have hz1 := hs1.size
  have hk1 : placeN (plain ys1) 0 = true := by rw [hp1]; rfl
  have hk2 : tookN zeroL (plain ys1) 0 = (plainX 1 0).r := by rw [hp1]; rfl
  have hk3 : leftN (plain ys1) 0 = [(plainX 2 0).r] := by rw [hp1]; rfl
  have HK := hid (And.intro hk1 (And.intro hk2 hk3))
  clear hk1 hk2 hk3 hn1 hs1 hx1 HN4 HV HA4 hp1
  go_wp2_with fail
  refine (take_net w.heap.size w.heap.size u1 ys1 0 w4 HN1.out).mono ?_
  rintro e w5 ⟨⟨y, rfl, hy, hyi⟩, u2, ys2, hp2, hn2, hs2, hx2⟩
  rw [HK.out.1]
  rw [HK.out.2.1] at hy
  rw [HK.out.2.2] at hp2
  have HN2 := hid hn2
  have HY := hid hyi.is
  have HYR := hid hy
  have HP2 := hid hp2
  have hA5 := hs2.at HA1.out (fun e => by
    rcases e with e | e
    · omega
    · have := HX1.out _ e
      omega)
  have HB5 := hid (HB1.out.trans (hs2.below (B := w.heap.size) (fun k hk => by
    rcases hk with hk | hk
    · omega
    · have := HX1.out _ hk
      omega) HB1.out.size))
  have b0 : w5.cell? ⟨w.heap.size + 1, 0, none⟩ = _ := cell_of_cells (j := 0) hA5
  have b1 : w5.cell? ⟨w.heap.size + 1, 1, none⟩ = _ := cell_of_cells (j := 1) hA5
  have b2 : w5.cell? ⟨w.heap.size + 1, 2, none⟩ = _ := cell_of_cells (j := 2) hA5
  have b3 : w5.cell? ⟨w.heap.size + 1, 3, none⟩ = _ := cell_of_cells (j := 3) hA5
  have b4 : w5.cell? ⟨w.heap.size + 1, 4, none⟩ = _ := cell_of_cells (j := 4) hA5
  have b5 : w5.cell? ⟨w.heap.size + 1, 5, none⟩ = _ := cell_of_cells (j := 5) hA5
  have b6 : w5.cell? ⟨w.heap.size + 1, 6, none⟩ = _ := cell_of_cells (j := 6) hA5
  have b7 : w5.cell? ⟨w.heap.size + 1, 7, none⟩ = _ := cell_of_cells (j := 7) hA5
  have b8 : w5.cell? ⟨w.heap.size + 1, 8, none⟩ = _ := cell_of_cells (j := 8) hA5
  have b9 : w5.cell? ⟨w.heap.size + 1, 9, none⟩ = _ := cell_of_cells (j := 9) hA5
  have b10 : w5.cell? ⟨w.heap.size + 1, 10, none⟩ = _ := cell_of_cells (j := 10) hA5
  have b11 : w5.cell? ⟨w.heap.size + 1, 11, none⟩ = _ := cell_of_cells (j := 11) hA5
  simp at b0 b1 b2 b3 b4 b5 b6 b7 b8 b9 b10 b11
  have hlt5 : w.heap.size + 1 < w5.heap.size := lt_of_block hA5
  have hb7 := two_below w5 (.cells #[.int .i64 y.r.from_, .int .i64 y.r.to_, .int .i64 y.r.kind, .int .i64 y.r.split, .int .i64 y.r.attempt, .int .i64 y.r.part, .int .i64 y.r.seq, .int .i64 y.r.next, .int .i64 y.r.epoch, .int .i64 y.r.reason, .slice y.so y.r.set.length y.sc, .slice y.po y.r.prs.length y.pc] 36) (.cells #[.int .i64 y.r.from_, .int .i64 y.r.to_, .int .i64 y.r.kind, .int .i64 y.r.split, .int .i64 y.r.attempt, .int .i64 y.r.part, .int .i64 y.r.seq, .int .i64 y.r.next, .int .i64 y.r.epoch, .int .i64 y.r.reason, .slice y.so y.r.set.length y.sc, .slice y.po y.r.prs.length y.pc] 36)
  have hA7 := (hb7.block _ hlt5).trans hA5
  have c0 : ((w5.alloc (.cells #[.int .i64 y.r.from_, .int .i64 y.r.to_, .int .i64 y.r.kind, .int .i64 y.r.split, .int .i64 y.r.attempt, .int .i64 y.r.part, .int .i64 y.r.seq, .int .i64 y.r.next, .int .i64 y.r.epoch, .int .i64 y.r.reason, .slice y.so y.r.set.length y.sc, .slice y.po y.r.prs.length y.pc] 36)).alloc (.cells #[.int .i64 y.r.from_, .int .i64 y.r.to_, .int .i64 y.r.kind, .int .i64 y.r.split, .int .i64 y.r.attempt, .int .i64 y.r.part, .int .i64 y.r.seq, .int .i64 y.r.next, .int .i64 y.r.epoch, .int .i64 y.r.reason, .slice y.so y.r.set.length y.sc, .slice y.po y.r.prs.length y.pc] 36)).cell? ⟨w.heap.size + 1, 0, none⟩ = _ := cell_of_cells (j := 0) hA7
  have c1 : ((w5.alloc (.cells #[.int .i64 y.r.from_, .int .i64 y.r.to_, .int .i64 y.r.kind, .int .i64 y.r.split, .int .i64 y.r.attempt, .int .i64 y.r.part, .int .i64 y.r.seq, .int .i64 y.r.next, .int .i64 y.r.epoch, .int .i64 y.r.reason, .slice y.so y.r.set.length y.sc, .slice y.po y.r.prs.length y.pc] 36)).alloc (.cells #[.int .i64 y.r.from_, .int .i64 y.r.to_, .int .i64 y.r.kind, .int .i64 y.r.split, .int .i64 y.r.attempt, .int .i64 y.r.part, .int .i64 y.r.seq, .int .i64 y.r.next, .int .i64 y.r.epoch, .int .i64 y.r.reason, .slice y.so y.r.set.length y.sc, .slice y.po y.r.prs.length y.pc] 36)).cell? ⟨w.heap.size + 1, 1, none⟩ = _ := cell_of_cells (j := 1) hA7
  have c2 : ((w5.alloc (.cells #[.int .i64 y.r.from_, .int .i64 y.r.to_, .int .i64 y.r.kind, .int .i64 y.r.split, .int .i64 y.r.attempt, .int .i64 y.r.part, .int .i64 y.r.seq, .int .i64 y.r.next, .int .i64 y.r.epoch, .int .i64 y.r.reason, .slice y.so y.r.set.length y.sc, .slice y.po y.r.prs.length y.pc] 36)).alloc (.cells #[.int .i64 y.r.from_, .int .i64 y.r.to_, .int .i64 y.r.kind, .int .i64 y.r.split, .int .i64 y.r.attempt, .int .i64 y.r.part, .int .i64 y.r.seq, .int .i64 y.r.next, .int .i64 y.r.epoch, .int .i64 y.r.reason, .slice y.so y.r.set.length y.sc, .slice y.po y.r.prs.length y.pc] 36)).cell? ⟨w.heap.size + 1, 2, none⟩ = _ := cell_of_cells (j := 2) hA7
  have c3 : ((w5.alloc (.cells #[.int .i64 y.r.from_, .int .i64 y.r.to_, .int .i64 y.r.kind, .int .i64 y.r.split, .int .i64 y.r.attempt, .int .i64 y.r.part, .int .i64 y.r.seq, .int .i64 y.r.next, .int .i64 y.r.epoch, .int .i64 y.r.reason, .slice y.so y.r.set.length y.sc, .slice y.po y.r.prs.length y.pc] 36)).alloc (.cells #[.int .i64 y.r.from_, .int .i64 y.r.to_, .int .i64 y.r.kind, .int .i64 y.r.split, .int .i64 y.r.attempt, .int .i64 y.r.part, .int .i64 y.r.seq, .int .i64 y.r.next, .int .i64 y.r.epoch, .int .i64 y.r.reason, .slice y.so y.r.set.length y.sc, .slice y.po y.r.prs.length y.pc] 36)).cell? ⟨w.heap.size + 1, 3, none⟩ = _ := cell_of_cells (j := 3) hA7
  have c4 : ((w5.alloc (.cells #[.int .i64 y.r.from_, .int .i64 y.r.to_, .int .i64 y.r.kind, .int .i64 y.r.split, .int .i64 y.r.attempt, .int .i64 y.r.part, .int .i64 y.r.seq, .int .i64 y.r.next, .int .i64 y.r.epoch, .int .i64 y.r.reason, .slice y.so y.r.set.length y.sc, .slice y.po y.r.prs.length y.pc] 36)).alloc (.cells #[.int .i64 y.r.from_, .int .i64 y.r.to_, .int .i64 y.r.kind, .int .i64 y.r.split, .int .i64 y.r.attempt, .int .i64 y.r.part, .int .i64 y.r.seq, .int .i64 y.r.next, .int .i64 y.r.epoch, .int .i64 y.r.reason, .slice y.so y.r.set.length y.sc, .slice y.po y.r.prs.length y.pc] 36)).cell? ⟨w.heap.size + 1, 4, none⟩ = _ := cell_of_cells (j := 4) hA7
  have c5 : ((w5.alloc (.cells #[.int .i64 y.r.from_, .int .i64 y.r.to_, .int .i64 y.r.kind, .int .i64 y.r.split, .int .i64 y.r.attempt, .int .i64 y.r.part, .int .i64 y.r.seq, .int .i64 y.r.next, .int .i64 y.r.epoch, .int .i64 y.r.reason, .slice y.so y.r.set.length y.sc, .slice y.po y.r.prs.length y.pc] 36)).alloc (.cells #[.int .i64 y.r.from_, .int .i64 y.r.to_, .int .i64 y.r.kind, .int .i64 y.r.split, .int .i64 y.r.attempt, .int .i64 y.r.part, .int .i64 y.r.seq, .int .i64 y.r.next, .int .i64 y.r.epoch, .int .i64 y.r.reason, .slice y.so y.r.set.length y.sc, .slice y.po y.r.prs.length y.pc] 36)).cell? ⟨w.heap.size + 1, 5, none⟩ = _ := cell_of_cells (j := 5) hA7
  have c6 : ((w5.alloc (.cells #[.int .i64 y.r.from_, .int .i64 y.r.to_, .int .i64 y.r.kind, .int .i64 y.r.split, .int .i64 y.r.attempt, .int .i64 y.r.part, .int .i64 y.r.seq, .int .i64 y.r.next, .int .i64 y.r.epoch, .int .i64 y.r.reason, .slice y.so y.r.set.length y.sc, .slice y.po y.r.prs.length y.pc] 36)).alloc (.cells #[.int .i64 y.r.from_, .int .i64 y.r.to_, .int .i64 y.r.kind, .int .i64 y.r.split, .int .i64 y.r.attempt, .int .i64 y.r.part, .int .i64 y.r.seq, .int .i64 y.r.next, .int .i64 y.r.epoch, .int .i64 y.r.reason, .slice y.so y.r.set.length y.sc, .slice y.po y.r.prs.length y.pc] 36)).cell? ⟨w.heap.size + 1, 6, none⟩ = _ := cell_of_cells (j := 6) hA7
  have c7 : ((w5.alloc (.cells #[.int .i64 y.r.from_, .int .i64 y.r.to_, .int .i64 y.r.kind, .int .i64 y.r.split, .int .i64 y.r.attempt, .int .i64 y.r.part, .int .i64 y.r.seq, .int .i64 y.r.next, .int .i64 y.r.epoch, .int .i64 y.r.reason, .slice y.so y.r.set.length y.sc, .slice y.po y.r.prs.length y.pc] 36)).alloc (.cells #[.int .i64 y.r.from_, .int .i64 y.r.to_, .int .i64 y.r.kind, .int .i64 y.r.split, .int .i64 y.r.attempt, .int .i64 y.r.part, .int .i64 y.r.seq, .int .i64 y.r.next, .int .i64 y.r.epoch, .int .i64 y.r.reason, .slice y.so y.r.set.length y.sc, .slice y.po y.r.prs.length y.pc] 36)).cell? ⟨w.heap.size + 1, 7, none⟩ = _ := cell_of_cells (j := 7) hA7
  have c8 : ((w5.alloc (.cells #[.int .i64 y.r.from_, .int .i64 y.r.to_, .int .i64 y.r.kind, .int .i64 y.r.split, .int .i64 y.r.attempt, .int .i64 y.r.part, .int .i64 y.r.seq, .int .i64 y.r.next, .int .i64 y.r.epoch, .int .i64 y.r.reason, .slice y.so y.r.set.length y.sc, .slice y.po y.r.prs.length y.pc] 36)).alloc (.cells #[.int .i64 y.r.from_, .int .i64 y.r.to_, .int .i64 y.r.kind, .int .i64 y.r.split, .int .i64 y.r.attempt, .int .i64 y.r.part, .int .i64 y.r.seq, .int .i64 y.r.next, .int .i64 y.r.epoch, .int .i64 y.r.reason, .slice y.so y.r.set.length y.sc, .slice y.po y.r.prs.length y.pc] 36)).cell? ⟨w.heap.size + 1, 8, none⟩ = _ := cell_of_cells (j := 8) hA7
  have c9 : ((w5.alloc (.cells #[.int .i64 y.r.from_, .int .i64 y.r.to_, .int .i64 y.r.kind, .int .i64 y.r.split, .int .i64 y.r.attempt, .int .i64 y.r.part, .int .i64 y.r.seq, .int .i64 y.r.next, .int .i64 y.r.epoch, .int .i64 y.r.reason, .slice y.so y.r.set.length y.sc, .slice y.po y.r.prs.length y.pc] 36)).alloc (.cells #[.int .i64 y.r.from_, .int .i64 y.r.to_, .int .i64 y.r.kind, .int .i64 y.r.split, .int .i64 y.r.attempt, .int .i64 y.r.part, .int .i64 y.r.seq, .int .i64 y.r.next, .int .i64 y.r.epoch, .int .i64 y.r.reason, .slice y.so y.r.set.length y.sc, .slice y.po y.r.prs.length y.pc] 36)).cell? ⟨w.heap.size + 1, 9, none⟩ = _ := cell_of_cells (j := 9) hA7
  have c10 : ((w5.alloc (.cells #[.int .i64 y.r.from_, .int .i64 y.r.to_, .int .i64 y.r.kind, .int .i64 y.r.split, .int .i64 y.r.attempt, .int .i64 y.r.part, .int .i64 y.r.seq, .int .i64 y.r.next, .int .i64 y.r.epoch, .int .i64 y.r.reason, .slice y.so y.r.set.length y.sc, .slice y.po y.r.prs.length y.pc] 36)).alloc (.cells #[.int .i64 y.r.from_, .int .i64 y.r.to_, .int .i64 y.r.kind, .int .i64 y.r.split, .int .i64 y.r.attempt, .int .i64 y.r.part, .int .i64 y.r.seq, .int .i64 y.r.next, .int .i64 y.r.epoch, .int .i64 y.r.reason, .slice y.so y.r.set.length y.sc, .slice y.po y.r.prs.length y.pc] 36)).cell? ⟨w.heap.size + 1, 10, none⟩ = _ := cell_of_cells (j := 10) hA7
  have c11 : ((w5.alloc (.cells #[.int .i64 y.r.from_, .int .i64 y.r.to_, .int .i64 y.r.kind, .int .i64 y.r.split, .int .i64 y.r.attempt, .int .i64 y.r.part, .int .i64 y.r.seq, .int .i64 y.r.next, .int .i64 y.r.epoch, .int .i64 y.r.reason, .slice y.so y.r.set.length y.sc, .slice y.po y.r.prs.length y.pc] 36)).alloc (.cells #[.int .i64 y.r.from_, .int .i64 y.r.to_, .int .i64 y.r.kind, .int .i64 y.r.split, .int .i64 y.r.attempt, .int .i64 y.r.part, .int .i64 y.r.seq, .int .i64 y.r.next, .int .i64 y.r.epoch, .int .i64 y.r.reason, .slice y.so y.r.set.length y.sc, .slice y.po y.r.prs.length y.pc] 36)).cell? ⟨w.heap.size + 1, 11, none⟩ = _ := cell_of_cells (j := 11) hA7
  simp at c0 c1 c2 c3 c4 c5 c6 c7 c8 c9 c10 c11
  clear hy hyi hp2 hn2 hs2 hx2 hA5 hA7
  go_wp2_with fail
  have HL := hid (show LetsX (((w5.alloc (.cells #[.int .i64 y.r.from_, .int .i64 y.r.to_, .int .i64 y.r.kind, .int .i64 y.r.split, .int .i64 y.r.attempt, .int .i64 y.r.part, .int .i64 y.r.seq, .int .i64 y.r.next, .int .i64 y.r.epoch, .int .i64 y.r.reason, .slice y.so y.r.set.length y.sc, .slice y.po y.r.prs.length y.pc] 36)).alloc (.cells #[.int .i64 y.r.from_, .int .i64 y.r.to_, .int .i64 y.r.kind, .int .i64 y.r.split, .int .i64 y.r.attempt, .int .i64 y.r.part, .int .i64 y.r.seq, .int .i64 y.r.next, .int .i64 y.r.epoch, .int .i64 y.r.reason, .slice y.so y.r.set.length y.sc, .slice y.po y.r.prs.length y.pc] 36)).alloc (.cells #[.int .i64 1, .int .i64 0, .int .i64 0, .int .i64 0, .int .i64 0, .int .i64 0, .int .i64 0, .int .i64 0, .int .i64 0, .int .i64 0, .slice none 0 0, .slice none 0 0] 36)) (.slice (some ⟨w5.heap.size + 1, 0, none⟩) 1 1) [y] ∧ LetsX (((w5.alloc (.cells #[.int .i64 y.r.from_, .int .i64 y.r.to_, .int .i64 y.r.kind, .int .i64 y.r.split, .int .i64 y.r.attempt, .int .i64 y.r.part, .int .i64 y.r.seq, .int .i64 y.r.next, .int .i64 y.r.epoch, .int .i64 y.r.reason, .slice y.so y.r.set.length y.sc, .slice y.po y.r.prs.length y.pc] 36)).alloc (.cells #[.int .i64 y.r.from_, .int .i64 y.r.to_, .int .i64 y.r.kind, .int .i64 y.r.split, .int .i64 y.r.attempt, .int .i64 y.r.part, .int .i64 y.r.seq, .int .i64 y.r.next, .int .i64 y.r.epoch, .int .i64 y.r.reason, .slice y.so y.r.set.length y.sc, .slice y.po y.r.prs.length y.pc] 36)).alloc (.cells #[.int .i64 1, .int .i64 0, .int .i64 0, .int .i64 0, .int .i64 0, .int .i64 0, .int .i64 0, .int .i64 0, .int .i64 0, .int .i64 0, .slice none 0 0, .slice none 0 0] 36)) (.slice (some ⟨w5.heap.size + 1 + 1, 0, none⟩) 1 1) [plainX 1 0] from by
    have := ones y (plainX 1 0) (w5.alloc (.cells #[.int .i64 y.r.from_, .int .i64 y.r.to_, .int .i64 y.r.kind, .int .i64 y.r.split, .int .i64 y.r.attempt, .int .i64 y.r.part, .int .i64 y.r.seq, .int .i64 y.r.next, .int .i64 y.r.epoch, .int .i64 y.r.reason, .slice y.so y.r.set.length y.sc, .slice y.po y.r.prs.length y.pc] 36)) (HY.out.below (alloc_one _ _)) (plainX_is _ _ _)
    simp only [World.size_alloc] at this
    exact this)
  have HB8 := hid (below_then (two_below w5 (.cells #[.int .i64 y.r.from_, .int .i64 y.r.to_, .int .i64 y.r.kind, .int .i64 y.r.split, .int .i64 y.r.attempt, .int .i64 y.r.part, .int .i64 y.r.seq, .int .i64 y.r.next, .int .i64 y.r.epoch, .int .i64 y.r.reason, .slice y.so y.r.set.length y.sc, .slice y.po y.r.prs.length y.pc] 36) (.cells #[.int .i64 y.r.from_, .int .i64 y.r.to_, .int .i64 y.r.kind, .int .i64 y.r.split, .int .i64 y.r.attempt, .int .i64 y.r.part, .int .i64 y.r.seq, .int .i64 y.r.next, .int .i64 y.r.epoch, .int .i64 y.r.reason, .slice y.so y.r.set.length y.sc, .slice y.po y.r.prs.length y.pc] 36)) (alloc_one _ (.cells #[.int .i64 1, .int .i64 0, .int .i64 0, .int .i64 0, .int .i64 0, .int .i64 0, .int .i64 0, .int .i64 0, .int .i64 0, .int .i64 0, .slice none 0 0, .slice none 0 0] 36)) (two_below w5 (.cells #[.int .i64 y.r.from_, .int .i64 y.r.to_, .int .i64 y.r.kind, .int .i64 y.r.split, .int .i64 y.r.attempt, .int .i64 y.r.part, .int .i64 y.r.seq, .int .i64 y.r.next, .int .i64 y.r.epoch, .int .i64 y.r.reason, .slice y.so y.r.set.length y.sc, .slice y.po y.r.prs.length y.pc] 36) (.cells #[.int .i64 y.r.from_, .int .i64 y.r.to_, .int .i64 y.r.kind, .int .i64 y.r.split, .int .i64 y.r.attempt, .int .i64 y.r.part, .int .i64 y.r.seq, .int .i64 y.r.next, .int .i64 y.r.epoch, .int .i64 y.r.reason, .slice y.so y.r.set.length y.sc, .slice y.po y.r.prs.length y.pc] 36)).size)
  clear b0 c0 b1 c1 b2 c2 b3 c3 b4 c4 b5 c5 b6 c6 b7 c7 b8 c8 b9 c9 b10 c10 b11 c11
  generalize ((w5.alloc (.cells #[.int .i64 y.r.from_, .int .i64 y.r.to_, .int .i64 y.r.kind, .int .i64 y.r.split, .int .i64 y.r.attempt, .int .i64 y.r.part, .int .i64 y.r.seq, .int .i64 y.r.next, .int .i64 y.r.epoch, .int .i64 y.r.reason, .slice y.so y.r.set.length y.sc, .slice y.po y.r.prs.length y.pc] 36)).alloc (.cells #[.int .i64 y.r.from_, .int .i64 y.r.to_, .int .i64 y.r.kind, .int .i64 y.r.split, .int .i64 y.r.attempt, .int .i64 y.r.part, .int .i64 y.r.seq, .int .i64 y.r.next, .int .i64 y.r.epoch, .int .i64 y.r.reason, .slice y.so y.r.set.length y.sc, .slice y.po y.r.prs.length y.pc] 36)).alloc (.cells #[.int .i64 1, .int .i64 0, .int .i64 0, .int .i64 0, .int .i64 0, .int .i64 0, .int .i64 0, .int .i64 0, .int .i64 0, .int .i64 0, .slice none 0 0, .slice none 0 0] 36) = W8 at HL HB8 ⊢
  refine (sameLetters_dec _ _ [y] [plainX 1 0] W8 HL.out.1 HL.out.2).mono ?_
  rintro e w9 ⟨rfl, hb9⟩
  rw [show sameL (plain [y]) (plain [plainX 1 0]) = true from by unfold plain; rw [List.map_cons, HYR.out]; exact sameL_self _]
  have HB9 := hid (below_then HB8.out hb9 HB8.out.size)
  have HN9 := hid (HN2.out.below HB9.out)
  have HBA := hid (below_then HB5.out HB9.out HB5.out.size)
  clear hb9
  go_wp2_with fail
  refine (double_net w.heap.size w.heap.size u2 ys2 0 w9 HN9.out).mono ?_
  rintro e w10 ⟨rfl, u3, ys3, hp3, hn3, hs3, hx3⟩
  rw [show okD (plain ys2) 0 = true from by rw [HP2.out]; rfl]
  have hp4 : plain ys3 = [(plainX 2 0).r, (plainX 2 0).r] := by rw [hp3, HP2.out]; rfl
  have HL3 := hid (show ys3.length = 2 from by rw [← plain_len ys3, hp4]; rfl)
  have HN3 := hid hn3
  have HBZ := hid (HBA.out.trans (hs3.below (B := w.heap.size) (fun k hk => by
    rcases hk with hk | hk
    · omega
    · exact (HN9.out.row.row.lt k hk).1) HBA.out.size))
  clear hp3 hp4 hn3 hs3 hx3
  go_wp2_with fail
  refine (len_net w.heap.size w.heap.size u3 ys3 w10 HN3.out).mono ?_
  rintro e w11 ⟨rfl, rfl⟩
  rw [HL3.out]
  go_wp2
  go_ret
  exact ⟨rfl, HBZ.out⟩
end Go.Proofs.Ytocedfagfmkgdaa
