/- The walk of LazyApart. -/
import Derived.Test.YtljkejekcidibaaLzyApPlain
import Derived.Deep.RegionHeld3
namespace Go.Proofs.Ytljkejekcidibaa
open Go.RowKit
set_option linter.unusedVariables false

theorem Try.infoCell : (Try.prog.info? 23).map (fun i => (i.zero, i.size, i.bytes)) = some (some (.pointer none), 1, 8) := by kernel_rfl
theorem mk20_zero : mk20 (fun _ => false) = #[.int .i64 0, .int .i64 0, .int .i64 0, .int .i64 0, .int .i64 0, .int .i64 0, .int .i64 0, .int .i64 0, .int .i64 0, .int .i64 0, .int .i64 0, .int .i64 0, .int .i64 0, .int .i64 0, .int .i64 0, .int .i64 0, .int .i64 0, .int .i64 0, .int .i64 0, .int .i64 0] := rfl
theorem ask20_zero : ask20 (fun _ => false) = #[.bool false, .bool false, .bool false, .bool false, .bool false, .bool false, .bool false, .bool false, .bool false, .bool false, .bool false, .bool false, .bool false, .bool false, .bool false, .bool false, .bool false, .bool false, .bool false, .bool false] := rfl

theorem new_cell1 (w : World) (x : Value) (t : TypeId) (g : Nat) (hg : w.heap.size = g) : ∀ (j : Nat) (u : Value), [x][j]? = some u → (w.alloc (.cells #[x] t)).cell? ((⟨g, 0, none⟩ : Addr).add j) = some u := by
  intro j u hj
  subst hg
  rw [add_flat]
  cases j with
  | zero =>
    simp at hj
    subst hj
    exact cell_of_one (new_block _ _)
  | succ j => simp at hj

set_option maxHeartbeats 4000000 in
set_option maxRecDepth 100000 in
theorem apart_big (W : World) (ao bo : Option Addr) (n cap l bap : Nat) (hbig : 20 < n ∨ 60 < l ∨ n = 0) :
    Calls Try.prog 4 #[.slice ao n cap, .slice bo l bap] W fun e W' => e = .returned (.bool true) ∧ Below W.heap.size W W' := by
  have H0 := hid ((Below.refl W.heap.size W).alloc (Nat.le_refl _) (.cells #[.slice ao n cap] 28))
  by_cases h1 : (20 : Int) < (n : Int)
  · go_enter Try.func4, Try.ntmps4
    go_wp2_with fail
    refine (lawake_any _).mono ?_
    rintro e w1 ⟨rfl, hw⟩
    have HW := hid (H0.out.trans (hw.mono H0.out.size))
    clear hw
    go_wp2
    go_ret
    exact ⟨rfl, HW.out⟩
  · by_cases h2 : (60 : Int) < (l : Int)
    · go_enter Try.func4, Try.ntmps4
      go_wp2_with fail
      refine (lawake_any _).mono ?_
      rintro e w1 ⟨rfl, hw⟩
      have HW := hid (H0.out.trans (hw.mono H0.out.size))
      clear hw
      go_wp2
      go_ret
      exact ⟨rfl, HW.out⟩
    · have h3 : ((n : Int) == 0) = true := beq_iff_eq.2 (by omega)
      go_enter Try.func4, Try.ntmps4
      go_wp2_with fail
      refine (lawake_any _).mono ?_
      rintro e w1 ⟨rfl, hw⟩
      have HW := hid (H0.out.trans (hw.mono H0.out.size))
      clear hw
      go_wp2
      go_ret
      exact ⟨rfl, HW.out⟩

set_option maxHeartbeats 4000000 in
set_option maxRecDepth 100000 in
theorem lazyApart_walk (W : World) (v : Value) (ts : List ByteArray) (hv : rSlice 1 rStr W [v] ts) (u : Value) (ns : List Int) (hu : rSlice 1 (rInt .i64) W [u] ns) :
    Calls Try.prog 4 #[v, u] W fun e W' => e = .returned (.bool true) ∧ Below W.heap.size W W' := by
  obtain ⟨ao, cap, hv0, a1, a2, a3, a4⟩ := hv
  obtain rfl : v = _ := by simpa using hv0
  obtain ⟨bo, bap, hu0, b1, b2, b3, b4⟩ := hu
  obtain rfl : u = _ := by simpa using hu0
  clear hv0 hu0
  by_cases hbig : 20 < ts.length ∨ 60 < ns.length ∨ ts.length = 0
  · exact apart_big W ao bo _ cap _ bap hbig
  · have h1 : ¬ (20 : Int) < (ts.length : Int) := by omega
    have h2 : ¬ (60 : Int) < (ns.length : Int) := by omega
    have h3 : ((ts.length : Int) == 0) = false := beq_eq_false_iff_ne.2 (by omega)
    have hne : ts ≠ [] := by intro e; rw [e] at hbig; simp at hbig
    obtain ⟨b, off, rfl, bW, hc⟩ := a4 hne
    have hts : ∀ j, j < ts.length → W.cell? ⟨b, off + j, none⟩ = some (.string (ts.getD j ByteArray.empty)) := by
      intro j hj
      obtain ⟨ds, _, ⟨rfl, _⟩, hcell⟩ := hc j ts[j] (List.getElem?_eq_getElem hj)
      have := hcell 0 _ rfl
      rw [Nat.mul_one, Nat.add_zero] at this
      simpa [List.getD, List.getElem?_eq_getElem hj] using this
    have HT := hid hts
    have HB := hid (fun j (hj : j < ns.length) => ints_at b4 hj)
    have hmf : ∀ (fn : Fn) (first cap : Array Value) (w : World), (Instr.makeFunc fn first cap).run Try.prog w = .ok (.func fn first cap) w := fun _ _ _ _ => rfl
    have hnot : ∀ (x : Bool) (w : World), (Op.unary .not (.bool x)).run Try.prog w = .ok (.bool (!x)) w := fun _ _ => rfl
    obtain ⟨i0, hi, hz0, hz1, hz2⟩ := info_parts Try.infoCell
    have hn20 : ts.length ≤ 20 := by omega
    have hn0 : 0 < ts.length := by omega
    have hl60 : ns.length ≤ 60 := by omega
    clear a1 a2 a3 a4 b1 b2 b3 b4 hbig hne hts hc
    generalize hN : ts.length = n at *
    have HN := hid hN
    clear hN
    generalize hL : ns.length = l at *
    have HL := hid hL
    clear hL
    go_enter Try.func4, Try.ntmps4
    go_wp2_with fail
    rw [← mk20_zero]
    have hp0 : ((W.alloc (.cells #[.slice (some ⟨b, off, none⟩) n cap] 28)).alloc (.cells (mk20 fun _ => false) 31)).heap[W.heap.size]? = some (.cells #[.slice (some ⟨b, off, none⟩) n cap] 28 (0, 0)) := old_block (new_block _ _)
    have hm0 : ((W.alloc (.cells #[.slice (some ⟨b, off, none⟩) n cap] 28)).alloc (.cells (mk20 fun _ => false) 31)).heap[W.heap.size + 1]? = some (.cells (mk20 fun _ => false) 31 (0, 0)) := by
      have h := new_block (W.alloc (.cells #[.slice (some ⟨b, off, none⟩) n cap] 28)) (.cells (mk20 fun _ => false) 31)
      rw [World.size_alloc] at h
      exact h
    have hs0 : Sav Non W ((W.alloc (.cells #[.slice (some ⟨b, off, none⟩) n cap] 28)).alloc (.cells (mk20 fun _ => false) 31)) := ((Sav.refl _ _).alloc _).alloc _
    have hA := A1.start hp0 hm0 (by omega) hs0
    clear hp0 hm0 hs0
    generalize (W.alloc (.cells #[.slice (some ⟨b, off, none⟩) n cap] 28)).alloc (.cells (mk20 fun _ => false) 31) = w0 at *
    generalize W.heap.size + 1 = m at *
    generalize hP : W.heap.size = p at *
    rw [← hP] at bW
    have HP := hid hP
    clear hP
    go_loopw [5, 7] (fun cv iv wr => ∃ k : Nat, k ≤ n ∧ iv = .int .i64 k ∧ ∃ kf qf, A1 W p m n cap (some ⟨b, off, none⟩) k cv kf qf wr) (fun _ i _ => n - (intOf i).toNat)
    case atStart => exact ⟨0, by omega, rfl, _, _, hA⟩
    case round =>
      obtain ⟨k, hk, rfl, kf, qf, hA1⟩ := hrel
      clear hA
      have cp := cell_of_one hA1.hp
      by_cases hlt : k < n
      · have h0 : (0 : Int) ≤ (k : Int) := by omega
        have hki : (k : Int) < (n : Int) := by omega
        have ct : wr.cell? ⟨b, off + k, none⟩ = some (.string (ts.getD k ByteArray.empty)) := (hA1.sav.cell (a := ⟨b, off + k, none⟩) bW (fun h => h)).trans (HT.out k hlt)
        by_cases hbig : (100 : Int) < ((ts.getD k ByteArray.empty).size : Int)
        · generalize ts.getD k ByteArray.empty = tk at *
          go_wp2_with fail
          refine (lawake_any wr).mono ?_
          rintro e w5 ⟨rfl, hw⟩
          have HW := hid ((hA1.sav.below (fun _ h => h.elim) (Nat.le_refl _)).trans (hw.mono hA1.sav.size))
          clear hw
          go_wp2
          go_ret
          exact ⟨rfl, HW.out⟩
        · generalize ts.getD k ByteArray.empty = tk at *
          go_wp2_with fail
          refine (lnew_fn _ _ _ _).mono ?_
          rintro e w2 ⟨rfl, hw2⟩
          have hs2 : w2.heap.size = wr.heap.size + 1 + 1 := by rw [hw2]; simp
          have hW2 : w2.alloc (.cells #[.pointer (some ⟨wr.heap.size + 1, 0, none⟩)] 23) = apW m p k wr := by rw [hw2]
          have ho2 : (w2.alloc (.cells #[.pointer (some ⟨wr.heap.size + 1, 0, none⟩)] 23)).ownsRow W.heap.size 23 1 u5 k ((List.range k).map fun j => .pointer (some ⟨qf j, 0, none⟩)) := by rw [hW2]; exact ((hA1.own.alloc _).alloc _).alloc _
          have hge : W.heap.size ≤ (w2.alloc (.cells #[.pointer (some ⟨wr.heap.size + 1, 0, none⟩)] 23)).heap.size := by have := hA1.sav.size; simp; omega
          have hnew := new_cell1 w2 (.pointer (some ⟨wr.heap.size + 1, 0, none⟩)) 23 _ rfl
          have HW2 := hid hW2
          have HO2 := hid ho2
          have HGE := hid hge
          have HNW := hid hnew
          clear hw2 hs2 hW2 ho2 hge hnew
          go_wp2_with (at_builtin; refine wpList_append_own _ rfl _ _ 30 rfl W.heap.size 23 i0 (.pointer none) 1 8 Try.underlying30 hi hz0 hz1 hz2 rfl (by decide) _ k _ rfl HO2.out ⟨w2.heap.size, 0, none⟩ 1 1 [.pointer (some ⟨wr.heap.size + 1, 0, none⟩)] rfl rfl HNW.out (by intro u hu; simp at hu; subst hu; rfl) (by unfold maxLen; omega) (by omega) HGE.out ?_; intro v1 w3 ho3 hg3 _)
          exact ⟨⟨k + 1, by omega, by go_num, _, _, hA1.step ho3 (by rw [← HW2.out]; exact hg3)⟩, by simp [intOf]; omega⟩
      · have hkn : n = k := by omega
        subst hkn
        obtain ⟨g, vcap, rfl, hvc, hAp⟩ := hA1.done (ts := ts) hn0 bW HT.out
        have hself : ¬ (n : Int) < (n : Int) := by omega
        clear hA1 hlt hk
        go_wp2_with fail
        rw [← ask20_zero]
        have ha2 := new_block wr (.cells (ask20 fun _ => false) 32)
        have hA2 : Ap W p m n cap b off g ts kf qf (fun _ => false) (wr.alloc (.cells (ask20 fun _ => false) 32)) := hAp.other (a := wr.heap.size) ((Sav.refl _ _).alloc _) (Or.inl (Nat.le_refl _)) hAp.sav.size
        have haW : W.heap.size ≤ wr.heap.size := hAp.sav.size
        clear hAp cp
        generalize wr.alloc (.cells (ask20 fun _ => false) 32) = w2 at *
        generalize wr.heap.size = a at *
        go_loopw [10] (fun iv wr => ∃ i : Nat, i ≤ l ∧ iv = .int .i64 i ∧ ∃ f, Ap W p m n cap b off g ts kf qf f wr ∧ wr.heap[a]? = some (.cells (ask20 f) 32 (0, 0))) (fun i _ => l - (intOf i).toNat)
        case atStart => exact ⟨0, by omega, rfl, _, hA2, ha2⟩
        case round =>
          obtain ⟨i, hil, rfl, f, hA3, ha3⟩ := hrel
          clear hA2 ha2
          by_cases hlt : i < l
          · have hi0 : (0 : Int) ≤ (i : Int) := by omega
            have hii : (i : Int) < (l : Int) := by omega
            have cp3 := cell_of_one hA3.hp
            obtain ⟨b2, off2, rfl, hb2, hx⟩ := HB.out i hlt
            rw [← HP.out] at hb2
            have cx : wr.cell? ⟨b2, off2 + i, none⟩ = some (.int .i64 (ns.getD i 0)) := (hA3.sav.cell (a := ⟨b2, off2 + i, none⟩) hb2 (fun h => h)).trans hx
            clear hx
            generalize ns.getD i 0 = x at *
            have hun := uwrap_nat hn20
            have hnz : ¬ n = 0 := by omega
            go_wp2_with fail
            go_region_held3 (fun w' => w'.cell? ⟨p, 0, none⟩ = some (.slice (some ⟨b, off, none⟩) n cap) ∧ w'.cell? ⟨b2, off2 + i, none⟩ = some (.int .i64 x)) (go_keep) (fail)
            rw [low_i64 x n (by omega) (by omega)]
            have hlow := low_bd x n (by omega)
            obtain ⟨k, hk⟩ := Int.eq_ofNat_of_zero_le hlow.1
            rw [hk] at hlow ⊢
            have hkn : k < n := by omega
            have hk0 : (0 : Int) ≤ (k : Int) := by omega
            have hk1 : (k : Int) < (n : Int) := by omega
            have hk2 : (k : Int) < 20 := by omega
            clear hlow hk cx cp3 hun hnz
            have hA4 := hA3.drew
            have ha4 : wr.drew.heap[a]? = some (.cells (ask20 f) 32 (0, 0)) := ha3
            clear hA3 ha3
            generalize wr.drew = w4 at *
            have cp4 := cell_of_one hA4.hp
            have cg4 := hA4.hg k hkn
            have ct4 : w4.cell? ⟨b, off + k, none⟩ = some (.string (ts.getD k ByteArray.empty)) := (hA4.sav.cell (a := ⟨b, off + k, none⟩) bW (fun h => h)).trans (HT.out k hkn)
            have HG := hid (fun w (h : Ap W p m n cap b off g ts kf qf f w) => get_ap w h hn20 k hkn)
            have HTk := hid (HT.out k hkn)
            have hq0 : Value.pointer (some ⟨qf k, 0, none⟩) ≠ .pointer none := by simp
            generalize ts.getD k ByteArray.empty = tk at *
            generalize hqk : qf k = q at *
            have HQ := hid hqk
            clear hqk hq0
            have HK2 := hid hk2
            clear hk2
            go_wp2_with fail
            go_region_held3 (fun w' => w'.cell? ⟨p, 0, none⟩ = some (.slice (some ⟨b, off, none⟩) n cap) ∧ w'.cell? ⟨g, k, none⟩ = some (.pointer (some ⟨q, 0, none⟩)) ∧ w'.cell? ⟨b, off + k, none⟩ = some (.string tk)) (go_keep)
              (first | (go_at_call 10; refine (HG.out _ ?_).mono ?_; (exact hA4.drew); rintro e w5 ⟨rfl, hA5, hs5⟩; have cp5 := cell_of_one hA5.hp; have cg5 : w5.cell? ⟨g, k, none⟩ = some (.pointer (some ⟨q, 0, none⟩)) := (hA5.hg k hkn).trans (by rw [HQ.out]); have ct5 : w5.cell? ⟨b, off + k, none⟩ = some (.string tk) := (hA5.sav.cell (a := ⟨b, off + k, none⟩) bW (fun h => h)).trans HTk.out))
            rw [← HQ.out] at hs5
            have ha5 : w5.heap[a]? = some (.cells (ask20 f) 32 (0, 0)) := Ap.at hA4.drew hkn hs5 ha4 (by decide) (by decide)
            have ca5 : w5.cell? ⟨a, k, none⟩ = some (.bool (f k)) := by
              rw [cell_of_cells ha5, ask20, cells20_at _ (by omega)]
            have za5 : w5.frozen? ⟨a, k, none⟩ = false := free_of_cells ha5
            have ha6 : (w5.setCell ⟨a, k, none⟩ (.bool true)).heap[a]? = some (.cells (ask20 (with1 f k)) 32 (0, 0)) := (heap_setCell_same w5 a k _ _ (.bool true) ha5).trans (by rw [ask20_set])
            have hA6 : Ap W p m n cap b off g ts kf qf (with1 f k) (w5.setCell ⟨a, k, none⟩ (.bool true)) := hA5.other ((Sav.refl _ _).setCell (just a) k _) (Or.inr ⟨_, _, _, ha5, by decide, by decide, by decide, by decide, by decide⟩) haW
            have hk2 := HK2.out
            have HA6 := hid hA6
            have HH6 := hid ha6
            clear hA6 ha6 hA5 ha5 hs5 hA4 ha4 cp5 cg5 ct5 cp4 cg4 ct4 HG
            generalize f k = fk at *
            go_wp2
            exact ⟨⟨i + 1, by omega, by go_num, _, HA6.out, HH6.out⟩, by simp [intOf]; omega⟩
          · have hil2 : ¬ (i : Int) < (l : Int) := by omega
            go_wp2_with fail
            clear hil2
            go_loopw [12] (fun iv wr => ∃ k : Nat, k ≤ n ∧ iv = .int .i64 k ∧ Ap W p m n cap b off g ts kf qf f wr ∧ wr.heap[a]? = some (.cells (ask20 f) 32 (0, 0))) (fun i _ => n - (intOf i).toNat)
            case atStart => exact ⟨0, by omega, rfl, hA3, ha3⟩
            case round =>
              obtain ⟨k, hkn, rfl, hA7, ha7⟩ := hrel
              clear hA3 ha3
              have cp7 := cell_of_one hA7.hp
              by_cases hlt3 : k < n
              · have hk0 : (0 : Int) ≤ (k : Int) := by omega
                have hk1 : (k : Int) < (n : Int) := by omega
                have hk2 : (k : Int) < 20 := by omega
                have cg7 := hA7.hg k hlt3
                have ca7 : wr.cell? ⟨a, k, none⟩ = some (.bool (f k)) := by
                  rw [cell_of_cells ha7, ask20, cells20_at _ (by omega)]
                have cm7 : wr.cell? ⟨m, k, none⟩ = some (.int .i64 (if f k then 1 else 0)) := by
                  rw [cell_of_cells hA7.hm, mk20, cells20_at _ (by omega)]
                have HM := hid (made_ap wr.drew hA7.drew k hlt3)
                have HA8 := hid hA7.drew
                have HH8 := hid ha7
                clear hA7 ha7
                generalize qf k = q at *
                cases hf : f k
                · rw [hf] at ca7 cm7 HM
                  rw [if_neg (by decide)] at cm7
                  clear hf
                  go_wp2_with fail
                  go_region_held3 (fun w' => w'.cell? ⟨a, k, none⟩ = some (.bool false) ∧ w'.cell? ⟨m, k, none⟩ = some (.int .i64 0) ∧ w'.cell? ⟨g, k, none⟩ = some (.pointer (some ⟨q, 0, none⟩))) (go_keep)
                    (first | (go_at_call 9; refine HM.out.mono ?_; rintro e w5 ⟨rfl, rfl⟩))
                  go_wp2
                  exact ⟨⟨k + 1, by omega, by go_num, HA8.out, HH8.out⟩, by simp [intOf]; omega⟩
                · rw [hf] at ca7 cm7 HM
                  rw [if_pos rfl] at cm7
                  clear hf
                  go_wp2_with fail
                  go_region_held3 (fun w' => w'.cell? ⟨a, k, none⟩ = some (.bool true) ∧ w'.cell? ⟨m, k, none⟩ = some (.int .i64 1) ∧ w'.cell? ⟨g, k, none⟩ = some (.pointer (some ⟨q, 0, none⟩))) (go_keep)
                    (first | (go_at_call 9; refine HM.out.mono ?_; rintro e w5 ⟨rfl, rfl⟩))
                  go_wp2
                  exact ⟨⟨k + 1, by omega, by go_num, HA8.out, HH8.out⟩, by simp [intOf]; omega⟩
              · have hkn2 : ¬ (k : Int) < (n : Int) := by omega
                have HS := hid hA7.sav
                clear hA7 ha7
                go_wp2_with fail
                refine (lnew_nil wr).mono ?_
                rintro e w8 ⟨rfl, hw8⟩
                have hb8 : w8.heap[wr.heap.size]? = some (clObj 0 0 0 .nilFunc ByteArray.empty) := by rw [hw8]; exact new_block _ _
                have HS8 := hid (show Sav Non W w8 by rw [hw8]; exact HS.out.alloc _)
                have HLe := hid HS.out.size
                clear hw8 HS cp7
                generalize wr.heap.size = q at *
                go_wp2_with fail
                refine (get_first q .nilFunc ByteArray.empty Non (fun _ => True) w8 hb8 (fun h => h) (fun _ _ _ _ => trivial) (fun x hx => (textOf_nil x).mono fun e y h => ⟨h.1, h.2, trivial⟩)).mono ?_
                rintro e w9 ⟨rfl, hb9, hs9, -⟩
                have HS9 := hid (HS8.out.then hs9 (fun i hi h => h.elim (fun h => h) (fun h => by have := HLe.out; unfold Non; omega)))
                have HB9 := hid hb9
                clear hb8 hs9 hb9 HS8
                go_wp2_with fail
                refine (made_any q 1 w9 (cell_of_cells HB9.out)).mono ?_
                rintro e w10 ⟨rfl, rfl⟩
                have h10 : ((1 : Int) != 0) = true := rfl
                rw [h10]
                go_wp2_with fail
                refine (get_nil w9).mono ?_
                rintro e w10 ⟨rfl, rfl⟩
                go_wp2_with fail
                refine (made_nil w9).mono ?_
                rintro e w10 ⟨rfl, rfl⟩
                go_wp2_with fail
                refine (lawake_any w9).mono ?_
                rintro e w11 ⟨rfl, hw⟩
                have HW := hid ((HS9.out.below (fun _ h => h.elim) (Nat.le_refl _)).trans (hw.mono HS9.out.size))
                clear hw
                go_wp2
                go_ret
                exact ⟨rfl, HW.out⟩
end Go.Proofs.Ytljkejekcidibaa
