/- PartWhole: each pair is just one part's; all parts together have all, each in its order. -/
import Derived.Test.YtinfpjmnadaklaaQWhole
import Derived.Test.YtinfpjmnadaklaaSArg
namespace Go.Proofs.Ytinfpjmnadaklaa
open Go.RowKit
set_option linter.unusedVariables false

set_option maxRecDepth 100000 in
set_option maxHeartbeats 4000000 in
theorem partWhole_plain (w : World) (v : Value) (l : List KV) (hv : Prs w v l) (parts : Int) :
    Calls Try.prog 4 #[v, .int .i64 parts] w fun e w' => e = .returned (.bool true) ∧ Below w.heap.size w w' := by
  have HV := hid hv
  obtain ⟨ao, ca, rfl, a1, a2, a3, -⟩ := hv
  unfold maxLen at a2
  clear a3
  go_enter Try.func4, Try.ntmps4
  go_wp2_with fail
  refine (greatPairs_any _ l 80 w HV.out).mono ?_
  rintro e w0 ⟨⟨g, rfl, hg⟩, rfl⟩
  cases g with
  | true =>
    clear hg
    go_wp2_with fail
    refine (awake_calls _).mono ?_
    rintro e w9 ⟨rfl, hb9⟩
    go_wp2
    go_ret
    exact ⟨rfl, hb9⟩
  | false =>
    obtain ⟨hl, hsm⟩ := hg rfl
    have HS := hid hsm
    clear hg hsm
    go_wp2_with fail
    refine (lowQ_calls parts 20 (by omega) (by omega) _).mono ?_
    rintro e w00 ⟨rfl, rfl⟩
    rename World => w
    have hlow := low_bd parts 20 (by omega)
    obtain ⟨q, hq⟩ : ∃ q : Nat, (q : Int) = low parts 20 := ⟨(low parts 20).toNat, by omega⟩
    rw [← hq] at hlow ⊢
    clear hq
    have hq20 : q + 1 ≤ 20 := by omega
    clear hlow
    go_wp2_with fail
    rw [← nums_zero, ← runs_zero]
    obtain ⟨m, hm⟩ : ∃ m : Nat, (1 + (q : Int)) = (m : Int) := ⟨q + 1, by omega⟩
    have HW := hid (Wh.start w l (m : Int))
    have hm1 : 1 ≤ m := by omega
    have hm20 : m ≤ 20 := by omega
    rw [hm]
    clear hm hq20
    obtain ⟨A, hA⟩ : ∃ A, w.heap.size = A := ⟨_, rfl⟩
    obtain ⟨R, hR⟩ : ∃ R, w.heap.size + 1 = R := ⟨_, rfl⟩
    rw [hR, hA] at HW ⊢
    have HAR := hid (And.intro hA hR)
    clear hA hR
    generalize (w.alloc (.cells (nums20 fun _ => 0) 34)).alloc (.cells (runs20 fun _ => .slice none 0 0) 35) = w0 at HW ⊢
    go_loopw [5, 8] (fun s i wr => ∃ p : Nat, p ≤ m ∧ i = .int .i64 p ∧ s = .int .i64 (upTo l m p : Nat) ∧ ∃ f, Wh w l m A R p (fun _ => 0) f wr) (fun _ i _ => m - (intOf i).toNat)
    case atStart => exact ⟨0, by omega, rfl, rfl, _, HW.out⟩
    case round =>
      obtain ⟨p, hp, rfl, rfl, f, hW⟩ := hrel
      have HW1 := hid hW
      clear hW HW
      by_cases hlt : p < m
      · have hd4 : decide ((p : Int) < (m : Int)) = true := by simp; omega
        go_wp2_with fail
        refine (only_any _ l m p (by omega) (by omega) wr (HV.out.below HW1.out.bel) (by omega) HS.out).mono ?_
        rintro e w1 ⟨u, rfl, ho, hb⟩
        have hsz := HW1.out.size
        have HW2 := hid (HW1.out.on hb)
        have HW3 := hid (HW2.out.put hsz ho)
        obtain ⟨uo, uc, rfl⟩ := own_slice ho
        have c1 : w1.cell? ⟨R, p, none⟩ = some (f p) := HW2.out.cellR (by omega)
        have z1 : w1.frozen? ⟨R, p, none⟩ = false := free_of_cells HW2.out.runs
        have c2 : (w1.setCell ⟨R, p, none⟩ (.slice uo (onlyL l m p).length uc)).cell? ⟨R, p, none⟩ = some (.slice uo (onlyL l m p).length uc) := by
          rw [HW3.out.cellR (by omega), putF_same]
        have hup := upTo_le l m (p + 1)
        have hup2 : upTo l m (p + 1) = upTo l m p + (onlyL l m p).length := rfl
        have HUP := hid hup2
        rw [hup2] at hup
        clear ho hb HW1 HW2 hup2 hsz
        generalize upTo l m p = sm at hup HUP ⊢
        generalize (onlyL l m p).length = un at c2 hup HUP HW3 ⊢
        have hp0 : (0 : Int) ≤ (p : Int) := by omega
        have hp20 : (p : Int) < 20 := by omega
        go_wp2
        go_roundw
        case rel => exact ⟨p + 1, by omega, by go_num, by rw [HUP.out]; go_num, _, HW3.out⟩
        case measure => simp [intOf]; omega
      · have hd4 : decide ((p : Int) < (m : Int)) = false := by simp; omega
        obtain rfl : p = m := by omega
        rw [upTo_all l p hm1]
        go_wp2_with fail
        go_loopw [9] (fun i wq => ∃ k : Nat, k ≤ l.length ∧ i = .int .i64 k ∧ Wh w l p A R p (met l p k) f wq) (fun i _ => l.length - (intOf i).toNat)
        case atStart => exact ⟨0, by omega, rfl, by rw [met_zero]; exact HW1.out⟩
        case round =>
          clear HW1
          rename World => wq
          obtain ⟨k, hk, rfl, hW⟩ := hrel
          have HW := hid hW
          clear hW
          by_cases hlk : k < l.length
          · have hd5 : decide ((k : Int) < (l.length : Int)) = true := by simp; omega
            obtain ⟨b, off, x, hx, rfl, hb, c1, c2⟩ := Prs.cell? (HV.out.below HW.out.bel) hlk
            have hsx := HS.out x (List.mem_of_getElem? hx)
            have hbd := ofK_bd (s := x.1) (parts := (p : Int)) (by omega)
            obtain ⟨r, hr⟩ : ∃ r : Nat, ofK x.1 p = r := ⟨(ofK x.1 p).toNat, by omega⟩
            have HX := hid (met_lt hx hr)
            have HN := hid (met_succ hx hr)
            have hsr := hr
            obtain ⟨s, t⟩ := x
            simp only at c1 c2 hsx hbd hsr
            rw [hsr] at hbd
            clear hx hr
            go_wp2_with fail
            refine (of_any s (by omega) p (by omega) (by omega) _).mono ?_
            rintro e w1 ⟨rfl, rfl⟩
            rw [hsr]
            have hrp : r < p := by omega
            have HO := HW.out.own r hrp
            have hla := (List.getElem?_eq_some_iff.1 HX.out).1
            obtain ⟨fo, fc, hfr⟩ := own_slice HO
            rw [hfr] at HO
            obtain ⟨b2, off2, y, hy, hfo, hb2, d1, d2⟩ := Prs.cell? (Reads.own encP_len (by decide) HO) hla
            rw [HX.out] at hy
            cases hy
            simp only at d1 d2
            have cA := HW.out.cellA (j := r) (by omega)
            have cR := HW.out.cellR (j := r) (by omega)
            rw [hfr, hfo] at cR
            have HD := hid (show ∀ n, (w1.drewN n).cell? ⟨A, r, none⟩ = some (.int .i64 (met l p k r : Nat)) ∧ (w1.drewN n).frozen? ⟨A, r, none⟩ = false ∧ Wh w l p A R p (met l p (k + 1)) f ((w1.drewN n).setCell ⟨A, r, none⟩ (.int .i64 ((met l p k r : Int) + 1))) from fun n => by
              have h := HW.out.on (below_drew w1 n)
              exact ⟨h.cellA (j := r) (by omega), free_of_cells h.nums, by rw [HN.out]; exact h.more (k := r)⟩)
            have hln := onlyL_len l p r
            clear HO HX HN HW hfr hfo hsr
            generalize met l p k r = a at hla d1 d2 cA HD ⊢
            generalize (onlyL l p r).length = nr at hla cR hln ⊢
            have hr0 : decide ((r : Int) < 0) = false := by simp
            have hrp2 : decide ((p : Int) ≤ (r : Int)) = false := by simp; omega
            have hra : decide ((nr : Int) ≤ (a : Int)) = false := by simp; omega
            have g0 : (0 : Int) ≤ (r : Int) := by omega
            have g1 : (r : Int) < 20 := by omega
            have g2 : (0 : Int) ≤ (a : Int) := by omega
            have g3 : (a : Int) < (nr : Int) := by omega
            have g4 : (0 : Int) ≤ (k : Int) := by omega
            have g5 : (k : Int) < (l.length : Int) := by omega
            have hn := pair_neq (s, t)
            have hgd := guard_pair
            go_wp2
            go_quiet (fail)
            rename Nat => nq
            obtain ⟨e1, e2, e3⟩ := HD.out nq
            have HE := hid e3
            clear e3 HD cA cR c1 c2 d1 d2 hn
            generalize w1.drewN nq = w2 at e1 e2 HE ⊢
            go_wp2
            go_roundw
            case rel => exact ⟨k + 1, by omega, by go_num, HE.out⟩
            case measure => simp [intOf]; omega
          · have hd5 : decide ((k : Int) < (l.length : Int)) = false := by simp; omega
            obtain rfl : k = l.length := by omega
            have HB := hid HW.out.bel
            have HNo := hid (show onlyL l p p = [] from onlyL_none (fun x hx e => by have := (ofK_bd (s := x.1) (parts := (p : Int)) (by omega)).2; omega))
            have HNo0 := hid (show onlyL l 0 0 = [] from onlyL_none (fun x hx e => by rw [ofK_none (by omega)] at e; omega))
            clear HW
            have heq : ((l.length : Int) == (l.length : Int)) = true := by simp
            go_wp2_with fail
            refine (only_any _ l p p (by omega) (by omega) wq (HV.out.below HB.out) (by omega) HS.out).mono ?_
            rintro e w1 ⟨u, rfl, ho, hb⟩
            obtain ⟨uo, uc, rfl⟩ := own_slice ho
            have HB1 := hid (below_then HB.out hb HB.out.size)
            clear ho hb HB
            rw [HNo.out]
            go_wp2_with fail
            refine (only_any _ l 0 0 (by omega) (by omega) w1 (HV.out.below HB1.out) (by omega) HS.out).mono ?_
            rintro e w2 ⟨u2, rfl, ho, hb⟩
            obtain ⟨uo2, uc2, rfl⟩ := own_slice ho
            have HB2 := hid (below_then HB1.out hb HB1.out.size)
            clear ho hb HB1
            rw [HNo0.out]
            go_wp2_with fail
            refine (awake_calls _).mono ?_
            rintro e w3 ⟨rfl, hb⟩
            have HB3 := hid (below_then HB2.out hb HB2.out.size)
            clear hb
            go_wp2
            go_ret
            exact ⟨rfl, HB3.out⟩
theorem partWhole_walk (w : World) (v : Value) (l : List KV) (hv : rSlice 2 rPr w [v] l) (parts : Int) (wp : (Lit.int .i64 parts).wf = true) :
    Calls Try.prog 4 #[v, .int .i64 parts] w fun e w' => e = .returned (.bool true) ∧ Below w.heap.size w w' :=
  partWhole_plain w v l (Prs.arg hv) parts
end Go.Proofs.Ytinfpjmnadaklaa
