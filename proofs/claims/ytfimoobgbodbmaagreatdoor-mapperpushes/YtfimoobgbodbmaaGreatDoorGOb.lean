/- Laid together: OSplit OGet ORed OOuts OCalls. -/
import Derived.Test.YtfimoobgbodbmaaGreatDoorGOa
import Derived.Test.YtfimoobgbodbmaaGreatDoorFEmpty
import Derived.Test.YtfimoobgbodbmaaGreatDoorAppAny
import Derived.Test.YtfimoobgbodbmaaGreatDoorGQ
import Derived.Test.YtfimoobgbodbmaaGreatDoorGD
import Derived.Test.YtfimoobgbodbmaaGreatDoorGMerge
/-! makeSplit: what a split comes to. -/
namespace Go.Proofs.YtfimoobgbodbmaaGreatDoor
open Go.RowKit Go.Lib
set_option linter.unusedVariables false
set_option maxRecDepth 100000

/-- What of the object is read, in a world behind w. -/
structure Obj4 (w : World) (s : SlJ) (j : JobV) (O : Nat) (w' : World) : Prop where
  below : Below w.heap.size w w'
  o0 : w'.cell? ⟨O, 0, none⟩ = some (.slice s.so j.splits.length s.sc)
  o2 : w'.cell? ⟨O, 2, none⟩ = some (.slice s.mo j.mp.length s.mc)
  o3 : w'.cell? ⟨O, 3, none⟩ = some (.slice s.co j.cb.length s.cc)
  o7 : w'.cell? ⟨O, 7, none⟩ = some (.int .i64 j.fuel)
  lt : O < w.heap.size
theorem Obj4.on {w : World} {s : SlJ} {j : JobV} {O : Nat} {w1 w2 : World} (h : Obj4 w s j O w1) (hb : Below w1.heap.size w1 w2) : Obj4 w s j O w2 := by
  have hl : O < w1.heap.size := Nat.lt_of_lt_of_le h.lt h.below.size
  exact ⟨below_then h.below hb h.below.size, (hb.cell (p := ⟨O, 0, none⟩) hl).trans h.o0, (hb.cell (p := ⟨O, 2, none⟩) hl).trans h.o2, (hb.cell (p := ⟨O, 3, none⟩) hl).trans h.o3, (hb.cell (p := ⟨O, 7, none⟩) hl).trans h.o7, h.lt⟩
theorem Obj4.grown {w : World} {s : SlJ} {j : JobV} {O : Nat} {w1 w2 : World} {r : Option Nat} (h : Obj4 w s j O w1) (hg : w1.grownBy w2 r) (hr : ∀ q, r = some q → w.heap.size ≤ q) : Obj4 w s j O w2 := by
  have hb : Below w.heap.size w1 w2 := ⟨hg.os, hg.tape, hg.output, hg.size, fun k hk => hg.block k (by have := h.below.size; omega) (fun e => by have := hr k e.symm; omega)⟩
  have hl := h.lt
  exact ⟨h.below.trans hb, (hb.cell (p := ⟨O, 0, none⟩) hl).trans h.o0, (hb.cell (p := ⟨O, 2, none⟩) hl).trans h.o2, (hb.cell (p := ⟨O, 3, none⟩) hl).trans h.o3, (hb.cell (p := ⟨O, 7, none⟩) hl).trans h.o7, h.lt⟩

theorem below_undrew {B : Nat} {w w' : World} (h : Below B w.drew w') : Below B w w' := ⟨h.os, h.tape, h.output, h.size, h.block⟩
set_option maxHeartbeats 8000000 in
theorem makeSplit_any {wB : World} {s : SlJ} {j : JobV} {O : Nat} {vs vp : Value} (G : Given wB s j) (k : Nat) (hk : k < j.splits.length) (x : World) (hb : Below wB.heap.size wB x) (ho : x.heap[O]? = some (ouObj s j vs vp)) :
    Calls Tryz.prog 79 #[pt O, .int .i64 k] x (Answers Non (fun v r y => Tells wB.heap.size (splitL j.mp j.cb j.fuel (j.splits[k])) v r y) x) := by
  have M := mayIs G.may
  obtain ⟨b, off, l, xo, xc, hl, hso, hbl, c1, hp⟩ := (G.job.sp.below hb).cell hk
  have hlk : j.splits[k] = l := by
    rw [List.getElem?_eq_getElem hk] at hl
    exact Option.some.inj hl
  rw [hlk]
  obtain ⟨hl8, hls⟩ := M.recs l (hlk ▸ List.getElem_mem hk)
  have hO := lt_of_block ho
  have HX := hid (show Obj4 x s j O x from ⟨Below.refl _ _, cell_of_cells ho, cell_of_cells ho, cell_of_cells ho, cell_of_cells ho, hO⟩)
  have HP := hid hp
  have HG := hid G
  have HM := hid M
  have HB := hid hb
  have HLS := hid hls
  have HN := hid (new_block x (.cells #[.slice none 0 0, .int .i64 0] 113))
  have hx1 := HX.out.on (alloc_oneC x (.cells #[.slice none 0 0, .int .i64 0] 113))
  have k0 := hx1.o0
  have c2 := ((alloc_oneC x (.cells #[.slice none 0 0, .int .i64 0] 113)).cell (p := ⟨b, off + k, none⟩) hbl).trans c1
  have dk : decide ((k : Int) < (j.splits.length : Int)) = true := by simp; omega
  clear hp G M hb hls hl hlk ho hx1 c1
  rw [hso] at k0
  go_enter Tryz.func79, Tryz.ntmps79
  go_wp2
  go_loopw [5, 21] (fun u i wr => ∃ q : Nat, q ≤ l.length ∧ i = .int .i64 q ∧ Hid (mapR j.mp j.fuel (l.take q) = 0) ∧ wr.ownsRow x.heap.size 105 2 u (mapT j.mp j.fuel (l.take q)).length (fl encP (mapT j.mp j.fuel (l.take q))) ∧ Obj4 x s j O wr ∧ wr.heap[x.heap.size]? = some (.cells #[.slice none 0 0, .int .i64 0] 113 (0, 0))) (fun _ i _ => l.length - (intOf i).toNat)
  case atStart => exact ⟨0, by omega, rfl, hid rfl, World.ownsRow_nil _ _ _ _, HX.out.on (alloc_oneC _ _), HN.out⟩
  case round =>
    obtain ⟨q, hq, rfl, HR, how, hob, hnb⟩ := hrel
    have HOW := hid how
    have HOB := hid hob
    have HNB := hid hnb
    have hsz := hob.below.size
    have hlen := mapT_few HG.out.fit.mp j.fuel (l.take q)
    have htl : (l.take q).length = q := by rw [List.length_take]; omega
    rw [htl] at hlen
    generalize hA : mapT j.mp j.fuel (l.take q) = A at *
    have HA := hid hA
    clear how hob hnb hA htl
    by_cases hlt : q < l.length
    · have d1 : decide ((q : Int) < (l.length : Int)) = true := by simp; omega
      obtain ⟨rb, ro, kv, hkv, rfl, hrb, r0, r1⟩ := Prs.cell? (Reads.below HP.out HOB.out.below) hlt
      obtain ⟨key, val⟩ := kv
      have HKV := hid hkv
      have p0 := HOB.out.on (alloc_oneC wr (.cells #[.string key, .string val] 105))
      have o2 := p0.o2
      have o7 := p0.o7
      have hx8 : key.size ≤ 16 ∧ val.size ≤ 64 := HLS.out (key, val) (List.mem_of_getElem? hkv)
      have HF := hid (show Fits j.mp key [val] from ⟨HG.out.fit.mp, by have := bad_short HM.out.mp; omega, small_len (by have := hx8.1; omega), by simp, fun v hv => by simp at hv; subst hv; exact small_len (by have := hx8.2; omega)⟩)
      clear hkv hx8
      go_wp2_with fail
      have b0 : (wr.alloc (.cells #[.string key, .string val] 105)).cell? ⟨wr.heap.size, 0, none⟩ = some (.string key) := by go_simp
      have b1 : (wr.alloc (.cells #[.string key, .string val] 105)).cell? ⟨wr.heap.size, 1, none⟩ = some (.string val) := by go_simp
      have P0 := hid p0
      have HOW1 := hid (HOW.out.alloc (.cells #[.string key, .string val] 105))
      have HNB1 := hid ((alloc_oneC wr (.cells #[.string key, .string val] 105)).block _ (lt_of_block HNB.out) |>.trans HNB.out)
      have hszw : (wr.alloc (.cells #[.string key, .string val] 105)).heap.size = wr.heap.size + 1 := by simp
      clear p0 HOW HNB HOB r0 r1
      generalize hQ : wr.heap.size = Q at *
      generalize wr.alloc (.cells #[.string key, .string val] 105) = w1 at *
      have n2 := World.new_ne w1 _ o2
      have n0 := World.new_ne w1 _ b0
      simp only at n2 n0
      have HB1 := hid (below_then HB.out P0.out.below HB.out.size)
      have hBd : Below w1.heap.size w1 ((w1.alloc (.cells #[.string val] 9)).drew) := (alloc_oneC w1 _).trans ⟨rfl, rfl, rfl, Nat.le_refl _, fun _ _ => rfl⟩
      have HTb := hid (HG.out.tabs.on (below_then HB1.out hBd HB1.out.size))
      have HCo := hid (HG.out.job.mp.below (below_then HB1.out hBd HB1.out.size))
      have HTx := hid (show Txs ((w1.alloc (.cells #[.string val] 9)).drew) (.slice (some ⟨Q + 1, 0, none⟩) 1 1) [val] from by
        have h := Reads.made encT_len (by decide) 9 [val] w1 (by simp)
        rw [hszw] at h
        exact h)
      have HBd := hid hBd
      clear hBd
      go_region_held3 (fun w' => w'.cell? ⟨O, 2, none⟩ = some (.slice s.mo j.mp.length s.mc) ∧ w'.cell? ⟨O, 7, none⟩ = some (.int .i64 j.fuel) ∧ w'.cell? ⟨Q, 0, none⟩ = some (.string key) ∧ w'.cell? ⟨Q, 1, none⟩ = some (.string val)) (first | exact ⟨d2, d7, e0, e1⟩ | go_keep)
        (first | (go_at_call 99; refine (vmRun_any _ _ _ j.mp key [val] j.fuel HTb.out HCo.out HTx.out HF.out HG.out.fit.fuel).mono ?_; rintro e y ⟨u, rfl, ho1, hb1⟩; obtain ⟨ao, ac, rfl⟩ := own_slice ho1; have HBy := hid (below_then HBd.out hb1 HBd.out.size); have HOy := hid ho1; have d2 := (P0.out.on HBy.out).o2; have d7 := (P0.out.on HBy.out).o7; have e0 := (HBy.out.cell (p := ⟨Q, 0, none⟩) (show Q < w1.heap.size by omega)).trans b0; have e1 := (HBy.out.cell (p := ⟨Q, 1, none⟩) (show Q < w1.heap.size by omega)).trans b1; clear ho1 hb1))
      have HObY := hid (P0.out.on HBy.out)
      have HOWY := hid (owns_below HOW1.out HBy.out)
      have HNBY := hid ((HBy.out.block _ (lt_of_block HNB1.out)).trans HNB1.out)
      have hszy := HBy.out.size
      have hfew := (fair_run (key := key) (vals := [val]) HG.out.fit.mp j.fuel).2.2.1
      have HST := hid (show mapT j.mp j.fuel (l.take (q + 1)) = A ++ (run j.mp key [val] j.fuel).1 by rw [mapT_step HKV.out, HA.out])
      have HNO := hid (fun h => mapR_no HR.out HKV.out h)
      have HYES := hid (fun h => mapR_step HR.out HKV.out h)
      simp only at HNO HYES
      generalize run j.mp key [val] j.fuel = R at *
      obtain ⟨T, r, d⟩ := R
      simp only at *
      have HOyB := hid (owns_mono HOy.out (show x.heap.size ≤ _ by have := P0.out.below.size; simp; omega))
      have HY := hid (HObY.out.below)
      clear d2 d7 e0 e1 HBy P0 HOW1 HNB1 HTb HCo HTx HBd b0 b1 n2 n0 o2 o7
      by_cases hr : r = 0
      · subst hr
        have h0 : ((0 : Int) != 0) = false := rfl
        obtain ⟨i0, hi, hz0, hz1, hz2⟩ := info_parts Tryz.infoP
        have HNone := hid (Reads.noneOf (Reads.own (enc := encP) encP_len (by decide) HOyB.out))
        go_wp2_with (at_builtin; refine wpList_append_own_any _ rfl _ _ 51 rfl x.heap.size 105 i0 _ 2 32 Tryz.underlying51 hi hz0 hz1 hz2 rfl (by decide) _ A.length _ rfl HOWY.out ao T.length ac (fl encP T) rfl (fl_length encP_len _) HNone.out ((Reads.own encP_len (by decide) HOyB.out).news encP_len (by decide) (Below.refl _ _)) (fl_one encP_one _) (by unfold maxLen; omega) (by omega) (by have := HY.out.size; omega) ?_; intro v7 w7 ho7 hg7)
        have HAll7 := hid (show w7.ownsRow x.heap.size 105 2 v7 (A ++ T).length (fl encP (A ++ T)) by rw [fl_append, List.length_append]; exact ho7)
        have HOB7 := hid (HObY.out.grown hg7 (fun z hz => owns_base HOWY.out hz))
        have HNB7 := hid (heap_grown HNBY.out HOWY.out (by decide) hg7)
        have HR7 := hid (HYES.out rfl)
        clear ho7 hg7 HOWY HObY HNBY HOyB HNone HYES HNO HR
        go_wp2
        go_roundw
        case rel => exact ⟨q + 1, by omega, by go_num, HR7, by rw [HST.out]; exact HAll7.out, HOB7.out, HNB7.out⟩
        case measure => simp [intOf]; omega
      · have h0 : (r != 0) = true := by simpa using hr
        have HL := hid (show splitL j.mp j.cb j.fuel l = ([], r) by
          have h1 := HNO.out hr
          have hm : mapL j.mp l j.fuel = ([], r) := by
            unfold mapL
            rw [if_neg (by rw [h1]; exact hr), h1]
          unfold splitL
          rw [hm]
          exact if_neg hr)
        have q0 : y.cell? ⟨x.heap.size, 0, none⟩ = some (.slice none 0 0) := cell_of_cells HNBY.out
        have q1 : y.cell? ⟨x.heap.size, 1, none⟩ = some (.int .i64 0) := cell_of_cells HNBY.out
        have z0 : y.frozen? ⟨x.heap.size, 0, none⟩ = false := free_of_cells HNBY.out
        have z1 : y.frozen? ⟨x.heap.size, 1, none⟩ = false := free_of_cells HNBY.out
        have HE := hid (set_two (.slice none 0 0) (.int .i64 r) q0 q1)
        have HSV := hid (((Sav.of_below (S := Non) HY.out).setNew (b := x.heap.size) (Nat.le_refl _) 0 (.slice none 0 0)).setNew (b := x.heap.size) (Nat.le_refl _) 1 (.int .i64 r))
        clear HNBY HY HOWY HObY HOyB HYES HNO HR
        go_wp2
        generalize (y.setCell ⟨x.heap.size, 0, none⟩ (.slice none 0 0)).setCell ⟨x.heap.size, 1, none⟩ (.int .i64 r) = w5 at HE HSV ⊢
        have e0 := HE.out.1
        have e1 := HE.out.2
        refine bodyPost_ret (by simp [results, Tryz.results79, go_sem, e0, e1]; try rfl) rfl ?_
        exact ⟨none, 0, 0, r, rfl, HSV.out, by rw [HL.out], by rw [HL.out]; exact World.ownsRow_nil _ _ _ _⟩
    · have d1 : decide ((q : Int) < (l.length : Int)) = false := by simp; omega
      obtain rfl : q = l.length := by omega
      rw [List.take_length] at HR HA
      have q0 : wr.cell? ⟨x.heap.size, 0, none⟩ = some (.slice none 0 0) := cell_of_cells HNB.out
      have q1 : wr.cell? ⟨x.heap.size, 1, none⟩ = some (.int .i64 0) := cell_of_cells HNB.out
      have z0 : wr.frozen? ⟨x.heap.size, 0, none⟩ = false := free_of_cells HNB.out
      have z1 : wr.frozen? ⟨x.heap.size, 1, none⟩ = false := free_of_cells HNB.out
      obtain ⟨uo, uc, rfl⟩ := own_slice HOW.out
      by_cases hmany : 40 < A.length
      · have d2 : decide ((40 : Int) < (A.length : Int)) = true := by simp; omega
        have HL := hid (show splitL j.mp j.cb j.fuel l = ([], 5) by
          have hm : mapL j.mp l j.fuel = ([], 5) := by
            unfold mapL
            rw [if_pos HR.out, HA.out, if_neg (by omega)]
          unfold splitL
          rw [hm]
          exact if_neg (by decide))
        have HE := hid (set_two (.slice none 0 0) (.int .i64 5) q0 q1)
        have HSV := hid (((Sav.of_below (S := Non) HOB.out.below).setNew (b := x.heap.size) (Nat.le_refl _) 0 (.slice none 0 0)).setNew (b := x.heap.size) (Nat.le_refl _) 1 (.int .i64 5))
        clear HNB HOW HOB HR HA
        go_wp2
        generalize (wr.setCell ⟨x.heap.size, 0, none⟩ (.slice none 0 0)).setCell ⟨x.heap.size, 1, none⟩ (.int .i64 5) = w5 at HE HSV ⊢
        have e0 := HE.out.1
        have e1 := HE.out.2
        refine bodyPost_ret (by simp [results, Tryz.results79, go_sem, e0, e1]; try rfl) rfl ?_
        exact ⟨none, 0, 0, 5, rfl, HSV.out, by rw [HL.out], by rw [HL.out]; exact World.ownsRow_nil _ _ _ _⟩
      · have d2 : decide ((40 : Int) < (A.length : Int)) = false := by simp; omega
        have HL := hid (show splitL j.mp j.cb j.fuel l = combineL j.cb A j.fuel by
          have hm : mapL j.mp l j.fuel = (A, 0) := by
            unfold mapL
            rw [if_pos HR.out, HA.out, if_pos (by omega)]
          unfold splitL
          rw [hm]
          exact if_pos rfl)
        have hok := mapT_ok HG.out.fit.mp j.fuel l
        rw [HA.out] at hok
        have HF := hid (show FitsF j.cb A from ⟨HG.out.fit.cb, by have := bad_short HM.out.cb; omega, by omega, fun x hx => ⟨small_len (by have := (hok x hx).1; omega), small_len (by have := (hok x hx).2; omega)⟩⟩)
        have HB1 := hid (below_then HB.out HOB.out.below HB.out.size)
        have hdr : Below wr.heap.size wr wr.drew := ⟨rfl, rfl, rfl, Nat.le_refl _, fun _ _ => rfl⟩
        have HTb := hid (HG.out.tabs.on (below_then HB1.out hdr HB1.out.size))
        have HCo := hid (HG.out.job.cb.below (below_then HB1.out hdr HB1.out.size))
        have HPr := hid (show Prs wr.drew (.slice uo A.length uc) A from Reads.below (Reads.own encP_len (by decide) HOW.out) hdr)
        have o3 := HOB.out.o3
        have o7 := HOB.out.o7
        have HO := hid HOB.out
        clear hok hdr q0 q1 z0 z1
        go_wp2_with fail
        go_region_held3 (fun w' => w'.cell? ⟨O, 3, none⟩ = some (.slice s.co j.cb.length s.cc) ∧ w'.cell? ⟨O, 7, none⟩ = some (.int .i64 j.fuel)) (first | exact ⟨d3, d7⟩ | go_keep)
          (first | (go_at_call 100; refine (combine_any _ _ _ j.cb A j.fuel HTb.out HCo.out HPr.out HF.out HG.out.fit.fuel).mono ?_; rintro e y ⟨u, rfl, ho1, hb1⟩; obtain ⟨ao, ac, rfl⟩ := own_slice ho1; have d3 := (HO.out.on (show Below wr.heap.size wr y from ⟨hb1.os, hb1.tape, hb1.output, hb1.size, hb1.block⟩)).o3; have d7 := (HO.out.on (show Below wr.heap.size wr y from ⟨hb1.os, hb1.tape, hb1.output, hb1.size, hb1.block⟩)).o7; have HBy := hid (show Below wr.heap.size wr y from ⟨hb1.os, hb1.tape, hb1.output, hb1.size, hb1.block⟩); have HOy := hid (show y.ownsRow wr.heap.size 105 2 _ _ _ from ho1); clear ho1 hb1))
        rw [← HL.out] at HOy
        have HNy := hid ((HBy.out.block _ (lt_of_block HNB.out)).trans HNB.out)
        generalize hR2 : splitL j.mp j.cb j.fuel l = R2 at *
        have q0 : y.cell? ⟨x.heap.size, 0, none⟩ = some (.slice none 0 0) := cell_of_cells HNy.out
        have q1 : y.cell? ⟨x.heap.size, 1, none⟩ = some (.int .i64 0) := cell_of_cells HNy.out
        have z0 : y.frozen? ⟨x.heap.size, 0, none⟩ = false := free_of_cells HNy.out
        have z1 : y.frozen? ⟨x.heap.size, 1, none⟩ = false := free_of_cells HNy.out
        rw [← HL.out]
        have HE := hid (set_two (.slice ao R2.1.length ac) (.int .i64 R2.2) q0 q1)
        have HSV := hid (((Sav.of_below (S := Non) (below_then HO.out.below HBy.out HO.out.below.size)).setNew (b := x.heap.size) (Nat.le_refl _) 0 (.slice ao R2.1.length ac)).setNew (b := x.heap.size) (Nat.le_refl _) 1 (.int .i64 R2.2))
        have hcalm : Calm 0 [] y (Just x.heap.size) := calm_out (Nat.zero_le _) HNy.out
        have HT := hid (hcalm.owns (((Sav.refl (Just x.heap.size) y).setCell (just _) 0 (.slice ao R2.1.length ac)).setCell (just _) 1 (.int .i64 R2.2)) (owns_mono HOy.out (show wB.heap.size ≤ wr.heap.size from HB1.out.size)) (by decide) (by decide) (by decide))
        have HR2 := hid hR2
        clear hcalm hR2 d3 d7 o3 o7
        go_wp2
        generalize (y.setCell ⟨x.heap.size, 0, none⟩ (.slice ao R2.1.length ac)).setCell ⟨x.heap.size, 1, none⟩ (.int .i64 R2.2) = w5 at HE HSV HT ⊢
        have e0 := HE.out.1
        have e1 := HE.out.2
        refine bodyPost_ret (by simp [results, Tryz.results79, go_sem, e0, e1]; try rfl) rfl ?_
        exact ⟨ao, _, ac, _, rfl, HSV.out, by rw [HR2.out]; exact ⟨rfl, HT.out⟩⟩
end Go.Proofs.YtfimoobgbodbmaaGreatDoor
/-! A split's cell that is asked; split and run of outputs. -/
namespace Go.Proofs.YtfimoobgbodbmaaGreatDoor
open Go.RowKit Go.Lib
set_option linter.unusedVariables false
set_option maxRecDepth 100000

/-- An output is told, and what holds of the outputs stays. -/
def Told (B : Nat) (R : List KV × Int) (U : Nat → Prop) (J : World → Prop) (w : World) (e : Ending) (w' : World) : Prop := ∃ ao n c r, e = .returned (.agg #[.slice ao n c, .int .i64 r]) ∧ Tells B R (.slice ao n c) r w' ∧ J w' ∧ Sav U w w'
theorem splitsD_at {j : JobV} {k : Nat} (hk : k < j.splits.length) : (splitsD j)[k]? = some (splitL j.mp j.cb j.fuel (j.splits[k])) := by
  unfold splitsD
  rw [List.getElem?_map, List.getElem?_eq_getElem hk]
  rfl
theorem Cells.at {B : Nat} {fv u : Value} {Rs : List (List KV × Int)} {bs : List Nat} {w : World} (h : Cells B fv Rs u bs w) {k b : Nat} (hk : bs[k]? = some b) : ∃ g cap, u = .slice (some ⟨g, 0, none⟩) bs.length cap ∧ g < w.heap.size ∧ w.cell? ⟨g, k, none⟩ = some (pt b) ∧ (∃ cs, w.heap[g]? = some (.cells cs 132 (0, 0))) := by
  obtain ⟨hlt, e⟩ := List.getElem?_eq_some_iff.1 hk
  rcases h.row.2 with ⟨_, h0⟩ | ⟨g, cap, cur, hv, hb, hh, r⟩
  · omega
  · refine ⟨g, cap, hv, lt_of_block hh, ?_, _, hh⟩
    have hr := h.row
    rw [hv] at hr
    rw [hr.cellAt k (by omega), List.getElem?_map, hk]
    rfl

variable {wB : World} {s : SlJ} {j : JobV} {O : Nat} {vs vp : Value} {bs ps : List Nat}
theorem Outs.tag {w : World} (h : Outs wB s j O vs vp bs ps w) {k b : Nat} (hk : bs[k]? = some b) : ∃ cs, w.heap[b]? = some (.cells cs 146 (0, 0)) := by
  have hl := (List.getElem?_eq_some_iff.1 hk).1
  have hR := List.getElem?_eq_getElem (show k < (splitsD j).length from h.cs.len ▸ hl)
  exact (h.cs.cells k b _ hk hR).block
theorem getS (G : Given wB s j) {w : World} (h : Outs wB s j O vs vp bs ps w) {k b : Nat} (hk : bs[k]? = some b) (hks : k < j.splits.length) :
    Calls Tryz.prog 82 #[pt b] w (Told wB.heap.size (splitL j.mp j.cb j.fuel (j.splits[k])) (Just b) (Outs wB s j O vs vp bs ps) w) := by
  have hR := splitsD_at hks
  have hbs := List.mem_of_getElem? hk
  have hc := h.cs.cells k b _ hk hR
  have hB := h.below.size
  have hBb := h.old b (List.mem_append_left _ hbs)
  obtain ⟨cs, hcb⟩ := h.tag hk
  have hOb : O ≠ b := by
    rintro rfl
    have := h.obj
    rw [hcb] at this
    cases this
  refine (ask_any wB.heap.size 79 O k b _ Non (fun _ => True) w hc hB hBb (enterF Tryz.func79 (by kernel_rfl) (by kernel_rfl)) (fun h => h) (fun _ h => h.elim) (fun _ _ _ _ _ _ _ _ => trivial) (fun x hx _ => ?_)).mono ?_
  · refine (makeSplit_any G k hks x (sav_below h.below (calm_one (bs := []) hBb hcb (by simp)) hx (Nat.le_refl _)) (hx.at h.obj hOb)).mono ?_
    rintro e y ⟨ao, n, c, r, rfl, h1, h2⟩
    exact ⟨ao, n, c, r, rfl, h1, h2, trivial⟩
  · rintro e w' ⟨ao, n, c, r, rfl, ht, hn, hs, -⟩
    have hs2 : Sav (Just b) w w' := hs.mono (fun _ _ h => h.elim (fun h => h.elim) (fun h => h))
    refine ⟨ao, n, c, r, rfl, ht, ⟨sav_below h.below (calm_one (bs := []) hBb hcb (by simp)) hs2 (Nat.le_refl _), hs2.at h.obj hOb, ?_, h.nd, h.old⟩, hs2⟩
    exact h.cs.turn hk hR (fun cs hcs _ => calm_one hBb hcb hcs) hs2 (List.nodup_append.1 h.nd).1 hn

theorem hasSplit_any {w : World} (k : Nat) (n : Nat) (ao : Option Addr) (c : Nat) (hO : w.cell? ⟨O, 9, none⟩ = some (.slice ao n c)) (hk : k < n) : Calls Tryz.prog 81 #[pt O, .int .i64 k] w fun e w' => e = .returned (.bool true) ∧ w = w' := by
  have d0 : decide ((k : Int) ≥ 0) = true := by simp
  have d1 : decide ((k : Int) < (n : Int)) = true := by simp; omega
  have d2 : decide ((0 : Int) ≤ (k : Int)) = true := by simp
  go_enter Tryz.func81, Tryz.ntmps81
  go_wp2
  go_ret
  exact ⟨rfl, rfl⟩

set_option maxHeartbeats 4000000 in
theorem split_any (G : Given wB s j) {w : World} (h : Outs wB s j O vs vp bs ps w) {k : Nat} (hk : k < j.splits.length) :
    Calls Tryz.prog 59 #[pt O, .int .i64 k] w (Told wB.heap.size (splitL j.mp j.cb j.fuel (j.splits[k])) (fun x => x ∈ bs) (Outs wB s j O vs vp bs ps) w) := by
  have hkb : k < bs.length := by rw [h.cs.len]; unfold splitsD; rw [List.length_map]; exact hk
  have hkb2 := List.getElem?_eq_getElem hkb
  generalize hbk : bs[k] = b at hkb2
  obtain ⟨g, cap, rfl, hg, hgk, -⟩ := h.cs.at hkb2
  have hlen := h.cs.len
  have h1 := h.on (alloc_oneC w (.cells #[.slice none 0 0, .int .i64 0] 113))
  have hn1 := new_block w (.cells #[.slice none 0 0, .int .i64 0] 113)
  have o9 : (w.alloc (.cells #[.slice none 0 0, .int .i64 0] 113)).cell? ⟨O, 9, none⟩ = some (.slice (some ⟨g, 0, none⟩) bs.length cap) := cell_of_cells h1.obj
  have gk := ((alloc_oneC w (.cells #[.slice none 0 0, .int .i64 0] 113)).cell (p := ⟨g, k, none⟩) hg).trans hgk
  have HG := hid (getS G h1 hkb2 hk)
  have HH := hid (hasSplit_any k bs.length _ cap o9 hkb)
  have HN1 := hid hn1
  have hbm := List.mem_of_getElem? hkb2
  have hbl : b < w.heap.size := by
    obtain ⟨cs, hc⟩ := h.tag hkb2
    exact lt_of_block hc
  have HB := hid h.below.size
  have hnot : ∀ (x : Bool) (w : World), (Op.unary .not (.bool x)).run Tryz.prog w = .ok (.bool (!x)) w := fun _ _ => rfl
  have dk : decide ((k : Int) < (bs.length : Int)) = true := by simp; omega
  clear h h1 hn1 hkb2 hlen hgk
  go_enter Tryz.func59, Tryz.ntmps59
  go_wp2_with fail
  refine HH.out.mono ?_
  rintro e w1 ⟨rfl, rfl⟩
  go_wp2_with fail
  refine HG.out.mono ?_
  rintro e y ⟨ao, n, c, r, rfl, ht, hj, hs⟩
  have hq := hs.at HN1.out (fun h => by unfold Just at h; omega)
  have q0 : y.cell? ⟨w.heap.size, 0, none⟩ = some (.slice none 0 0) := cell_of_cells hq
  have q1 : y.cell? ⟨w.heap.size, 1, none⟩ = some (.int .i64 0) := cell_of_cells hq
  have z0 : y.frozen? ⟨w.heap.size, 0, none⟩ = false := free_of_cells hq
  have z1 : y.frozen? ⟨w.heap.size, 1, none⟩ = false := free_of_cells hq
  have HE := hid (set_two (.slice ao n c) (.int .i64 r) q0 q1)
  have hst : Sav (Just w.heap.size) y ((y.setCell ⟨w.heap.size, 0, none⟩ (.slice ao n c)).setCell ⟨w.heap.size, 1, none⟩ (.int .i64 r)) := ((Sav.refl (Just w.heap.size) y).setCell (just _) 0 _).setCell (just _) 1 _
  have HJ := hid (hj.sav (calm_out HB.out hq) hst)
  have HT := hid (ht.sav (calm_out (B := wB.heap.size) (bs := []) HB.out hq) hst)
  have HSV := hid ((((Sav.refl (fun x => x ∈ bs) w).alloc (.cells #[.slice none 0 0, .int .i64 0] 113)).trans (hs.mono (fun _ _ h => by unfold Just at h; rw [h]; exact hbm))).then hst (fun i hi h => by unfold Just at h; omega))
  clear ht hj hs hq hst HG HH HN1
  go_wp2
  generalize (y.setCell ⟨w.heap.size, 0, none⟩ (.slice ao n c)).setCell ⟨w.heap.size, 1, none⟩ (.int .i64 r) = w5 at HE HJ HT HSV ⊢
  have e0 := HE.out.1
  have e1 := HE.out.2
  refine bodyPost_ret (by simp [results, Tryz.results59, go_sem, e0, e1]; try rfl) rfl ?_
  exact ⟨ao, n, c, r, rfl, HT.out, HJ.out, HSV.out⟩

theorem set_two_far {w : World} {q c i : Nat} {u1 u2 : Value} (h : c ≠ q) : ((w.setCell ⟨q, 0, none⟩ u1).setCell ⟨q, 1, none⟩ u2).cell? ⟨c, i, none⟩ = w.cell? ⟨c, i, none⟩ :=
  (World.cell?_setCell_other _ _ _ _ (by intro e; cases e; exact h rfl)).trans (World.cell?_setCell_other _ _ _ _ (by intro e; cases e; exact h rfl))
set_option maxHeartbeats 8000000 in
theorem run_any (G : Given wB s j) {w : World} (h : Outs wB s j O vs vp bs ps w) {k : Nat} (hk : k < j.splits.length) (p : Int) :
    Calls Tryz.prog 60 #[pt O, .int .i64 k, .int .i64 p] w (Told wB.heap.size (runOf (splitL j.mp j.cb j.fuel (j.splits[k])) j.parts p) (fun x => x ∈ bs) (Outs wB s j O vs vp bs ps) w) := by
  have h1 := h.on (alloc_oneC w (.cells #[.slice none 0 0, .int .i64 0] 113))
  have hn1 := new_block w (.cells #[.slice none 0 0, .int .i64 0] 113)
  have hlt : ∀ x ∈ bs, x < w.heap.size := fun x hx => by
    obtain ⟨i, hi⟩ := List.getElem?_of_mem hx
    obtain ⟨cs, hc⟩ := h.tag hi
    exact lt_of_block hc
  have hO := lt_of_block h.obj
  have HG := hid (split_any G h1 hk)
  have HN1 := hid hn1
  have HLT := hid hlt
  have HB := hid h.below.size
  have hfew := splitL_few j.mp j.cb j.fuel (j.splits[k])
  have HOK := hid (splitL_ok G.fit.mp G.fit.cb j.fuel (j.splits[k]))
  have HNot := hid (splitL_told (mp := j.mp) (cb := j.cb) (f := j.fuel) (rs := j.splits[k]))
  have M := mayIs G.may
  have hp1 := M.p1
  have hp4 := M.p4
  clear h h1 hn1 hlt M G
  generalize splitL j.mp j.cb j.fuel (j.splits[k]) = R at *
  go_enter Tryz.func60, Tryz.ntmps60
  go_wp2_with fail
  refine HG.out.mono ?_
  rintro e y ⟨ao, n, c, r, rfl, ht, hj, hs⟩
  obtain ⟨rfl, ho⟩ := ht
  obtain ⟨ao', c', e'⟩ := own_slice ho
  cases e'
  have hq := hs.at HN1.out (fun h => by have := HLT.out _ h; omega)
  have hq2 := ((Sav.refl Non y).alloc (.cells #[.slice ao R.1.length c, .int .i64 R.2] 113)).at hq (fun h => h)
  have hq3 := new_block y (.cells #[.slice ao R.1.length c, .int .i64 R.2] 113)
  have hj2 := hj.on (alloc_oneC y (.cells #[.slice ao R.1.length c, .int .i64 R.2] 113))
  have ho2 := ho.alloc (.cells #[.slice ao R.1.length c, .int .i64 R.2] 113)
  have hs2 : Sav (fun x => x ∈ bs) w (y.alloc (.cells #[.slice ao R.1.length c, .int .i64 R.2] 113)) := (((Sav.refl (fun x => x ∈ bs) w).alloc (.cells #[.slice none 0 0, .int .i64 0] 113)).trans hs).alloc _
  have hsz := hs.size
  simp only [World.alloc, Array.size_push] at hsz
  clear hs ho hj HG HN1
  have hqw : y.heap.size ≠ w.heap.size := by omega
  have hOw : O ≠ w.heap.size := by omega
  have hsz1 : (y.alloc (.cells #[.slice ao R.1.length c, .int .i64 R.2] 113)).heap.size = y.heap.size + 1 := by simp
  have q0 : (y.alloc (.cells #[.slice ao R.1.length c, .int .i64 R.2] 113)).cell? ⟨w.heap.size, 0, none⟩ = some (.slice none 0 0) := cell_of_cells hq2
  have q1 : (y.alloc (.cells #[.slice ao R.1.length c, .int .i64 R.2] 113)).cell? ⟨w.heap.size, 1, none⟩ = some (.int .i64 0) := cell_of_cells hq2
  have z0 : (y.alloc (.cells #[.slice ao R.1.length c, .int .i64 R.2] 113)).frozen? ⟨w.heap.size, 0, none⟩ = false := free_of_cells hq2
  have z1 : (y.alloc (.cells #[.slice ao R.1.length c, .int .i64 R.2] 113)).frozen? ⟨w.heap.size, 1, none⟩ = false := free_of_cells hq2
  have HJ := hid hj2
  have HO := hid ho2
  have HS := hid hs2
  have HQ := hid hq2
  clear hj2 ho2 hs2 hq2 hq3
  by_cases hr : R.2 = 0
  · have h0 : (R.2 != 0) = false := by simpa using hr
    have HR0 := hid hr
    have HF := hid (runOf_fine (parts := j.parts) (p := p) hr)
    clear hr
    have HPr := hid (show Prs (y.alloc (.cells #[.slice ao R.1.length c, .int .i64 R.2] 113)) (.slice ao R.1.length c) R.1 from Reads.own encP_len (by decide) HO.out)
    go_wp2_with fail
    have hdr : Below (y.alloc (.cells #[.slice ao R.1.length c, .int .i64 R.2] 113)).heap.size (y.alloc (.cells #[.slice ao R.1.length c, .int .i64 R.2] 113)) (y.alloc (.cells #[.slice ao R.1.length c, .int .i64 R.2] 113)).drew := ⟨rfl, rfl, rfl, Nat.le_refl _, fun _ _ => rfl⟩
    have HPd := hid (Reads.below HPr.out hdr)
    have o1 : (y.alloc (.cells #[.slice ao R.1.length c, .int .i64 R.2] 113)).cell? ⟨O, 1, none⟩ = some (.int .i64 j.parts) := cell_of_cells HJ.out.obj
    have y0 : (y.alloc (.cells #[.slice ao R.1.length c, .int .i64 R.2] 113)).cell? ⟨y.heap.size, 0, none⟩ = some (.slice ao R.1.length c) := by go_simp
    have HOL := hid (lt_of_block HJ.out.obj)
    go_region_held3 (fun w' => w'.cell? ⟨O, 1, none⟩ = some (.int .i64 j.parts) ∧ w'.cell? ⟨y.heap.size, 0, none⟩ = some (.slice ao R.1.length c)) (first | exact ⟨d1, d0⟩ | exact ⟨(set_two_far hOw).trans d1, (set_two_far hqw).trans d0⟩ | go_keep)
      (first | (go_at_call 83; refine (only_any _ R.1 j.parts p (by omega) (by omega) _ HPd.out (by omega) (fun x hx => by have := (HOK.out x hx).1; omega)).mono ?_; rintro e z ⟨u, rfl, ho1, hb1⟩; obtain ⟨zo, zc, rfl⟩ := own_slice ho1; have HBz := hid (show Below (y.alloc (.cells #[.slice ao R.1.length c, .int .i64 R.2] 113)).heap.size (y.alloc (.cells #[.slice ao R.1.length c, .int .i64 R.2] 113)) z from ⟨hb1.os, hb1.tape, hb1.output, hb1.size, hb1.block⟩); have d1 := (HBz.out.cell (p := ⟨O, 1, none⟩) HOL.out).trans o1; have d0 := (HBz.out.cell (p := ⟨y.heap.size, 0, none⟩) (show y.heap.size < (y.alloc (.cells #[.slice ao R.1.length c, .int .i64 R.2] 113)).heap.size by omega)).trans y0; have HOz := hid ho1; have hqz := (HBz.out.block _ (lt_of_block HQ.out)).trans HQ.out; have z0' : z.frozen? ⟨w.heap.size, 0, none⟩ = false := free_of_cells hqz; have z1' : z.frozen? ⟨w.heap.size, 1, none⟩ = false := free_of_cells hqz; have q0' : z.cell? ⟨w.heap.size, 0, none⟩ = some (.slice none 0 0) := cell_of_cells hqz; have q1' : z.cell? ⟨w.heap.size, 1, none⟩ = some (.int .i64 0) := cell_of_cells hqz; have HQz := hid hqz; clear ho1 hb1 hqz))
    have HE := hid (set_two (.slice zo (onlyL R.1 j.parts p).length zc) (.int .i64 0) q0' q1')
    have hst : Sav (Just w.heap.size) z ((z.setCell ⟨w.heap.size, 0, none⟩ (.slice zo (onlyL R.1 j.parts p).length zc)).setCell ⟨w.heap.size, 1, none⟩ (.int .i64 0)) := ((Sav.refl (Just w.heap.size) z).setCell (just _) 0 _).setCell (just _) 1 _
    have HJ5 := hid ((HJ.out.on HBz.out).sav (calm_out HB.out HQz.out) hst)
    have HT5 := hid ((calm_out (B := wB.heap.size) (bs := []) HB.out HQz.out).owns hst (owns_mono HOz.out (show wB.heap.size ≤ _ by have := HB.out; simp; omega)) (by decide) (by decide) (by decide))
    have HS5 := hid ((HS.out.trans (Sav.of_below HBz.out)).then hst (fun i hi h => by unfold Just at h; omega))
    clear hst HJ HO HS HQ HNot HOK HQz HOz HBz HPd HPr q0 q1 z0 z1 d0 d1 y0 o1
    go_wp2
    generalize (z.setCell ⟨w.heap.size, 0, none⟩ (.slice zo (onlyL R.1 j.parts p).length zc)).setCell ⟨w.heap.size, 1, none⟩ (.int .i64 0) = w5 at HE HJ5 HT5 HS5 ⊢
    have e0 := HE.out.1
    have e1 := HE.out.2
    refine bodyPost_ret (by simp [results, Tryz.results60, go_sem, e0, e1]; try rfl) rfl ?_
    exact ⟨zo, _, zc, _, rfl, by rw [HF.out]; exact ⟨rfl, HT5.out⟩, HJ5.out, HS5.out⟩
  · have h0 : (R.2 != 0) = true := by simpa using hr
    have HF := hid (runOf_not (parts := j.parts) (p := p) hr)
    have HNil := hid (HNot.out hr)
    have HE := hid (set_two (.slice ao R.1.length c) (.int .i64 R.2) q0 q1)
    have hst : Sav (Just w.heap.size) (y.alloc (.cells #[.slice ao R.1.length c, .int .i64 R.2] 113)) (((y.alloc (.cells #[.slice ao R.1.length c, .int .i64 R.2] 113)).setCell ⟨w.heap.size, 0, none⟩ (.slice ao R.1.length c)).setCell ⟨w.heap.size, 1, none⟩ (.int .i64 R.2)) := ((Sav.refl (Just w.heap.size) (y.alloc (.cells #[.slice ao R.1.length c, .int .i64 R.2] 113))).setCell (just _) 0 _).setCell (just _) 1 _
    have HJ5 := hid (HJ.out.sav (calm_out HB.out HQ.out) hst)
    have HT5 := hid ((calm_out (B := wB.heap.size) (bs := []) HB.out HQ.out).owns hst HO.out (by decide) (by decide) (by decide))
    have HS5 := hid (HS.out.then hst (fun i hi h => by unfold Just at h; omega))
    clear hst HJ HO HS HQ HNot HOK
    go_wp2
    generalize ((y.alloc (.cells #[.slice ao R.1.length c, .int .i64 R.2] 113)).setCell ⟨w.heap.size, 0, none⟩ (.slice ao R.1.length c)).setCell ⟨w.heap.size, 1, none⟩ (.int .i64 R.2) = w5 at HE HJ5 HT5 HS5 ⊢
    have e0 := HE.out.1
    have e1 := HE.out.2
    try simp only [Exit.inBlock, Exit.then]
    refine bodyPost_ret (by simp [results, Tryz.results60, go_sem, e0, e1]; try rfl) rfl ?_
    exact ⟨ao, _, c, _, rfl, by rw [HF.out]; have h := HT5.out; rw [HNil.out] at h ⊢; exact ⟨rfl, h⟩, HJ5.out, HS5.out⟩
end Go.Proofs.YtfimoobgbodbmaaGreatDoor
/-! reduced and makePart: what a part comes to, for all splits; a part's cell that is asked. -/
namespace Go.Proofs.YtfimoobgbodbmaaGreatDoor
open Go.RowKit Go.Lib
set_option linter.unusedVariables false
set_option maxRecDepth 100000

/-- What is owned stays where cells alone turn. -/
theorem owns_cells {w w' : World} {U : Nat → Prop} {C e s n : Nat} {v : Value} {xs : List Value} (h : w.ownsRow C e s v n xs) (hs : Sav U w w') (hU : ∀ k, U k → ∃ cs, w.heap[k]? = some (.cells cs 146 (0, 0))) (he : e ≠ 146) : w'.ownsRow C e s v n xs := by
  refine ⟨h.1, ?_⟩
  rcases h.2 with h0 | ⟨g, cap, cur, hv, hb, hh, r⟩
  · exact .inl h0
  · refine .inr ⟨g, cap, cur, hv, hb, hs.at hh fun hu => ?_, r⟩
    obtain ⟨cs, hc⟩ := hU g hu
    rw [hh] at hc
    cases hc
    exact he rfl
theorem LRows.cells {B : Nat} {ls : List (List KV)} {u : Value} {w w' : World} {U : Nat → Prop} (h : LRows B ls u w) (hs : Sav U w w') (hU : ∀ k, U k → ∃ cs, w.heap[k]? = some (.cells cs 146 (0, 0))) : LRows B ls u w' := by
  obtain ⟨vs, h1, h2⟩ := h
  refine ⟨vs, owns_cells h1 hs hU (by decide), fun j l hj => ?_⟩
  obtain ⟨x, hx, ho⟩ := h2 j l hj
  exact ⟨x, hx, owns_cells ho hs hU (by decide)⟩
theorem sav_grown {w w' : World} {r : Option Nat} (hg : w.grownBy w' r) : Sav (fun k => r = some k) w w' := ⟨hg.os, hg.tape, hg.output, hg.size, fun k hk hn => hg.block k hk (fun e => hn e.symm)⟩
theorem calm_row {B C s n : Nat} {bs : List Nat} {w : World} {v : Value} {xs : List Value} (h : w.ownsRow C 51 s v n xs) (hB : B ≤ C) : Calm B bs w (fun k => v.ownBlock = some k) := by
  intro k hk hv
  rcases h.2 with ⟨rfl, _⟩ | ⟨g, cap, cur, rfl, hb, hh, r⟩
  · cases hv
  · cases hv
    exact ⟨Nat.le_trans hB hb, _, _, hh, .inl rfl⟩
theorem every_any (v : Value) (w : World) : Calls Tryz.prog 102 #[v] w fun e w' => e = .returned (.bool true) ∧ w = w' := by
  go_enter Tryz.func102, Tryz.ntmps102
  go_wp2
  go_ret
  exact ⟨rfl, rfl⟩
theorem all_take_moreO {xs : List (List KV × Int)} {k : Nat} {x : List KV × Int} (h : ∀ y ∈ xs.take k, y.2 = 0) (hl : xs[k]? = some x) (hp : x.2 = 0) : ∀ y ∈ xs.take (k + 1), y.2 = 0 := by
  rw [List.take_add_one, hl]
  intro y hy
  rcases List.mem_append.1 hy with hy | hy
  · exact h y hy
  · simp at hy
    subst hy
    exact hp
/-- The lists of a part. -/
def onlyD (j : JobV) (p : Int) (xs : List (List KV × Int)) : List (List KV) := xs.map fun x => onlyL x.1 j.parts p
theorem onlyD_more {j : JobV} {p : Int} {xs : List (List KV × Int)} {q : Nat} {R : List KV × Int} (h : xs[q]? = some R) : onlyD j p (xs.take (q + 1)) = onlyD j p (xs.take q) ++ [onlyL R.1 j.parts p] := by
  unfold onlyD
  rw [List.take_add_one, h]
  simp
theorem onlyD_len (j : JobV) (p : Int) (xs : List (List KV × Int)) : (onlyD j p xs).length = xs.length := by unfold onlyD; simp
theorem onlyD_few {j : JobV} {p : Int} : ∀ {xs : List (List KV × Int)}, (∀ x ∈ xs, x.1.length ≤ 40) → (onlyD j p xs).flatten.length ≤ xs.length * 40
  | [], _ => by simp [onlyD]
  | x :: xs, h => by
    have h1 := h x List.mem_cons_self
    have h2 := onlyD_few (j := j) (p := p) (xs := xs) fun y hy => h y (List.mem_cons_of_mem _ hy)
    have h3 := onlyL_len x.1 j.parts p
    have e : onlyD j p (x :: xs) = onlyL x.1 j.parts p :: onlyD j p xs := rfl
    rw [e, List.flatten_cons, List.length_append, List.length_cons, Nat.add_mul]
    omega
theorem splitsD_few (j : JobV) : ∀ x ∈ splitsD j, x.1.length ≤ 40 := by
  intro x hx
  obtain ⟨l, _, rfl⟩ := List.mem_map.1 hx
  exact splitL_few _ _ _ _
theorem splitsD_ok {j : JobV} (F : JobFit j) : ∀ x ∈ splitsD j, ∀ y ∈ x.1, smallKV y := by
  intro x hx
  obtain ⟨l, _, rfl⟩ := List.mem_map.1 hx
  exact splitL_ok F.mp F.cb _ _
theorem onlyD_ok {j : JobV} {p : Int} {xs : List (List KV × Int)} (h : ∀ x ∈ xs, ∀ y ∈ x.1, smallKV y) : ∀ y ∈ (onlyD j p xs).flatten, smallKV y := by
  intro y hy
  obtain ⟨l, hl, hyl⟩ := List.mem_flatten.1 hy
  obtain ⟨x, hx, rfl⟩ := List.mem_map.1 hl
  exact onlyL_small (h x hx) y hyl

variable {wB : World} {s : SlJ} {j : JobV} {O : Nat} {vs vp : Value} {bs ps : List Nat}
set_option maxHeartbeats 8000000 in
theorem reduced_any (G : Given wB s j) {w : World} (h : Outs wB s j O vs vp bs ps w) (p : Int) :
    Calls Tryz.prog 101 #[pt O, .int .i64 p, .func (.func 102) #[] #[]] w (Told wB.heap.size (partD j p) (fun x => x ∈ bs) (Outs wB s j O vs vp bs ps) w) := by
  have M := mayIs G.may
  have hnb : bs.length = j.splits.length := by rw [h.cs.len]; unfold splitsD; rw [List.length_map]
  have hlt : ∀ x ∈ bs, x < w.heap.size := fun x hx => by
    obtain ⟨i, hi⟩ := List.getElem?_of_mem hx
    obtain ⟨cs, hc⟩ := h.tag hi
    exact lt_of_block hc
  obtain ⟨so, sc, rfl⟩ := own_slice h.cs.row
  have h1 := h.on (alloc_oneC w (.cells #[.slice none 0 0, .int .i64 0] 113))
  have hn1 := new_block w (.cells #[.slice none 0 0, .int .i64 0] 113)
  have o9 : (w.alloc (.cells #[.slice none 0 0, .int .i64 0] 113)).cell? ⟨O, 9, none⟩ = some (.slice so bs.length sc) := cell_of_cells h1.obj
  have HO1 := hid h1
  have HN1 := hid hn1
  have HLT := hid hlt
  have HB := hid h.below.size
  have HG := hid G
  have HM := hid M
  have hOw := lt_of_block h.obj
  have hsl := M.sp
  clear h h1 hn1 hlt G M
  go_enter Tryz.func101, Tryz.ntmps101
  go_wp2
  go_loopw [7, 17] (fun u i wr => ∃ q : Nat, q ≤ bs.length ∧ i = .int .i64 q ∧ Hid (∀ x ∈ (splitsD j).take q, x.2 = 0) ∧ LRows w.heap.size (onlyD j p ((splitsD j).take q)) u wr ∧ Outs wB s j O (.slice so bs.length sc) vp bs ps wr ∧ Sav (fun x => x ∈ bs) w wr ∧ wr.heap[w.heap.size]? = some (.cells #[.slice none 0 0, .int .i64 0] 113 (0, 0))) (fun _ i _ => bs.length - (intOf i).toNat)
  case atStart => exact ⟨0, by omega, rfl, hid (fun x hx => by simp at hx), LRows.nil _ _, HO1.out, (Sav.refl _ _).alloc _, HN1.out⟩
  case round =>
    obtain ⟨q, hq, rfl, HF, hrw, hou, hsv, hnb2⟩ := hrel
    have HRw := hid hrw
    have HOu := hid hou
    have HSv := hid hsv
    have HNb := hid hnb2
    have hsz := hsv.size
    clear hrw hou hsv hnb2
    by_cases hlt : q < bs.length
    · have d1 : decide ((q : Int) < (bs.length : Int)) = true := by simp; omega
      have hqs : q < j.splits.length := by omega
      have hnot : ∀ (x : Bool) (w : World), (Op.unary .not (.bool x)).run Tryz.prog w = .ok (.bool (!x)) w := fun _ _ => rfl
      go_wp2_with fail
      refine (every_any _ _).mono ?_
      rintro e wx ⟨rfl, hwx⟩
      subst hwx
      go_wp2_with fail
      refine (run_any HG.out HOu.out hqs p).mono ?_
      rintro e y ⟨ao, n, c, r, rfl, ht, hj, hs⟩
      have hRq := splitsD_at hqs
      generalize splitL j.mp j.cb j.fuel (j.splits[q]) = R at ht hRq
      have htag : ∀ k, k ∈ bs → ∃ cs, wr.heap[k]? = some (.cells cs 146 (0, 0)) := fun k hk => by
        obtain ⟨i, hi⟩ := List.getElem?_of_mem hk
        exact HOu.out.tag hi
      have hrw2 := HRw.out.cells hs htag
      have hnb3 := hs.at HNb.out (fun h => by have := HLT.out _ h; omega)
      have hsv2 := HSv.out.trans hs
      have hszy := hs.size
      obtain ⟨hr', ho⟩ := ht
      obtain ⟨ao', c', e'⟩ := own_slice ho
      cases e'
      have HRq := hid hRq
      clear hs htag HRw HNb HSv HOu hRq
      by_cases hr : R.2 = 0
      · rw [runOf_fine hr] at hr' ho ⊢
        simp only at hr' ho ⊢
        subst hr'
        have HR0 := hid hr
        clear hr
        have h0 : ((0 : Int) != 0) = false := rfl
        have hj2 := hj.on (alloc_oneC y (.cells #[.slice ao (onlyL R.1 j.parts p).length c, .int .i64 0] 113))
        have hq2 := ((Sav.refl Non y).alloc (.cells #[.slice ao (onlyL R.1 j.parts p).length c, .int .i64 0] 113)).at hnb3 (fun h => h)
        have hsv3 := hsv2.alloc (.cells #[.slice ao (onlyL R.1 j.parts p).length c, .int .i64 0] 113)
        have hrw3 := hrw2.below (alloc_oneC y (.cells #[.slice ao (onlyL R.1 j.parts p).length c, .int .i64 0] 113))
        have ho3 := ho.alloc (.cells #[.slice ao (onlyL R.1 j.parts p).length c, .int .i64 0] 113)
        have hall := all_take_moreO HF.out HRq.out HR0.out
        have hmo := onlyD_more (j := j) (p := p) HRq.out
        have hlk := onlyD_len j p ((splitsD j).take q)
        have hlq : ((splitsD j).take q).length = q := by rw [List.length_take]; unfold splitsD; rw [List.length_map]; omega
        rw [hlq] at hlk
        generalize onlyL R.1 j.parts p = L at *
        obtain ⟨vs2, hv1, hv2⟩ := hrw3
        rw [hlk] at hv1
        have HV1 := hid hv1
        have HV2 := hid hv2
        have HJ2 := hid hj2
        have HQ2 := hid hq2
        have HS3 := hid hsv3
        have HO3 := hid (show Own 0 (.slice ao L.length c) L _ from owns_mono ho3 (Nat.zero_le _))
        have HAll := hid hall
        have HMo := hid hmo
        have HLk := hid hlk
        have hszY : (y.alloc (.cells #[.slice ao L.length c, .int .i64 0] 113)).heap.size = y.heap.size + 1 := by simp
        have hc0 : (y.alloc (.cells #[.slice ao L.length c, .int .i64 0] 113)).cell? ⟨y.heap.size, 0, none⟩ = some (.slice ao L.length c) := by go_simp
        have hc1 : (y.alloc (.cells #[.slice ao L.length c, .int .i64 0] 113)).cell? ⟨y.heap.size, 1, none⟩ = some (.int .i64 0) := by go_simp
        obtain ⟨i0, hi, hz0, hz1, hz2⟩ := info_parts Tryz.infoS
        clear hj hj2 hq2 hsv2 hsv3 hrw2 hv1 hv2 ho ho3 hall hmo hlk hlq hnb3
        go_wp2_with (at_builtin; refine wpList_append_own _ rfl _ _ 22 rfl w.heap.size 51 i0 (.slice none 0 0) 1 24 Tryz.underlying22 hi hz0 hz1 hz2 rfl (by decide) _ q _ rfl (HV1.out.alloc _) ⟨y.heap.size + 1, 0, none⟩ 1 1 [.slice ao L.length c] rfl rfl (by rw [← hszY]; exact one_new _ _ _) (by intro u hu; simp at hu; subst hu; rfl) (by unfold maxLen; omega) (by omega) (by simp; omega) ?_; intro v3 w3 ho3 hg3 _)
        have hal : Below _ _ ((y.alloc (.cells #[.slice ao L.length c, .int .i64 0] 113)).alloc (.cells #[.slice ao L.length c] 51)) := alloc_oneC _ _
        have hcalm : Calm wB.heap.size bs _ _ := calm_row (HV1.out.alloc (.cells #[.slice ao L.length c] 51)) HB.out
        have HJ3 := hid ((HJ2.out.on hal).sav hcalm (sav_grown hg3))
        have HS4 := hid ((HS3.out.alloc (.cells #[.slice ao L.length c] 51)).then (sav_grown hg3) (fun i hi h => by have := owns_base HV1.out h; omega))
        have HQ3 := hid (heap_grown ((hal.block _ (lt_of_block HQ2.out)).trans HQ2.out) (HV1.out.alloc (.cells #[.slice ao L.length c] 51)) (by decide) hg3)
        have HC3 := hid (show LRows w.heap.size (onlyD j p ((splitsD j).take (q + 1))) v3 w3 by
          rw [HMo.out]
          exact LRows.more (by rw [HLk.out]; exact HV1.out.alloc _) (rows_at HV2.out hal) (own_one (HO3.out.below hal)) (by rw [HLk.out]; exact ho3) hg3)
        clear ho3 hg3 hal hcalm HV1 HV2 HJ2 HQ2 HS3 HO3 HMo hc0 hc1
        go_wp2
        go_roundw
        case rel => exact ⟨q + 1, by omega, by go_num, HAll, HC3.out, HJ3.out, HS4.out, HQ3.out⟩
        case measure => simp [intOf]; omega
      · rw [runOf_not hr] at hr' ho ⊢
        simp only at hr' ho ⊢
        subst hr'
        have h0 : (R.2 != 0) = true := by simpa using hr
        have HPD := hid (partOfL_first (rd := j.rd) (f := j.fuel) (parts := j.parts) (p := p) HF.out HRq.out hr)
        have HD := hid (show partD j p = ([], R.2) from HPD.out)
        have hj2 := hj.on (alloc_oneC y (.cells #[.slice ao ([] : List KV).length c, .int .i64 R.2] 113))
        have hq2 := ((Sav.refl Non y).alloc (.cells #[.slice ao ([] : List KV).length c, .int .i64 R.2] 113)).at hnb3 (fun h => h)
        have hsv3 := hsv2.alloc (.cells #[.slice ao ([] : List KV).length c, .int .i64 R.2] 113)
        have ho3 := ho.alloc (.cells #[.slice ao ([] : List KV).length c, .int .i64 R.2] 113)
        simp only [List.length_nil] at hj2 hq2 hsv3 ho3 ⊢
        have q0 : (y.alloc (.cells #[.slice ao 0 c, .int .i64 R.2] 113)).cell? ⟨w.heap.size, 0, none⟩ = some (.slice none 0 0) := cell_of_cells hq2
        have q1 : (y.alloc (.cells #[.slice ao 0 c, .int .i64 R.2] 113)).cell? ⟨w.heap.size, 1, none⟩ = some (.int .i64 0) := cell_of_cells hq2
        have z0 : (y.alloc (.cells #[.slice ao 0 c, .int .i64 R.2] 113)).frozen? ⟨w.heap.size, 0, none⟩ = false := free_of_cells hq2
        have z1 : (y.alloc (.cells #[.slice ao 0 c, .int .i64 R.2] 113)).frozen? ⟨w.heap.size, 1, none⟩ = false := free_of_cells hq2
        have HE := hid (set_two (.slice ao 0 c) (.int .i64 R.2) q0 q1)
        have hst : Sav (Just w.heap.size) (y.alloc (.cells #[.slice ao 0 c, .int .i64 R.2] 113)) (((y.alloc (.cells #[.slice ao 0 c, .int .i64 R.2] 113)).setCell ⟨w.heap.size, 0, none⟩ (.slice ao 0 c)).setCell ⟨w.heap.size, 1, none⟩ (.int .i64 R.2)) := ((Sav.refl (Just w.heap.size) _).setCell (just _) 0 _).setCell (just _) 1 _
        have HJ5 := hid (hj2.sav (calm_out HB.out hq2) hst)
        have HT5 := hid ((calm_out (B := wB.heap.size) (bs := []) HB.out hq2).owns hst ho3 (by decide) (by decide) (by decide))
        have HS5 := hid (hsv3.then hst (fun i hi h => by unfold Just at h; omega))
        have hqw : y.heap.size ≠ w.heap.size := by have := lt_of_block hnb3; omega
        clear hj2 hq2 hsv3 ho3 hst hj hsv2 ho hnb3 hrw2
        go_wp2
        generalize (((y.alloc (.cells #[.slice ao 0 c, .int .i64 R.2] 113)).setCell ⟨w.heap.size, 0, none⟩ (.slice ao 0 c)).setCell ⟨w.heap.size, 1, none⟩ (.int .i64 R.2)) = w5 at HE HJ5 HT5 HS5 ⊢
        have e0 := HE.out.1
        have e1 := HE.out.2
        refine bodyPost_ret (by simp [results, Tryz.results101, go_sem, e0, e1]; try rfl) rfl ?_
        exact ⟨ao, _, c, _, rfl, by rw [HD.out]; exact ⟨rfl, HT5.out⟩, HJ5.out, HS5.out⟩
    · obtain rfl : q = bs.length := by omega
      have d1 : decide ((bs.length : Int) < (bs.length : Int)) = false := by simp
      have htk : (splitsD j).take bs.length = splitsD j := List.take_of_length_le (by unfold splitsD; rw [List.length_map]; omega)
      rw [htk] at HF HRw
      have HPD := hid (show partD j p = eachL j.rd (srt (onlyD j p (splitsD j)).flatten) j.fuel from partOfL_fine HF.out)
      have hfl : (onlyD j p (splitsD j)).flatten.length ≤ 240 := by
        have h1 := onlyD_few (j := j) (p := p) (splitsD_few j)
        have h2 : (splitsD j).length ≤ 6 := by unfold splitsD; rw [List.length_map]; omega
        omega
      have hok := onlyD_ok (j := j) (p := p) (splitsD_ok HG.out.fit)
      have hLis := HRw.out.lis
      generalize (onlyD j p (splitsD j)) = ls at *
      have HFF := hid (show FitsF j.rd (srt ls.flatten) from ⟨HG.out.fit.rd, by have := bad_short HM.out.rd; omega, by rw [length_srt]; omega, fun x hx => by
        have := hok x (mem_srt.1 hx)
        exact ⟨small_len (by have := this.1; omega), small_len (by have := this.2; omega)⟩⟩)
      have hdr : Below wr.heap.size wr wr.drew := ⟨rfl, rfl, rfl, Nat.le_refl _, fun _ _ => rfl⟩
      have HLis := hid (hLis.below hdr)
      have o4 : wr.cell? ⟨O, 4, none⟩ = some (.slice s.ro j.rd.length s.rc) := cell_of_cells HOu.out.obj
      have o7 : wr.cell? ⟨O, 7, none⟩ = some (.int .i64 j.fuel) := cell_of_cells HOu.out.obj
      have HOL := hid (lt_of_block HOu.out.obj)
      have HBw := hid HOu.out.below
      have HFl := hid hfl
      clear hok hLis hdr htk hfl
      go_wp2_with fail
      go_region_held3 (fun w' => w'.cell? ⟨O, 4, none⟩ = some (.slice s.ro j.rd.length s.rc) ∧ w'.cell? ⟨O, 7, none⟩ = some (.int .i64 j.fuel)) (first | exact ⟨f4, f7⟩ | exact ⟨d4, d7⟩ | go_keep)
        (first
              | (go_at_call 125; refine (each_any _ _ _ j.rd (srt ls.flatten) j.fuel (HG.out.tabs.on (below_then HBw.out HB1.out HBw.out.size)) (HG.out.job.rd.below (below_then HBw.out HB1.out HBw.out.size)) (Reads.own encP_len (by decide) HO1.out) HFF.out HG.out.fit.fuel).mono ?_; rintro e z2 ⟨u2, rfl, ho2, hb2⟩; obtain ⟨zo, zc, rfl⟩ := own_slice ho2; have HB2 := hid (below_then HB1.out hb2 HB1.out.size); have HO2 := hid ho2; have f4 := (HB2.out.cell (p := ⟨O, 4, none⟩) HOL.out).trans o4; have f7 := (HB2.out.cell (p := ⟨O, 7, none⟩) HOL.out).trans o7; have HS1 := hid HB1.out.size; clear ho2 hb2)
              | (go_at_call 126; refine (runs_any _ ls wr.drew HLis.out (by have := HFl.out; omega)).mono ?_; rintro e z1 ⟨u1, rfl, ho1, hb1⟩; have HB1 := hid (show Below wr.heap.size wr z1 from ⟨hb1.os, hb1.tape, hb1.output, hb1.size, hb1.block⟩); have HO1 := hid ho1; have d4 := (HB1.out.cell (p := ⟨O, 4, none⟩) HOL.out).trans o4; have d7 := (HB1.out.cell (p := ⟨O, 7, none⟩) HOL.out).trans o7; clear ho1 hb1))
      rw [← HPD.out] at HO2
      have hq2 := (HB2.out.block _ (lt_of_block HNb.out)).trans HNb.out
      rw [← HPD.out]
      generalize hR2 : partD j p = R2 at *
      have HR2 := hid hR2
      have q0 : z2.cell? ⟨w.heap.size, 0, none⟩ = some (.slice none 0 0) := cell_of_cells hq2
      have q1 : z2.cell? ⟨w.heap.size, 1, none⟩ = some (.int .i64 0) := cell_of_cells hq2
      have y0 : z2.frozen? ⟨w.heap.size, 0, none⟩ = false := free_of_cells hq2
      have y1 : z2.frozen? ⟨w.heap.size, 1, none⟩ = false := free_of_cells hq2
      have HE := hid (set_two (.slice zo R2.1.length zc) (.int .i64 R2.2) q0 q1)
      have hst : Sav (Just w.heap.size) z2 ((z2.setCell ⟨w.heap.size, 0, none⟩ (.slice zo R2.1.length zc)).setCell ⟨w.heap.size, 1, none⟩ (.int .i64 R2.2)) := ((Sav.refl (Just w.heap.size) z2).setCell (just _) 0 _).setCell (just _) 1 _
      have HJ5 := hid ((HOu.out.on HB2.out).sav (calm_out HB.out hq2) hst)
      have HT5 := hid ((calm_out (B := wB.heap.size) (bs := []) HB.out hq2).owns hst (owns_mono HO2.out (show wB.heap.size ≤ _ by have := HS1.out; have := HB.out; omega)) (by decide) (by decide) (by decide))
      have HS5 := hid ((HSv.out.trans (Sav.of_below HB2.out)).then hst (fun i hi h => by unfold Just at h; omega))
      clear hst hq2 hR2 HOu HSv HNb HO2 HO1 HB1 HB2 HPD HF HRw HFF HLis f4 f7 d4 d7 o4 o7
      go_wp2
      generalize (z2.setCell ⟨w.heap.size, 0, none⟩ (.slice zo R2.1.length zc)).setCell ⟨w.heap.size, 1, none⟩ (.int .i64 R2.2) = w5 at HE HJ5 HT5 HS5 ⊢
      have e0 := HE.out.1
      have e1 := HE.out.2
      refine bodyPost_ret (by simp [results, Tryz.results101, go_sem, e0, e1]; try rfl) rfl ?_
      exact ⟨zo, _, zc, _, rfl, by rw [HR2.out]; exact ⟨rfl, HT5.out⟩, HJ5.out, HS5.out⟩

set_option maxHeartbeats 2000000 in
theorem makePart_any (G : Given wB s j) {w : World} (h : Outs wB s j O vs vp bs ps w) (p : Int) :
    Calls Tryz.prog 80 #[pt O, .int .i64 p] w (Told wB.heap.size (partD j p) (fun x => x ∈ bs) (Outs wB s j O vs vp bs ps) w) := by
  have hlt : ∀ x ∈ bs, x < w.heap.size := fun x hx => by
    obtain ⟨i, hi⟩ := List.getElem?_of_mem hx
    obtain ⟨cs, hc⟩ := h.tag hi
    exact lt_of_block hc
  have HG := hid (reduced_any G (h.on (alloc_oneC w (.cells #[.slice none 0 0, .int .i64 0] 113))) p)
  have HN1 := hid (new_block w (.cells #[.slice none 0 0, .int .i64 0] 113))
  have HLT := hid hlt
  have HB := hid h.below.size
  clear h hlt G
  go_enter Tryz.func80, Tryz.ntmps80
  go_wp2_with fail
  refine HG.out.mono ?_
  rintro e y ⟨ao, n, c, r, rfl, ht, hj, hs⟩
  have hq := hs.at HN1.out (fun h => by have := HLT.out _ h; omega)
  have q0 : y.cell? ⟨w.heap.size, 0, none⟩ = some (.slice none 0 0) := cell_of_cells hq
  have q1 : y.cell? ⟨w.heap.size, 1, none⟩ = some (.int .i64 0) := cell_of_cells hq
  have z0 : y.frozen? ⟨w.heap.size, 0, none⟩ = false := free_of_cells hq
  have z1 : y.frozen? ⟨w.heap.size, 1, none⟩ = false := free_of_cells hq
  have HE := hid (set_two (.slice ao n c) (.int .i64 r) q0 q1)
  have hst : Sav (Just w.heap.size) y ((y.setCell ⟨w.heap.size, 0, none⟩ (.slice ao n c)).setCell ⟨w.heap.size, 1, none⟩ (.int .i64 r)) := ((Sav.refl (Just w.heap.size) y).setCell (just _) 0 _).setCell (just _) 1 _
  have HJ := hid (hj.sav (calm_out HB.out hq) hst)
  have HT := hid (ht.sav (calm_out (B := wB.heap.size) (bs := []) HB.out hq) hst)
  have HSV := hid ((((Sav.refl (fun x => x ∈ bs) w).alloc (.cells #[.slice none 0 0, .int .i64 0] 113)).trans hs).then hst (fun i hi h => by unfold Just at h; omega))
  clear ht hj hs hq hst HG HN1
  go_wp2
  generalize (y.setCell ⟨w.heap.size, 0, none⟩ (.slice ao n c)).setCell ⟨w.heap.size, 1, none⟩ (.int .i64 r) = w5 at HE HJ HT HSV ⊢
  have e0 := HE.out.1
  have e1 := HE.out.2
  refine bodyPost_ret (by simp [results, Tryz.results80, go_sem, e0, e1]; try rfl) rfl ?_
  exact ⟨ao, n, c, r, rfl, HT.out, HJ.out, HSV.out⟩

theorem Alls.tag {w : World} (h : Alls wB s j O vs vp bs ps w) {x : Nat} (hx : x ∈ bs ++ ps) : ∃ cs, w.heap[x]? = some (.cells cs 146 (0, 0)) := by
  rcases List.mem_append.1 hx with hx | hx
  · obtain ⟨i, hi⟩ := List.getElem?_of_mem hx
    exact h.outs.tag hi
  · obtain ⟨i, hi⟩ := List.getElem?_of_mem hx
    have hl := (List.getElem?_eq_some_iff.1 hi).1
    exact (h.ps.cells i x _ hi (List.getElem?_eq_getElem (show i < (partsD j).length from h.ps.len ▸ hl))).block
/-- A split's cell, with all that holds of parts' cells too. -/
theorem getS_all (G : Given wB s j) {w : World} (h : Alls wB s j O vs vp bs ps w) {k b : Nat} (hk : bs[k]? = some b) (hks : k < j.splits.length) :
    Calls Tryz.prog 82 #[pt b] w (Told wB.heap.size (splitL j.mp j.cb j.fuel (j.splits[k])) (fun x => x ∈ bs ++ ps) (Alls wB s j O vs vp bs ps) w) := by
  have hbm := List.mem_of_getElem? hk
  obtain ⟨cs, hcb⟩ := h.tag (List.mem_append_left ps hbm)
  refine (getS G h.outs hk hks).mono ?_
  rintro e w' ⟨ao, n, c, r, rfl, ht, hj, hs⟩
  refine ⟨ao, n, c, r, rfl, ht, ⟨hj, h.ps.sav (calm_one (bs := ps) (h.outs.old b (List.mem_append_left _ hbm)) hcb (fun hm => ?_)) hs (fun _ h => h)⟩, hs.mono fun _ _ h => by unfold Just at h; rw [h]; exact List.mem_append_left _ hbm⟩
  exact (List.nodup_append.1 h.outs.nd).2.2 b hbm b hm rfl
/-- A part's cell. -/
theorem getP (G : Given wB s j) {w : World} (h : Alls wB s j O vs vp bs ps w) {k b : Nat} {R : List KV × Int} (hk : ps[k]? = some b) (hR : (partsD j)[k]? = some R) :
    Calls Tryz.prog 82 #[pt b] w (Told wB.heap.size R (fun x => x ∈ bs ++ ps) (Alls wB s j O vs vp bs ps) w) := by
  have hbm := List.mem_of_getElem? hk
  have hnb : b ∉ bs := fun hm => (List.nodup_append.1 h.outs.nd).2.2 b hm b hbm rfl
  have hc := h.ps.cells k b R hk hR
  have hB := h.outs.below.size
  have hBb := h.outs.old b (List.mem_append_right _ hbm)
  obtain ⟨cs, hcb⟩ := h.tag (List.mem_append_right bs hbm)
  have hRp : R = partD j k := by
    have hl := (List.getElem?_eq_some_iff.1 hR).1
    unfold partsD at hR hl
    rw [List.length_map, List.length_range] at hl
    rw [List.getElem?_map, List.getElem?_range hl] at hR
    exact (Option.some.inj hR).symm
  have hlt : ∀ x, x ∈ bs → x < w.heap.size := fun x hx => by
    obtain ⟨cs, hc⟩ := h.tag (List.mem_append_left ps hx)
    exact lt_of_block hc
  have hcalm : ∀ ds, b ∉ ds → (∀ x ∈ ds, x ∈ ps) → Calm wB.heap.size ds w (Also (fun x => x ∈ bs) b) := by
    rintro ds hd hps x hx (hm | rfl)
    · obtain ⟨cs, hc⟩ := h.tag (List.mem_append_left ps hm)
      exact ⟨h.outs.old x (List.mem_append_left _ hm), cs, _, hc, .inr (.inr ⟨rfl, fun h2 => (List.nodup_append.1 h.outs.nd).2.2 x hm x (hps x h2) rfl⟩)⟩
    · exact ⟨hBb, cs, _, hcb, .inr (.inr ⟨rfl, hd⟩)⟩
  refine (ask_any wB.heap.size 80 O k b R (fun x => x ∈ bs) (Outs wB s j O vs vp bs ps) w hc hB hBb (enterF Tryz.func80 (by kernel_rfl) (by kernel_rfl)) hnb (fun x hx => h.tag (List.mem_append_left ps hx)) (fun y y' q cs hq hcs hs hj => hj.sav (calm_out hq hcs) hs) (fun x hx _ => ?_)).mono ?_
  · refine (makePart_any G (h.outs.sav (calm_one hBb hcb hnb) hx) k).mono ?_
    rintro e y ⟨ao, n, c, r, rfl, h1, h2, h3⟩
    rw [hRp]
    exact ⟨ao, n, c, r, rfl, h3, h1, h2⟩
  · rintro e w' ⟨ao, n, c, r, rfl, ht, hn, hs, y, hy, hl⟩
    refine ⟨ao, n, c, r, rfl, ht, ⟨?_, ?_⟩, hs.mono fun x _ hx => hx.elim (fun h => List.mem_append_left _ h) (fun h => by rw [h]; exact List.mem_append_right _ hbm)⟩
    · have hyo : Outs wB s j O vs vp bs ps y := by
        rcases hy with rfl | hy
        · exact h.outs
        · exact hy
      rcases hl with hl | ⟨q, c1, c2, hq, h1, h2, h3⟩
      · exact hyo.on hl
      · exact hyo.sav (calm_two hBb hq h1 hnb h2) h3
    · exact h.ps.turn hk hR (fun ds hd hps => hcalm ds hd hps) hs (List.nodup_append.1 h.outs.nd).2.1 hn
end Go.Proofs.YtfimoobgbodbmaaGreatDoor
/-! outputsOf: the object with all its cells, fresh. -/
namespace Go.Proofs.YtfimoobgbodbmaaGreatDoor
open Go.RowKit Go.Lib
set_option linter.unusedVariables false
set_option maxRecDepth 100000

theorem Given.on {w w' : World} {s : SlJ} {j : JobV} (G : Given w s j) (hb : Below w.heap.size w w') : Given w' s j := ⟨G.job.below hb, G.fit, G.may, G.tabs.on hb⟩
theorem sav_off {w w' : World} {O x : Nat} {cs ds : Array Value} {t : TypeId} (hs : Sav (Just O) w w') (ho : w.heap[O]? = some (.cells cs 130 (0, 0))) (h : w.heap[x]? = some (.cells ds t (0, 0))) (ht : t ≠ 130) : w'.heap[x]? = some (.cells ds t (0, 0)) := by
  refine hs.at h fun e => ?_
  unfold Just at e
  subst e
  rw [ho] at h
  cases h
  exact ht rfl
theorem FreshAt.off {fv : Value} {k b O : Nat} {w w' : World} {cs : Array Value} (h : FreshAt fv k b w) (hs : Sav (Just O) w w') (ho : w.heap[O]? = some (.cells cs 130 (0, 0))) : FreshAt fv k b w' := by
  obtain ⟨ib, fb, h1, h2, h3⟩ := h
  exact ⟨ib, fb, sav_off hs ho h1 (by decide), sav_off hs ho h2 (by decide), sav_off hs ho h3 (by decide)⟩
theorem owns_offO {w w' : World} {O : Nat} {cs : Array Value} {C e s n : Nat} {v : Value} {xs : List Value} (h : w.ownsRow C e s v n xs) (hs : Sav (Just O) w w') (ho : w.heap[O]? = some (.cells cs 130 (0, 0))) (he : e ≠ 130) : w'.ownsRow C e s v n xs := by
  refine ⟨h.1, ?_⟩
  rcases h.2 with h0 | ⟨g, cap, cur, hv, hb, hh, r⟩
  · exact .inl h0
  · exact .inr ⟨g, cap, cur, hv, hb, sav_off hs ho hh he, r⟩
abbrev jobV (s : SlJ) (j : JobV) : Value := .agg #[.slice s.so j.splits.length s.sc, .int .i64 j.parts, .slice s.mo j.mp.length s.mc, .slice s.co j.cb.length s.cc, .slice s.ro j.rd.length s.rc, .int .i64 j.chunk, .int .i64 j.window, .int .i64 j.fuel, .slice s.ko j.marks.length s.kc]
theorem partsD_len (j : JobV) : (partsD j).length = j.parts.toNat := by unfold partsD; rw [List.length_map, List.length_range]
theorem splitsD_len (j : JobV) : (splitsD j).length = j.splits.length := by unfold splitsD; rw [List.length_map]
/-- All is fresh. -/
theorem alls_new {w w3 w4 w5 w6 w7 : World} {s : SlJ} {j : JobV} {O : Nat} {u u2 : Value} {bs ps : List Nat} (h3 : Below w.heap.size w w3) (hO : w.heap.size ≤ O) (ho3 : w3.heap[O]? = some (ouObj s j (.slice none 0 0) (.slice none 0 0)))
    (hb : FreshRow (mth 79 O) w3 u bs w4) (h5 : w5 = w4.setCell ⟨O, 9, none⟩ u) (hp : FreshRow (mth 80 O) w5 u2 ps w6) (h7 : w7 = w6.setCell ⟨O, 10, none⟩ u2)
    (hbl : bs.length = j.splits.length) (hpl : ps.length = j.parts.toNat) : Alls w s j O u u2 bs ps w7 := by
  have ho4 := (hb.below.block _ (lt_of_block ho3)).trans ho3
  have ho5 : w5.heap[O]? = some (ouObj s j u (.slice none 0 0)) := by rw [h5]; exact heap_setCell_same w4 O 9 _ _ _ ho4
  have ho6 := (hp.below.block _ (lt_of_block ho5)).trans ho5
  have ho7 : w7.heap[O]? = some (ouObj s j u u2) := by rw [h7]; exact heap_setCell_same w6 O 10 _ _ _ ho6
  have s45 : Sav (Just O) w4 w5 := by rw [h5]; exact (Sav.refl _ _).setCell (just O) 9 _
  have s67 : Sav (Just O) w6 w7 := by rw [h7]; exact (Sav.refl _ _).setCell (just O) 10 _
  have z3 := h3.size
  have z4 := hb.below.size
  have z5 := s45.size
  have z6 := hp.below.size
  have z54 : w4.heap.size = w5.heap.size := by rw [h5]; simp [World.setCell]
  have b4 : Below w.heap.size w w4 := below_then h3 hb.below z3
  have b5 : Below w.heap.size w w5 := b4.trans (s45.below (fun k hk => by unfold Just at hk; omega) (by omega))
  have b6 : Below w.heap.size w w6 := below_then b5 hp.below (by omega)
  have b7 : Below w.heap.size w w7 := b6.trans (s67.below (fun k hk => by unfold Just at hk; omega) (by omega))
  refine ⟨⟨b7, ho7, ⟨by rw [splitsD_len]; exact hbl, ?_, fun k b R hk hR => ?_⟩, ?_, fun b hm => ?_⟩, ⟨by rw [partsD_len]; exact hpl, ?_, fun k b R hk hR => ?_⟩⟩
  · exact owns_offO (owns_below (owns_offO (owns_mono hb.row z3) s45 ho4 (by decide)) hp.below) s67 ho6 (by decide)
  · exact ((((hb.cells k b hk).off s45 ho4).below hp.below).off s67 ho6).cell _ _
  · rw [List.nodup_append]
    refine ⟨hb.nd, hp.nd, fun x hx y hy => ?_⟩
    have := (hb.old x hx).2
    have := (hp.old y hy).1
    omega
  · rcases List.mem_append.1 hm with hm | hm
    · have := (hb.old b hm).1
      omega
    · have := (hp.old b hm).1
      omega
  · exact owns_offO (owns_mono hp.row (by omega)) s67 ho6 (by decide)
  · exact ((hp.cells k b hk).off s67 ho6).cell _ _

set_option maxHeartbeats 4000000 in
theorem outputsOf_any {s : SlJ} {j : JobV} {w : World} (G : Given w s j) :
    Calls Tryz.prog 58 #[jobV s j] w fun e w' => ∃ O vs vp bs ps, e = .returned (.tuple #[pt O, .bool true]) ∧ Alls w s j O vs vp bs ps w' := by
  have M := mayIs G.may
  have b1 := alloc_oneC w (.cells #[.slice s.so j.splits.length s.sc, .int .i64 j.parts, .slice s.mo j.mp.length s.mc, .slice s.co j.cb.length s.cc, .slice s.ro j.rd.length s.rc, .int .i64 j.chunk, .int .i64 j.window, .int .i64 j.fuel, .slice s.ko j.marks.length s.kc] 26)
  have n1 := new_block w (.cells #[.slice s.so j.splits.length s.sc, .int .i64 j.parts, .slice s.mo j.mp.length s.mc, .slice s.co j.cb.length s.cc, .slice s.ro j.rd.length s.rc, .int .i64 j.chunk, .int .i64 j.window, .int .i64 j.fuel, .slice s.ko j.marks.length s.kc] 26)
  have HMay := hid (jobMay_any j s.so s.mo s.co s.ro s.ko s.sc s.mc s.cc s.rc s.kc _ (G.job.below b1))
  have HG := hid G
  have HM := hid M
  have HB1 := hid b1
  have HN1 := hid n1
  have hnot : ∀ (x : Bool) (w : World), (Op.unary .not (.bool x)).run Tryz.prog w = .ok (.bool (!x)) w := fun _ _ => rfl
  clear b1 n1 M G
  go_enter Tryz.func58, Tryz.ntmps58
  go_wp2_with fail
  refine HMay.out.mono ?_
  rintro e w2 ⟨rfl, hb2⟩
  have n2 := (hb2.block _ (lt_of_block HN1.out)).trans HN1.out
  have HB2 := hid (below_then HB1.out hb2 HB1.out.size)
  have hm : mayJ j = true := HG.out.may
  rw [hm]
  have c0 : w2.cell? ⟨w.heap.size, 0, none⟩ = some (.slice s.so j.splits.length s.sc) := cell_of_cells n2
  have c1 : w2.cell? ⟨w.heap.size, 1, none⟩ = some (.int .i64 j.parts) := cell_of_cells n2
  have c2 : w2.cell? ⟨w.heap.size, 2, none⟩ = some (.slice s.mo j.mp.length s.mc) := cell_of_cells n2
  have c3 : w2.cell? ⟨w.heap.size, 3, none⟩ = some (.slice s.co j.cb.length s.cc) := cell_of_cells n2
  have c4 : w2.cell? ⟨w.heap.size, 4, none⟩ = some (.slice s.ro j.rd.length s.rc) := cell_of_cells n2
  have c5 : w2.cell? ⟨w.heap.size, 5, none⟩ = some (.int .i64 j.chunk) := cell_of_cells n2
  have c6 : w2.cell? ⟨w.heap.size, 6, none⟩ = some (.int .i64 j.window) := cell_of_cells n2
  have c7 : w2.cell? ⟨w.heap.size, 7, none⟩ = some (.int .i64 j.fuel) := cell_of_cells n2
  have c8 : w2.cell? ⟨w.heap.size, 8, none⟩ = some (.slice s.ko j.marks.length s.kc) := cell_of_cells n2
  have HN2 := hid n2
  clear hb2 n2 hm HMay HN1 HB1
  have hpn : ((j.parts.toNat : Nat) : Int) = j.parts := Int.toNat_of_nonneg (by have := HM.out.p1; omega)
  have HC2 := hid (fun (O : Nat) (x : World) => hpn ▸ newCells_any 80 O j.parts.toNat (by have := HM.out.p4; omega) x)
  have b3 := below_then HB2.out (alloc_oneC w2 (ouObj s j (.slice none 0 0) (.slice none 0 0))) HB2.out.size
  have n3 := new_block w2 (ouObj s j (.slice none 0 0) (.slice none 0 0))
  have x0 := ((alloc_oneC w2 (ouObj s j (.slice none 0 0) (.slice none 0 0))).block _ (lt_of_block HN2.out)).trans HN2.out
  have d0 : (w2.alloc (ouObj s j (.slice none 0 0) (.slice none 0 0))).cell? ⟨w.heap.size, 0, none⟩ = some (.slice s.so j.splits.length s.sc) := cell_of_cells x0
  have HB3 := hid b3
  have HN3 := hid n3
  have HX3 := hid x0
  clear b3 n3 x0 HN2 hpn
  go_wp2_with fail
  refine (newCells_any 79 w2.heap.size j.splits.length (by have := HM.out.sp; omega) _).mono ?_
  rintro e w4 ⟨u, bs, rfl, hbl, hfr⟩
  have hOx := lt_of_block HX3.out
  have m4 := (hfr.below.block _ (lt_of_block HN3.out)).trans HN3.out
  have x4 := (hfr.below.block _ hOx).trans HX3.out
  obtain ⟨uo, uc, rfl⟩ := own_slice hfr.row
  have k9 : w4.cell? ⟨w2.heap.size, 9, none⟩ = some (.slice none 0 0) := cell_of_cells m4
  have z9 : w4.frozen? ⟨w2.heap.size, 9, none⟩ = false := free_of_cells m4
  have hne : w.heap.size ≠ w2.heap.size := by
    rintro e
    rw [← e] at m4
    rw [x4] at m4
    cases m4
  have HFR := hid hfr
  have HM4 := hid m4
  have HX4 := hid x4
  have HBL := hid hbl
  clear hfr m4 x4 hbl
  have e1 : (w4.setCell ⟨w2.heap.size, 9, none⟩ (.slice uo bs.length uc)).cell? ⟨w.heap.size, 1, none⟩ = some (.int .i64 j.parts) := by
    have h := (((Sav.refl (Just w2.heap.size) w4).setCell (just _) 9 (.slice uo bs.length uc)).at HX4.out hne)
    exact cell_of_cells h
  have e2 : w4.cell? ⟨w.heap.size, 1, none⟩ = some (.int .i64 j.parts) := cell_of_cells HX4.out
  have hne2 := hne.symm
  go_wp2_with fail
  refine (HC2.out w2.heap.size _).mono ?_
  rintro e w6 ⟨u2, ps, rfl, hpl, hpr⟩
  have n5 : (w4.setCell ⟨w2.heap.size, 9, none⟩ (.slice uo bs.length uc)).heap[w2.heap.size]? = some (ouObj s j (.slice uo bs.length uc) (.slice none 0 0)) := heap_setCell_same w4 _ 9 _ _ _ HM4.out
  have n6 := (hpr.below.block _ (lt_of_block n5)).trans n5
  obtain ⟨po, pc, rfl⟩ := own_slice hpr.row
  have k10 : w6.cell? ⟨w2.heap.size, 10, none⟩ = some (.slice none 0 0) := cell_of_cells n6
  have z10 : w6.frozen? ⟨w2.heap.size, 10, none⟩ = false := free_of_cells n6
  have HA := hid (alls_new HB3.out HB2.out.size HN3.out HFR.out rfl hpr rfl HBL.out hpl)
  clear hpr hpl n5 n6 HFR HM4 HX4 HBL HN3 HX3 HC2 HB3 e1 e2
  go_wp2
  go_ret2
  exact ⟨_, _, _, bs, ps, rfl, HA.out⟩
end Go.Proofs.YtfimoobgbodbmaaGreatDoor
/-! Split and Run of package model. -/
namespace Go.Proofs.YtfimoobgbodbmaaGreatDoor
open Go.RowKit Go.Lib
set_option linter.unusedVariables false
set_option maxRecDepth 100000

set_option maxHeartbeats 4000000 in
theorem modelSplit_any {s : SlJ} {j : JobV} {w : World} (G : Given w s j) {k : Nat} (hk : k < j.splits.length) :
    Calls Tryz.prog 31 #[jobV s j, .int .i64 k] w (ToldNew w (splitL j.mp j.cb j.fuel (j.splits[k]))) := by
  have b1 := alloc_oneC w (.cells #[.slice s.so j.splits.length s.sc, .int .i64 j.parts, .slice s.mo j.mp.length s.mc, .slice s.co j.cb.length s.cc, .slice s.ro j.rd.length s.rc, .int .i64 j.chunk, .int .i64 j.window, .int .i64 j.fuel, .slice s.ko j.marks.length s.kc] 26)
  have HG1 := hid (G.on b1)
  have HO := hid (outputsOf_any (G.on b1))
  have HB1 := hid b1
  have hnot : ∀ (x : Bool) (w : World), (Op.unary .not (.bool x)).run Tryz.prog w = .ok (.bool (!x)) w := fun _ _ => rfl
  clear G b1
  go_enter Tryz.func31, Tryz.ntmps31
  go_wp2_with fail
  refine HO.out.mono ?_
  rintro e w2 ⟨O, vs, vp, bs, ps, rfl, hA⟩
  have HA := hid hA
  clear hA HO
  go_wp2_with fail
  refine (split_any HG1.out HA.out.outs hk).mono ?_
  rintro e w3 ⟨ao, n, c, r, rfl, ⟨rfl, ho⟩, hj, hs⟩
  generalize hR : splitL j.mp j.cb j.fuel (j.splits[k]) = R at *
  have HR := hid hR
  obtain ⟨ao', c', e'⟩ := own_slice ho
  cases e'
  have HO3 := hid (ho.alloc (.cells #[.slice ao R.1.length c, .int .i64 R.2] 113))
  have HB3 := hid (below_then (below_then HB1.out hj.below HB1.out.size) (alloc_oneC w3 (.cells #[.slice ao R.1.length c, .int .i64 R.2] 113)) (by have := HB1.out.size; have := hj.below.size; omega))
  have HO4 := hid (show (w3.alloc (.cells #[.slice ao R.1.length c, .int .i64 R.2] 113)).drew.ownsRow w.heap.size 105 2 (.slice ao R.1.length c) R.1.length (fl encP R.1) from owns_mono HO3.out (by have := HB1.out.size; omega))
  have HB4 := hid (show Below w.heap.size w (w3.alloc (.cells #[.slice ao R.1.length c, .int .i64 R.2] 113)).drew from ⟨HB3.out.os, HB3.out.tape, HB3.out.output, HB3.out.size, HB3.out.block⟩)
  clear ho hj hs HA hR
  go_wp2_with fail
  go_region
  all_goals
    go_wp2
    go_ret2
    exact ⟨.slice ao R.1.length c, by rw [HR.out]; rfl, by rw [HR.out]; exact HO4.out, HB4.out⟩

set_option maxHeartbeats 4000000 in
theorem modelRun_any {s : SlJ} {j : JobV} {w : World} (G : Given w s j) {k : Nat} (hk : k < j.splits.length) (p : Int) :
    Calls Tryz.prog 32 #[jobV s j, .int .i64 k, .int .i64 p] w (ToldNew w (runOf (splitL j.mp j.cb j.fuel (j.splits[k])) j.parts p)) := by
  have b1 := alloc_oneC w (.cells #[.slice s.so j.splits.length s.sc, .int .i64 j.parts, .slice s.mo j.mp.length s.mc, .slice s.co j.cb.length s.cc, .slice s.ro j.rd.length s.rc, .int .i64 j.chunk, .int .i64 j.window, .int .i64 j.fuel, .slice s.ko j.marks.length s.kc] 26)
  have HG1 := hid (G.on b1)
  have HO := hid (outputsOf_any (G.on b1))
  have HB1 := hid b1
  have hnot : ∀ (x : Bool) (w : World), (Op.unary .not (.bool x)).run Tryz.prog w = .ok (.bool (!x)) w := fun _ _ => rfl
  clear G b1
  go_enter Tryz.func32, Tryz.ntmps32
  go_wp2_with fail
  refine HO.out.mono ?_
  rintro e w2 ⟨O, vs, vp, bs, ps, rfl, hA⟩
  have HA := hid hA
  clear hA HO
  go_wp2_with fail
  refine (run_any HG1.out HA.out.outs hk p).mono ?_
  rintro e w3 ⟨ao, n, c, r, rfl, ⟨rfl, ho⟩, hj, hs⟩
  generalize hR : runOf (splitL j.mp j.cb j.fuel (j.splits[k])) j.parts p = R at *
  have HR := hid hR
  obtain ⟨ao', c', e'⟩ := own_slice ho
  cases e'
  have HO3 := hid (ho.alloc (.cells #[.slice ao R.1.length c, .int .i64 R.2] 113))
  have HB3 := hid (below_then (below_then HB1.out hj.below HB1.out.size) (alloc_oneC w3 (.cells #[.slice ao R.1.length c, .int .i64 R.2] 113)) (by have := HB1.out.size; have := hj.below.size; omega))
  have HO4 := hid (show (w3.alloc (.cells #[.slice ao R.1.length c, .int .i64 R.2] 113)).drew.ownsRow w.heap.size 105 2 (.slice ao R.1.length c) R.1.length (fl encP R.1) from owns_mono HO3.out (by have := HB1.out.size; omega))
  have HB4 := hid (show Below w.heap.size w (w3.alloc (.cells #[.slice ao R.1.length c, .int .i64 R.2] 113)).drew from ⟨HB3.out.os, HB3.out.tape, HB3.out.output, HB3.out.size, HB3.out.block⟩)
  clear ho hj hs HA hR
  go_wp2_with fail
  go_region
  all_goals
    go_wp2
    go_ret2
    exact ⟨.slice ao R.1.length c, by rw [HR.out]; rfl, by rw [HR.out]; exact HO4.out, HB4.out⟩
end Go.Proofs.YtfimoobgbodbmaaGreatDoor
