/- package stage: Take, Drop. -/
import Derived.Test.YtejkboahjfcdcaaSgIs
import Derived.Test.YtejkboahjfcdcaaLJoin
import Derived.Deep.LoopGhost
namespace Go.Proofs.Ytejkboahjfcdcaa
open Go.RowKit
set_option linter.unusedVariables false

set_option maxHeartbeats 1000000 in
theorem take_no (B b : Nat) (mv : Value) (X : List ((Int × Int) × Pay)) (k : Int × Int) (hk : W64 k) (count : Int) (w : World) (h : Sg B b mv X w) (hc : count ≠ ((getS (chS X) k).length : Nat)) :
    Calls Try.prog 16 #[.pointer (some ⟨b, 0, none⟩), .int .i64 k.1, .int .i64 k.2, .int .i64 count] w fun e w' => e = .returned (.tuple #[.slice none 0 0, .bool false]) ∧ w = w' := by
  have H := hid h
  clear h
  obtain ⟨n, hn⟩ : ∃ n, (getS (chS X) k).length = n := ⟨_, rfl⟩
  rw [hn] at hc
  have HN := hid hn
  clear hn
  go_enter Try.func16, Try.ntmps16
  go_wp2_with fail
  refine (next_any B b mv X k hk w H.out).mono ?_
  rintro e w1 ⟨rfl, rfl⟩
  rw [HN.out]
  go_wp2
  go_ret2
  exact ⟨rfl, rfl⟩

set_option maxHeartbeats 1000000 in
theorem take_yes (B b : Nat) (mv : Value) (X : List ((Int × Int) × Pay)) (k : Int × Int) (hk : W64 k) (n : Nat) (w : World) (h : Sg B b mv X w) (hn : (getS (chS X) k).length = n) (hf : (getS (chS X) k).flatten.length ≤ 1000) :
    Calls Try.prog 16 #[.pointer (some ⟨b, 0, none⟩), .int .i64 k.1, .int .i64 k.2, .int .i64 n] w fun e w' => ∃ u, e = .returned (.tuple #[u, .bool true]) ∧ w'.ownsRow w.heap.size 53 2 u (getS (chS X) k).flatten.length (fl encP (getS (chS X) k).flatten) ∧ Below w.heap.size w w' := by
  have H := hid h
  have HN := hid hn
  have c0 := h.c0
  have hl := h.look hk
  have HL := hid (h.lis k)
  unfold kv at hl
  clear h hn
  have HN0 := HN
  generalize (payS X k).u = u at hl HL
  generalize getS (chS X) k = cs at HL hf HN ⊢
  go_enter Try.func16, Try.ntmps16
  go_wp2_with fail
  refine (next_any B b mv X k hk w H.out).mono ?_
  rintro e w1 ⟨rfl, rfl⟩
  rw [HN0.out]
  clear H
  go_wp2_with fail
  refine (join_any u cs w HL.out hf).mono ?_
  rintro e w1 ⟨v, rfl, ho, hb⟩
  have HO := hid ho
  have HB := hid hb
  clear ho hb
  go_wp2
  go_ret2
  exact ⟨v, rfl, HO.out, HB.out⟩

theorem drop_fn (x : KeyT) (v : Value) (c : Nat) (s : Int) (w : World) (hc : w.cell? ⟨c, 0, none⟩ = some (.int .i64 s)) (hlt : c < w.heap.size) :
    Calls Try.prog 30 #[kv x, v, .pointer (some ⟨c, 0, none⟩)] w fun e w' => e = .returned (.bool (decide (x.1 = s))) ∧ Below w.heap.size w w' := by
  have hne : c ≠ w.heap.size := by omega
  have hc2 : (w.alloc (.cells #[.int .i64 x.1, .int .i64 x.2] 59)).cell? ⟨c, 0, none⟩ = some (.int .i64 s) := ((alloc_one w _).cell (p := ⟨c, 0, none⟩) hlt).trans hc
  unfold kv
  go_enter Try.func30, Try.ntmps30
  go_wp2
  go_ret
  exact ⟨rfl, alloc_one _ _⟩

theorem strike_again (todo : KeyT → Bool) (x : KeyT) : (fun y => (todo y && !decide (y = x)) && !decide (y = x)) = (fun y => todo y && !decide (y = x)) := by
  funext y
  cases todo y <;> cases decide (y = x) <;> rfl
set_option maxHeartbeats 4000000 in
theorem deleteFunc_any (m : Nat) (l : List (KeyT × Value)) (c : Nat) (s : Int) (w : World) (h : MapIs Try.prog 59 m l w) (hc : w.cell? ⟨c, 0, none⟩ = some (.int .i64 s)) (hlt : c < w.heap.size) (hne : c ≠ m) :
    Calls Try.prog 29 #[.map (some m), .func (.func 30) #[] #[.pointer (some ⟨c, 0, none⟩)]] w fun e w' => e = .returned (.tuple #[]) ∧ MapIs Try.prog 59 m (l.filter (fun p => !decide (p.1.1 = s))) w' ∧ w.grownBy w' (some m) := by
  have hst : keepS l s (fun x => (lookS l x).isSome) = l := (keep_start s (fun p hp => by rw [lookS_at h.apart hp]; rfl)).1
  have hwf := hid h.wf
  have H := hid h
  clear h
  go_enter Try.func29, Try.ntmps29
  go_wp2_with (first
    | (at_range; refine wpList_range_map _ rfl _ 54 rfl 59 49 keyTwo Try.underlying54 m l rfl H.out ?_; intro w0 hrg0 hg0 hs0)
    | go_in)
  go_frame
  go_loopw [8] (fun _ wr => ∃ (todo : KeyT → Bool) (cnt : Nat), RangeIs Try.prog 59 m w.heap.size (keepS l s todo) todo cnt wr ∧ w.grownBy wr (some m))
    (fun _ wr => wr.rangeLeft m w.heap.size)
  case atStart => exact ⟨_, _, by rw [hst]; exact hrg0, hg0.but _⟩
  case round =>
    obtain ⟨todo, cnt, hrg, hgw⟩ := hrel
    go_wp2_with (first
      | (at_next; refine wpList_next_map _ rfl _ rfl 59 keyTwo m w.heap.size (keepS l s todo) todo cnt rfl hrg ?_ ?_)
      | go_in)
    · -- nothing is left
      intro hall
      go_wp2
      go_end0
      exact ⟨rfl, by rw [← (keep_end s (fun p hp => hall p.1.1 p.1.2 (hwf.out p hp))).1]; exact hrg.map, hgw⟩
    · -- an entry has come
      intro x1 x2 v w1 cnt1 hx htx hlk hrg1 hcnt hg1 hs1 hen
      have hgw1 := hgw.andThen hg1 (fun j hj => by cases hj; exact Or.inl (Nat.le_refl _))
      have hm1 := hrg1.map.lt
      have hc1 : w1.cell? ⟨c, 0, none⟩ = some (.int .i64 s) := ((Sav.grown (S := Just m) hgw1 (fun j hj => by cases hj; rfl)).cell (a := ⟨c, 0, none⟩) hlt hne).trans hc
      have hlt1 : c < w1.heap.size := Nat.lt_of_lt_of_le hlt hgw1.size
      have hr1 := hrg1.lt
      have hbA := alloc_one w1 (.cells #[.int .i64 x1, .int .i64 x2] 59)
      have hcA : (w1.alloc (.cells #[.int .i64 x1, .int .i64 x2] 59)).cell? ⟨c, 0, none⟩ = some (.int .i64 s) := (hbA.cell (p := ⟨c, 0, none⟩) hlt1).trans hc1
      have hltA : c < (w1.alloc (.cells #[.int .i64 x1, .int .i64 x2] 59)).heap.size := Nat.lt_of_lt_of_le hlt1 hbA.size
      have hnA := new_block w1 (.cells #[.int .i64 x1, .int .i64 x2] 59)
      have HX := hid hx
      have HT := hid htx
      have HK := hid hlk
      have hle := hrg.left_eq
      clear hx htx hlk hg1 hrg hgw hc hc1 hs1
      go_wp2_with fail
      refine (drop_fn (x1, x2) v c s _ hcA hltA).mono ?_
      rintro e w2 ⟨rfl, hb2⟩
      have hbw := below_then hbA hb2 hbA.size
      have hg2 : w1.grownBy w2 none := ⟨hbw.os, hbw.tape, hbw.output, hbw.size, fun i hi _ => hbw.block i hi⟩
      have hrg2 := hrg1.kept hg2 (by simp) (by simp)
      have hn2 := (hb2.block _ (lt_of_block hnA)).trans hnA
      have q0 : w2.cell? ⟨w1.heap.size, 0, none⟩ = some (.int .i64 x1) := cell_of_cells hn2
      have q1 : w2.cell? ⟨w1.heap.size, 1, none⟩ = some (.int .i64 x2) := cell_of_cells hn2
      have hgw2 := hgw1.andThen hg2 (fun j hj => by cases hj)
      clear hrg1 hgw1 hg2 hbw hb2 hcA hltA hnA hbA hn2
      by_cases hs : x1 = s
      · have HS := hid hs
        have hd : decide (x1 = s) = true := by simpa using hs
        rw [show decide ((x1, x2).1 = s) = true from hd]
        clear hs hd
        go_wp2_with (first
          | (at_delete; refine wpList_delete_range _ rfl _ _ 54 59 rfl 49 keyTwo Try.underlying54 m w.heap.size (keepS l s todo) _ cnt1 rfl hrg2 (x1, x2) rfl HX.out ?_; intro w3 cnt3 hrg3 hle3 hg3; go_frame)
          | go_in)
        rw [strike_again, keep_struck l todo (x := (x1, x2)) HS.out] at hrg3
        go_roundw
        case rel => exact ⟨_, cnt3, hrg3, hgw2.andThen hg3 (fun j hj => by cases hj; exact Or.inr rfl)⟩
        case measure => rw [hrg3.left_eq, hle]; omega
      · have hd : decide (x1 = s) = false := by simpa using hs
        rw [show decide ((x1, x2).1 = s) = false from hd]
        go_wp2
        go_roundw
        case rel => exact ⟨_, cnt1, by rw [(keep_other l todo (x := (x1, x2)) hs).1]; exact hrg2, hgw2⟩
        case measure => rw [hrg2.left_eq, hle]; exact hcnt
set_option maxHeartbeats 1000000 in
theorem deleteFunc_nil (fv : Value) (w : World) :
    Calls Try.prog 29 #[.map none, fv] w fun e w' => e = .returned (.tuple #[]) ∧ w' = w.alloc (.mapIter none 0 #[] 0) := by
  have hrg := run_range_nilMap (P := Try.prog) w 54 _ _ Try.underlying54
  have hnx : ∀ ty, (Instr.next (.pointer (some ⟨w.heap.size, 0, none⟩)) false ty).run Try.prog (w.alloc (.mapIter none 0 #[] 0)) = _ := fun ty => run_next_nilMap _ ty 0 0 #[]
  go_enter Try.func29, Try.ntmps29
  go_wp2
  refine wp_loop_rounds 1 ?_
  rw [rounds_succ]
  go_wp2
  go_end0
  exact ⟨rfl, rfl⟩

/-- What Drop leaves. -/
theorem Sg.dropped {B b m : Nat} {X : List ((Int × Int) × Pay)} {w w' : World} (h : Sg B b (.map (some m)) X w) (s : Int) (hM : MapIs Try.prog 59 m ((slS X).filter (fun p => !decide (p.1.1 = s))) w') (hg : w.grownBy w' (some m)) :
    ∃ X', Sg B b (.map (some m)) X' w' ∧ chS X' = dropS (chS X) s ∧ Sav (InG b (.map (some m)) X) w w' ∧ NextG w b (.map (some m)) X (.map (some m)) X' := by
  have hs : Sav (Just m) w w' := Sav.grown hg (fun j hj => by cases hj; rfl)
  obtain ⟨hB, es0, c0, hm0⟩ : B ≤ m ∧ ∃ es0 c0, w.heap[m]? = some (.map es0 c0) := by
    rcases h.map with ⟨e, _⟩ | ⟨m', e, h1, h2⟩
    · cases e
    · cases e
      obtain ⟨D, ⟨es0, c0, hb, _⟩, _⟩ := h2.ex
      exact ⟨h1, es0, c0, hb⟩
  have hX : ¬ InX X m := h.pays.off hm0 (fun cs t r e => by cases e)
  have hbm : b ≠ m := by
    intro e
    have := h.obj
    rw [e, hm0] at this
    cases this
  refine ⟨X.filter (fun r => !decide (r.1.1 = s)), ⟨hs.at h.obj hbm, .inr ⟨m, rfl, hB, ?_⟩, (h.pays.sav hs (fun g hg e => hX (by rw [← show g = m from e]; exact hg))).filter _, ?_, h.far, Nat.le_trans h.low hs.size⟩, chS_keys X (fun k => !decide (k.1 = s)), hs.mono (fun g _ e => .inr (.inl (by rw [show g = m from e]))), fun g hg => ?_⟩
  · rw [slS_keys X (fun k => !decide (k.1 = s))]
    exact hM
  · rw [chS_keys X (fun k => !decide (k.1 = s))]
    exact h.ok.drop s
  · rcases hg with e | e | e
    · exact .inl (.inl e)
    · exact .inl (.inr (.inl e))
    · exact .inl (.inr (.inr (inX_filter e)))

set_option maxHeartbeats 1000000 in
theorem drop_any (B b : Nat) (mv : Value) (X : List ((Int × Int) × Pay)) (s : Int) (w : World) (h : Sg B b mv X w) :
    Calls Try.prog 19 #[.pointer (some ⟨b, 0, none⟩), .int .i64 s] w fun e w' => e = .returned (.int .i64 (dropN (chS X) s : Nat)) ∧ ∃ X', Sg B b mv X' w' ∧ chS X' = dropS (chS X) s ∧ Sav (InG b mv X) w w' ∧ NextG w b mv X mv X' := by
  have hbA := alloc_one w (.cells #[.int .i64 s] 3)
  have H := hid (h.below hbA)
  have hnA := new_block w (.cells #[.int .i64 s] 3)
  have c0 := H.out.c0
  have hlt := lt_of_block h.obj
  have hN := drop_length (chS X) s
  have hsz := okS_few h.ok
  obtain ⟨d, hd⟩ : ∃ d, dropN (chS X) s = d := ⟨_, rfl⟩
  rw [hd] at hN ⊢
  have HD := hid hd
  clear hd
  rcases h.map with ⟨rfl, rfl⟩ | ⟨m, rfl, -⟩
  · have hd0 : d = 0 := by rw [← HD.out]; rfl
    subst hd0
    have hz : w.heap.size ≠ b := by omega
    go_enter Try.func19, Try.ntmps19
    go_wp2_with fail
    refine (deleteFunc_nil _ _).mono ?_
    rintro e w1 ⟨rfl, rfl⟩
    have hbB := below_then hbA (alloc_one _ (.mapIter none 0 #[] 0)) hbA.size
    have H2 := hid (h.below hbB)
    have c1 := H2.out.c0
    go_wp2
    go_ret
    exact ⟨rfl, [], H2.out, rfl, Sav.of_below hbB, NextG.refl _ _ _ _⟩
  · have hz : w.heap.size ≠ b := by omega
    obtain ⟨hmA, hzm⟩ : MapIs Try.prog 59 m (slS X) (w.alloc (.cells #[.int .i64 s] 3)) ∧ w.heap.size ≠ m := by
      rcases H.out.map with ⟨e, _⟩ | ⟨m', e, _, h2⟩
      · cases e
      · cases e
        refine ⟨h2, fun e => ?_⟩
        obtain ⟨D, ⟨es0, c0, hb, _⟩, _⟩ := h2.ex
        rw [← e, hnA] at hb
        cases hb
    have hcA : (w.alloc (.cells #[.int .i64 s] 3)).cell? ⟨w.heap.size, 0, none⟩ = some (.int .i64 s) := cell_of_cells hnA
    have HM := hid hmA
    obtain ⟨n, hn⟩ : ∃ n, (slS X).length = n := ⟨_, rfl⟩
    have HNN := hid hn
    have hn18 : n ≤ 18 := by rw [← hn, slS_len, ← chS_len]; exact hsz
    have hnd : (dropS (chS X) s).length + d = n := by rw [hN, chS_len, ← slS_len]; exact hn
    clear hn hN hsz hmA
    go_enter Try.func19, Try.ntmps19
    go_wp2_with (at_len; refine wpList_len_map _ rfl _ _ rfl 59 49 Try.underlying54 m (slS X) rfl HM.out ?_; rw [HNN.out])
    refine (deleteFunc_any m (slS X) w.heap.size s _ HM.out hcA (by simp) hzm).mono ?_
    rintro e w2 ⟨rfl, hM2, hg2⟩
    have HM2 := hid hM2
    obtain ⟨X', f1, f2, f3, f4⟩ := Sg.dropped H.out s hM2 hg2
    have HF := hid f1
    have HF2 := hid f2
    have HF3 := hid (Sav.of_below (S := InG b (.map (some m)) X) hbA |>.trans f3)
    have HF4 := hid f4
    have c2 := f1.c0
    have hl2 : ((slS X).filter (fun p => !decide (p.1.1 = s))).length = (dropS (chS X) s).length := by
      rw [← f2, chS_len, ← slS_len]
      rcases f1.map with ⟨e, _⟩ | ⟨m', e, _, h2⟩
      · cases e
      · cases e
        have := slS_keys X (fun k => !decide (k.1 = s))
        have h3 := chS_keys X (fun k => !decide (k.1 = s))
        have h4 : (dropS (chS X) s).length = (slS X').length := by rw [← f2, chS_len, slS_len]
        rw [← h4]
        show _ = ((chS X).filter (fun r => !decide (r.1.1 = s))).length
        rw [← h3, chS_len, ← this, slS_len]
    obtain ⟨q, hq⟩ : ∃ q, (dropS (chS X) s).length = q := ⟨_, rfl⟩
    have HL := hid (hl2.trans hq)
    rw [hq] at hnd
    clear hM2 hg2 f1 f2 f3 f4 hl2 hq c0 hcA hnA
    go_wp2_with (at_len; refine wpList_len_map _ rfl _ _ rfl 59 49 Try.underlying54 m _ rfl HM2.out ?_; rw [HL.out])
    go_ret
    refine ⟨?_, X', HF.out, HF2.out, HF3.out, fun g hg => ?_⟩
    · subst hnd
      simp
      omega
    · rcases HF4.out g hg with e | e
      · exact .inl e
      · exact .inr (Nat.le_trans hbA.size e)
end Go.Proofs.Ytejkboahjfcdcaa
