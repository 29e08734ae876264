/- The walk of LazyOnce. -/
import Derived.Test.YtljkejekcidibaaLzyAwake
import Derived.Test.YtljkejekcidibaaLow
import Derived.Deep.RegionWith
namespace Go.Proofs.Ytljkejekcidibaa
open Go.RowKit
set_option linter.unusedVariables false

theorem once1_any (n p : Nat) (t : ByteArray) (x : World) (hn : x.heap[n]? = some (.cells #[.int .i64 0] 3 (0, 0))) (hp : x.heap[p]? = some (.cells #[.string t] 9 (0, 0))) (hne : p ≠ n) :
    Calls Try.prog 8 #[.pointer (some ⟨n, 0, none⟩), .pointer (some ⟨p, 0, none⟩)] x fun e y => e = .returned (.string t) ∧ Sav (Just n) x y ∧ y.heap[n]? = some (.cells #[.int .i64 1] 3 (0, 0)) := by
  have hc := cell_of_one hn
  have hz := free_of_one hn
  have hc2 := cell_of_one hp
  have hc3 : (x.setCell ⟨n, 0, none⟩ (.int .i64 1)).cell? ⟨n, 0, none⟩ = some (.int .i64 1) := World.cell?_setCell_same _ _ _ hc
  have hc4 : (x.setCell ⟨n, 0, none⟩ (.int .i64 1)).cell? ⟨p, 0, none⟩ = some (.string t) := (World.cell?_setCell_other _ _ _ _ (fun e => hne (by have := (Addr.mk.inj e).1; omega))).trans hc2
  have HN := hid (one_setCell (u := .int .i64 1) hn)
  clear hn hp
  go_enter Try.func8, Try.ntmps8
  go_wp2
  go_ret
  exact ⟨rfl, Sav.setCell (Sav.refl _ _) (just n) 0 _, HN.out⟩

/-- The text, the count and the cell: not yet asked, or asked. -/
structure On (p n q : Nat) (s : ByteArray) (W w : World) : Prop where
  hp : w.heap[p]? = some (.cells #[.string s] 9 (0, 0))
  st : (w.heap[n]? = some (.cells #[.int .i64 0] 3 (0, 0)) ∧ w.heap[q]? = some (clObj 0 0 0 (.func (.func 8) #[] #[.pointer (some ⟨n, 0, none⟩), .pointer (some ⟨p, 0, none⟩)]) ByteArray.empty)) ∨
       (w.heap[n]? = some (.cells #[.int .i64 1] 3 (0, 0)) ∧ w.heap[q]? = some (clObj 1 0 1 .nilFunc s))
  pn : p ≠ n
  nq : n ≠ q
  pq : p ≠ q
  Wn : W.heap.size ≤ n
  Wq : W.heap.size ≤ q
  sav : Sav Non W w
structure Ond (p n q : Nat) (s : ByteArray) (W w : World) : Prop where
  hp : w.heap[p]? = some (.cells #[.string s] 9 (0, 0))
  hn : w.heap[n]? = some (.cells #[.int .i64 1] 3 (0, 0))
  hq : w.heap[q]? = some (clObj 1 0 1 .nilFunc s)
  pn : p ≠ n
  nq : n ≠ q
  pq : p ≠ q
  Wn : W.heap.size ≤ n
  Wq : W.heap.size ≤ q
  sav : Sav Non W w
theorem Ond.on {p n q : Nat} {s : ByteArray} {W w : World} (h : Ond p n q s W w) : On p n q s W w := ⟨h.hp, Or.inr ⟨h.hn, h.hq⟩, h.pn, h.nq, h.pq, h.Wn, h.Wq, h.sav⟩
theorem On.drew {p n q : Nat} {s : ByteArray} {W w : World} (h : On p n q s W w) : On p n q s W w.drew := ⟨h.hp, h.st, h.pn, h.nq, h.pq, h.Wn, h.Wq, h.sav.drew⟩

theorem get_once {p n q : Nat} {s : ByteArray} {W : World} (w : World) (h : On p n q s W w) : Calls Try.prog 10 #[.pointer (some ⟨q, 0, none⟩)] w fun e w' => e = .returned (.string s) ∧ Ond p n q s W w' := by
  rcases h.st with ⟨hn, hq⟩ | ⟨hn, hq⟩
  · refine (get_first q _ s (Just n) (fun y => y.heap[n]? = some (.cells #[.int .i64 1] 3 (0, 0))) w hq h.nq.symm (fun x y hs hx => hs.at hx h.nq)
      (fun x hx => textOf_fn 8 _ s (Just n) (fun y => y.heap[n]? = some (.cells #[.int .i64 1] 3 (0, 0))) x (enter_fn Try.func8 (by kernel_rfl) (by kernel_rfl) _)
        (fun k hk => by cases hk; exact Nat.lt_of_lt_of_le (lt_of_block hn) hx.size) (fun y z hs hy => hs.at hy (by have := lt_of_block hn; have := hx.size; omega))
        (fun y hy => once1_any n p s y (hy.at (hx.at hn h.nq) (fun h => h)) (hy.at (hx.at h.hp h.pq) (fun h => h)) h.pn))).mono ?_
    rintro e w' ⟨rfl, hb, hs, hQ⟩
    exact ⟨rfl, hs.at h.hp (fun k => k.elim h.pn h.pq), hQ, hb, h.pn, h.nq, h.pq, h.Wn, h.Wq, h.sav.then hs (fun i hi k => by have := h.Wn; have := h.Wq; rcases k with k | k <;> (unfold Just at *; omega))⟩
  · refine (get_done q 0 1 .nilFunc s w hq).mono ?_
    rintro e w' ⟨rfl, rfl⟩
    exact ⟨rfl, h.hp, hn, hq, h.pn, h.nq, h.pq, h.Wn, h.Wq, h.sav⟩

set_option maxHeartbeats 1600000 in
set_option maxRecDepth 100000 in
theorem lazyOnce_walk (W : World) (s : ByteArray) (hs : s.size ≤ maxLen) (m : Int) (hm : (Lit.int .i64 m).wf = true) :
    Calls Try.prog 3 #[.string s, .int .i64 m] W fun e W' => e = .returned (.bool true) ∧ Below W.heap.size W W' := by
  unfold maxLen at hs
  have hnot : ∀ (x : Bool) (w : World), (Op.unary .not (.bool x)).run Try.prog w = .ok (.bool (!x)) w := fun _ _ => rfl
  have hmf : ∀ (fn : Fn) (first cap : Array Value) (w : World), (Instr.makeFunc fn first cap).run Try.prog w = .ok (.func fn first cap) w := fun _ _ _ _ => rfl
  by_cases hbig : 100 < s.size
  · have h1 : (100 : Int) < (s.size : Int) := by omega
    go_enter Try.func3, Try.ntmps3
    go_wp2_with fail
    have H0 := hid ((Below.refl W.heap.size W).alloc (Nat.le_refl _) (.cells #[.string s] 9))
    generalize W.alloc (.cells #[.string s] 9) = w0 at *
    refine (lawake_any w0).mono ?_
    rintro e w1 ⟨rfl, hw⟩
    have HW := hid (H0.out.trans (hw.mono H0.out.size))
    clear hw
    go_wp2
    go_ret
    exact ⟨rfl, HW.out⟩
  · have h1 : ¬ (100 : Int) < (s.size : Int) := by omega
    clear hbig hs
    go_enter Try.func3, Try.ntmps3
    go_wp2_with fail
    have hp0 : ((W.alloc (.cells #[.string s] 9)).alloc (.cells #[.int .i64 0] 3)).heap[W.heap.size]? = some (.cells #[.string s] 9 (0, 0)) := (Below.heap_alloc _ _ _ (by simp)).trans (new_block _ _)
    have hn0 : ((W.alloc (.cells #[.string s] 9)).alloc (.cells #[.int .i64 0] 3)).heap[W.heap.size + 1]? = some (.cells #[.int .i64 0] 3 (0, 0)) := by
      have h := new_block (W.alloc (.cells #[.string s] 9)) (.cells #[.int .i64 0] 3)
      rw [World.size_alloc] at h
      exact h
    have hs0 : Sav Non W ((W.alloc (.cells #[.string s] 9)).alloc (.cells #[.int .i64 0] 3)) := ((Sav.refl _ _).alloc _).alloc _
    have HP0 := hid hp0
    have HN0 := hid hn0
    have HS0 := hid hs0
    clear hp0 hn0 hs0
    generalize (W.alloc (.cells #[.string s] 9)).alloc (.cells #[.int .i64 0] 3) = w0 at *
    refine (lnew_fn _ _ _ w0).mono ?_
    rintro e w1 ⟨rfl, hw1⟩
    have hb1 : w1.heap[w0.heap.size]? = some (clObj 0 0 0 (.func (.func 8) #[] #[.pointer (some ⟨W.heap.size + 1, 0, none⟩), .pointer (some ⟨W.heap.size, 0, none⟩)]) ByteArray.empty) := by rw [hw1]; exact new_block _ _
    have hs1 : Sav Non w0 w1 := by rw [hw1]; exact (Sav.refl _ _).alloc _
    have hl1 := lt_of_block HP0.out
    have hl2 := lt_of_block HN0.out
    have ON : On W.heap.size (W.heap.size + 1) w0.heap.size s W w1 := ⟨hs1.at HP0.out (fun h => h), Or.inl ⟨hs1.at HN0.out (fun h => h), hb1⟩, by omega, by omega, by omega, by omega, by omega, HS0.out.trans hs1⟩
    have cn1 := cell_of_one (hs1.at HN0.out (fun h => h))
    have cq1 : w1.cell? ⟨w0.heap.size, 3, none⟩ = some (.int .u32 0) := cell_of_cells hb1
    clear hw1 hs1 hl1 hl2 hb1 HP0 HN0 HS0
    generalize w0.heap.size = q at *
    generalize W.heap.size + 1 = n at *
    generalize hP : W.heap.size = p at *
    have HP := hid hP
    clear hP
    have CQ := hid cq1
    clear cq1
    go_wp2_with fail
    refine (made_any _ 0 w1 CQ.out).mono ?_
    rintro e w2 ⟨rfl, rfl⟩
    have h00 : ((0 : Int) != 0) = false := rfl
    rw [h00]
    clear cn1 CQ
    have hlow := low_bd m 20 (by decide)
    obtain ⟨k20, hk20⟩ := Int.eq_ofNat_of_zero_le hlow.1
    have HK := hid hk20
    have HE := hid (low_eq m 20 (by decide) (by decide))
    have hlt20 : k20 < 20 := by omega
    clear hlow hk20 h00
    go_wp2_with fail
    go_loopw [7] (fun iv wr => ∃ k : Nat, k ≤ k20 + 1 ∧ iv = .int .i64 k ∧ On p n q s W wr) (fun i _ => k20 + 1 - (intOf i).toNat)
    case atStart => exact ⟨0, by omega, rfl, ON⟩
    case round =>
      obtain ⟨k, hk, rfl, hon⟩ := hrel
      clear ON
      go_wp2_with fail
      · have hle : (k : Int) ≤ wrap64 ((IntKind.u64.wrap m).tmod 20) := by assumption
        have hkk : k < k20 + 1 := by
          have e1 := HE.out
          have e2 := HK.out
          rw [e1, e2] at hle
          omega
        clear hle
        have cp := cell_of_one hon.hp
        go_region_with (first | (go_at_call 10; refine (get_once (p := p) (n := n) (s := s) (W := W) _ ?_).mono ?_; (exact hon.drew); rintro e w3 ⟨rfl, hod⟩; have c3 := cell_of_one hod.hp; have n3 := cell_of_one hod.hn) | (go_at_call 9; refine (made_any _ 1 _ ?_).mono ?_; (exact cell_of_cells hod.hq); rintro e w4 ⟨rfl, rfl⟩))
        all_goals
          go_wp2
          go_roundw
        case rel => exact ⟨k + 1, by omega, by go_num, hod.on⟩
        case measure => simp [intOf]; omega
        case rel => exact ⟨k + 1, by omega, by go_num, hod.on⟩
        case measure => simp [intOf]; omega
      · refine (lawake_any wr).mono ?_
        rintro e w5 ⟨rfl, hw⟩
        have HW := hid ((hon.sav.below (fun _ h => h.elim) (Nat.le_refl _)).trans (hw.mono hon.sav.size))
        clear hw
        go_wp2
        go_ret
        exact ⟨rfl, HW.out⟩
end Go.Proofs.Ytljkejekcidibaa
