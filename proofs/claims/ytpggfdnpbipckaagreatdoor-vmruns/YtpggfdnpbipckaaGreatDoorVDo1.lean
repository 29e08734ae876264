/- do of the program's machine: the turns. -/
import Derived.Test.YtpggfdnpbipckaaGreatDoorVStep
namespace Go.Proofs.YtpggfdnpbipckaaGreatDoor
open Go.RowKit Go.Lib
set_option linter.unusedVariables false
set_option maxRecDepth 100000

variable {E : Fx} {m : St} {i : Int} {d : Nat} {w : World} {vals : List ByteArray}

theorem kinds1_at (a : Int) {w : World} {k : Nat} (hk : w.heap.size = k) : Reads 1 encK (w.alloc (.cells #[.int .i64 a] 94)) (.slice (some ⟨k, 0, none⟩) 1 1) [a] := by
  subst hk
  exact kinds1 a w
theorem kinds2_at (a b : Int) {w : World} {k : Nat} (hk : w.heap.size = k) : Reads 1 encK (w.alloc (.cells #[.int .i64 a, .int .i64 b] 94)) (.slice (some ⟨k, 0, none⟩) 2 2) [a, b] := by
  subst hk
  exact kinds2 a b w
theorem kinds3_at (a b c : Int) {w : World} {k : Nat} (hk : w.heap.size = k) : Reads 1 encK (w.alloc (.cells #[.int .i64 a, .int .i64 b, .int .i64 c] 94)) (.slice (some ⟨k, 0, none⟩) 3 3) [a, b, c] := by
  subst hk
  exact kinds3 a b c w
theorem made1_at (y : Val) {w : World} {k : Nat} (hk : w.heap.size = k) : Vls (w.alloc (.cells #[.bool (tri y).1, .int .i64 (tri y).2.1, .string (tri y).2.2] 57)) (.slice (some ⟨k, 0, none⟩) 1 1) [y] := by
  subst hk
  exact made1 y w
theorem nn_shape (hk : ¬ m.stack.length < [(1 : Int), 1].length) (hf : allFit [1, 1] (tops m [(1 : Int), 1].length) = true) : ∃ a b s, m.stack = .num b :: .num a :: s := by
  obtain ⟨a, b, s, h⟩ := have2 hk
  rw [show tops m [(1 : Int), 1].length = [a, b] from tops2 h, fit2] at hf
  cases a with
  | text _ => simp [fitsT, tri] at hf
  | num a =>
    cases b with
    | text _ => simp [fitsT, tri] at hf
    | num b => exact ⟨a, b, s, h⟩
theorem tt_shape (hk : ¬ m.stack.length < [(2 : Int), 2].length) (hf : allFit [2, 2] (tops m [(2 : Int), 2].length) = true) : ∃ a b s, m.stack = .text b :: .text a :: s := by
  obtain ⟨a, b, s, h⟩ := have2 hk
  rw [show tops m [(2 : Int), 2].length = [a, b] from tops2 h, fit2] at hf
  cases a with
  | num _ => simp [fitsT, tri] at hf
  | text a =>
    cases b with
    | num _ => simp [fitsT, tri] at hf
    | text b => exact ⟨a, b, s, h⟩
theorem tn_shape (hk : ¬ m.stack.length < [(2 : Int), 1].length) (hf : allFit [2, 1] (tops m [(2 : Int), 1].length) = true) : ∃ a b s, m.stack = .num b :: .text a :: s := by
  obtain ⟨a, b, s, h⟩ := have2 hk
  rw [show tops m [(2 : Int), 1].length = [a, b] from tops2 h, fit2] at hf
  cases a with
  | num _ => simp [fitsT, tri] at hf
  | text a =>
    cases b with
    | text _ => simp [fitsT, tri] at hf
    | num b => exact ⟨a, b, s, h⟩
theorem t_shape (hk : ¬ m.stack.length < [(2 : Int)].length) (hf : allFit [2] (tops m [(2 : Int)].length) = true) : ∃ a s, m.stack = .text a :: s := by
  obtain ⟨a, s, h⟩ := have1 hk
  rw [show tops m [(2 : Int)].length = [a] from tops1 h, fit1] at hf
  cases a with
  | num _ => simp [fitsT, tri] at hf
  | text a => exact ⟨a, s, h⟩
theorem n_shape (hk : ¬ m.stack.length < [(1 : Int)].length) (hf : allFit [1] (tops m [(1 : Int)].length) = true) : ∃ a s, m.stack = .num a :: s := by
  obtain ⟨a, s, h⟩ := have1 hk
  rw [show tops m [(1 : Int)].length = [a] from tops1 h, fit1] at hf
  cases a with
  | text _ => simp [fitsT, tri] at hf
  | num a => exact ⟨a, s, h⟩
theorem tnn_shape (hk : ¬ m.stack.length < [(2 : Int), 1, 1].length) (hf : allFit [2, 1, 1] (tops m [(2 : Int), 1, 1].length) = true) : ∃ a b c s, m.stack = .num c :: .num b :: .text a :: s := by
  obtain ⟨a, b, c, s, h⟩ := have3 hk
  rw [show tops m [(2 : Int), 1, 1].length = [a, b, c] from tops3 h, fit3] at hf
  cases a with
  | num _ => simp [fitsT, tri] at hf
  | text a =>
    cases b with
    | text _ => simp [fitsT, tri] at hf
    | num b =>
      cases c with
      | text _ => simp [fitsT, tri] at hf
      | num c => exact ⟨a, b, c, s, h⟩

set_option maxHeartbeats 2000000 in
theorem do_add (h : VMac E m i d w) (ok : Ok vals m) (T : Tabs E.w0) (A : Int) (S : ByteArray) :
    Calls Tryz.prog 35 #[.pointer (some ⟨E.b, 0, none⟩), .agg #[.int .i64 8, .int .i64 A, .string S]] w (Did E i d (nn m fun a b => .num (wrap64 (a + b)))) := by
  rw [nn_needs]
  have hf : ∀ x, Tabs x → ¬ m.stack.length < [(1 : Int), 1].length → allFit [1, 1] (tops m [(1 : Int), 1].length) = true → Calls Tryz.prog 48 #[opV (sel (tops m [(1 : Int), 1].length) [(1 : Int), 1].length 0) (sel (tops m [(1 : Int), 1].length) [(1 : Int), 1].length 1) (sel (tops m [(1 : Int), 1].length) [(1 : Int), 1].length 2)] x fun e y => e = .returned (triV ((fun av => .num (wrap64 (nOf (at0 av) + nOf (at1 av)))) (tops m [(1 : Int), 1].length))) ∧ Below x.heap.size x y := by
    intro x hx hk hfit
    obtain ⟨a, b, s, hst⟩ := nn_shape hk hfit
    rw [show tops m [(1 : Int), 1].length = [.num a, .num b] from tops2 hst]
    exact sum_calls false false false a b 0 ⟨#[]⟩ ⟨#[]⟩ ⟨#[]⟩ x
  have H := hid (turn_any ((h.on (alloc1 w (Obj.cells #[.int .i64 8, .int .i64 A, .string S] 43))).on (alloc1 _ _)) (kinds2_at 1 1 (show (w.alloc (Obj.cells #[.int .i64 8, .int .i64 A, .string S] 43)).heap.size = w.heap.size + 1 by simp)) (by simp) (by simp) ok.high 48 (fun av => .num (wrap64 (nOf (at0 av) + nOf (at1 av)))) T (fun _ _ => rfl) hf)
  clear hf h T
  go_enter Tryz.func35, Tryz.ntmps35
  go_wp2_with fail
  refine H.out.mono ?_
  clear H
  rintro e w3 hd
  obtain ⟨r, rfl⟩ := hd.shape
  have HD := hid hd
  clear hd
  go_wp2
  go_ret
  exact HD.out

set_option maxHeartbeats 2000000 in
theorem do_sub (h : VMac E m i d w) (ok : Ok vals m) (T : Tabs E.w0) (A : Int) (S : ByteArray) :
    Calls Tryz.prog 35 #[.pointer (some ⟨E.b, 0, none⟩), .agg #[.int .i64 9, .int .i64 A, .string S]] w (Did E i d (nn m fun a b => .num (wrap64 (a - b)))) := by
  rw [nn_needs]
  have hf : ∀ x, Tabs x → ¬ m.stack.length < [(1 : Int), 1].length → allFit [1, 1] (tops m [(1 : Int), 1].length) = true → Calls Tryz.prog 49 #[opV (sel (tops m [(1 : Int), 1].length) [(1 : Int), 1].length 0) (sel (tops m [(1 : Int), 1].length) [(1 : Int), 1].length 1) (sel (tops m [(1 : Int), 1].length) [(1 : Int), 1].length 2)] x fun e y => e = .returned (triV ((fun av => .num (wrap64 (nOf (at0 av) - nOf (at1 av)))) (tops m [(1 : Int), 1].length))) ∧ Below x.heap.size x y := by
    intro x hx hk hfit
    obtain ⟨a, b, s, hst⟩ := nn_shape hk hfit
    rw [show tops m [(1 : Int), 1].length = [.num a, .num b] from tops2 hst]
    exact dif_calls false false false a b 0 ⟨#[]⟩ ⟨#[]⟩ ⟨#[]⟩ x
  have H := hid (turn_any ((h.on (alloc1 w (Obj.cells #[.int .i64 9, .int .i64 A, .string S] 43))).on (alloc1 _ _)) (kinds2_at 1 1 (show (w.alloc (Obj.cells #[.int .i64 9, .int .i64 A, .string S] 43)).heap.size = w.heap.size + 1 by simp)) (by simp) (by simp) ok.high 49 (fun av => .num (wrap64 (nOf (at0 av) - nOf (at1 av)))) T (fun _ _ => rfl) hf)
  clear hf h T
  go_enter Tryz.func35, Tryz.ntmps35
  go_wp2_with fail
  refine H.out.mono ?_
  clear H
  rintro e w3 hd
  obtain ⟨r, rfl⟩ := hd.shape
  have HD := hid hd
  clear hd
  go_wp2
  go_ret
  exact HD.out

set_option maxHeartbeats 2000000 in
theorem do_mul (h : VMac E m i d w) (ok : Ok vals m) (T : Tabs E.w0) (A : Int) (S : ByteArray) :
    Calls Tryz.prog 35 #[.pointer (some ⟨E.b, 0, none⟩), .agg #[.int .i64 10, .int .i64 A, .string S]] w (Did E i d (nn m fun a b => .num (wrap64 (a * b)))) := by
  rw [nn_needs]
  have hf : ∀ x, Tabs x → ¬ m.stack.length < [(1 : Int), 1].length → allFit [1, 1] (tops m [(1 : Int), 1].length) = true → Calls Tryz.prog 50 #[opV (sel (tops m [(1 : Int), 1].length) [(1 : Int), 1].length 0) (sel (tops m [(1 : Int), 1].length) [(1 : Int), 1].length 1) (sel (tops m [(1 : Int), 1].length) [(1 : Int), 1].length 2)] x fun e y => e = .returned (triV ((fun av => .num (wrap64 (nOf (at0 av) * nOf (at1 av)))) (tops m [(1 : Int), 1].length))) ∧ Below x.heap.size x y := by
    intro x hx hk hfit
    obtain ⟨a, b, s, hst⟩ := nn_shape hk hfit
    rw [show tops m [(1 : Int), 1].length = [.num a, .num b] from tops2 hst]
    exact prod_calls false false false a b 0 ⟨#[]⟩ ⟨#[]⟩ ⟨#[]⟩ x
  have H := hid (turn_any ((h.on (alloc1 w (Obj.cells #[.int .i64 10, .int .i64 A, .string S] 43))).on (alloc1 _ _)) (kinds2_at 1 1 (show (w.alloc (Obj.cells #[.int .i64 10, .int .i64 A, .string S] 43)).heap.size = w.heap.size + 1 by simp)) (by simp) (by simp) ok.high 50 (fun av => .num (wrap64 (nOf (at0 av) * nOf (at1 av)))) T (fun _ _ => rfl) hf)
  clear hf h T
  go_enter Tryz.func35, Tryz.ntmps35
  go_wp2_with fail
  refine H.out.mono ?_
  clear H
  rintro e w3 hd
  obtain ⟨r, rfl⟩ := hd.shape
  have HD := hid hd
  clear hd
  go_wp2
  go_ret
  exact HD.out

set_option maxHeartbeats 2000000 in
theorem do_less (h : VMac E m i d w) (ok : Ok vals m) (T : Tabs E.w0) (A : Int) (S : ByteArray) :
    Calls Tryz.prog 35 #[.pointer (some ⟨E.b, 0, none⟩), .agg #[.int .i64 11, .int .i64 A, .string S]] w (Did E i d (nn m fun a b => flag (decide (a < b)))) := by
  rw [nn_needs]
  have hf : ∀ x, Tabs x → ¬ m.stack.length < [(1 : Int), 1].length → allFit [1, 1] (tops m [(1 : Int), 1].length) = true → Calls Tryz.prog 51 #[opV (sel (tops m [(1 : Int), 1].length) [(1 : Int), 1].length 0) (sel (tops m [(1 : Int), 1].length) [(1 : Int), 1].length 1) (sel (tops m [(1 : Int), 1].length) [(1 : Int), 1].length 2)] x fun e y => e = .returned (triV ((fun av => flag (decide (nOf (at0 av) < nOf (at1 av)))) (tops m [(1 : Int), 1].length))) ∧ Below x.heap.size x y := by
    intro x hx hk hfit
    obtain ⟨a, b, s, hst⟩ := nn_shape hk hfit
    rw [show tops m [(1 : Int), 1].length = [.num a, .num b] from tops2 hst]
    show Calls Tryz.prog 51 _ x fun e y => e = .returned (triV (flag (decide (a < b)))) ∧ _
    cases hd : decide (a < b) with
    | true => exact less1_calls false false false a b 0 ⟨#[]⟩ ⟨#[]⟩ ⟨#[]⟩ x hd
    | false => exact less0_calls false false false a b 0 ⟨#[]⟩ ⟨#[]⟩ ⟨#[]⟩ x hd
  have H := hid (turn_any ((h.on (alloc1 w (Obj.cells #[.int .i64 11, .int .i64 A, .string S] 43))).on (alloc1 _ _)) (kinds2_at 1 1 (show (w.alloc (Obj.cells #[.int .i64 11, .int .i64 A, .string S] 43)).heap.size = w.heap.size + 1 by simp)) (by simp) (by simp) ok.high 51 (fun av => flag (decide (nOf (at0 av) < nOf (at1 av)))) T (fun _ _ => rfl) hf)
  clear hf h T
  go_enter Tryz.func35, Tryz.ntmps35
  go_wp2_with fail
  refine H.out.mono ?_
  clear H
  rintro e w3 hd
  obtain ⟨r, rfl⟩ := hd.shape
  have HD := hid hd
  clear hd
  go_wp2
  go_ret
  exact HD.out

set_option maxHeartbeats 2000000 in
theorem do_eq (h : VMac E m i d w) (ok : Ok vals m) (T : Tabs E.w0) (A : Int) (S : ByteArray) :
    Calls Tryz.prog 35 #[.pointer (some ⟨E.b, 0, none⟩), .agg #[.int .i64 12, .int .i64 A, .string S]] w (Did E i d (any2 m fun a b s => push m s [flag (sameV a b)])) := by
  rw [eq_needs]
  have hf : ∀ x, Tabs x → ¬ m.stack.length < [(0 : Int), 0].length → allFit [0, 0] (tops m [(0 : Int), 0].length) = true → Calls Tryz.prog 52 #[opV (sel (tops m [(0 : Int), 0].length) [(0 : Int), 0].length 0) (sel (tops m [(0 : Int), 0].length) [(0 : Int), 0].length 1) (sel (tops m [(0 : Int), 0].length) [(0 : Int), 0].length 2)] x fun e y => e = .returned (triV ((fun av => flag (sameV (at0 av) (at1 av))) (tops m [(0 : Int), 0].length))) ∧ Below x.heap.size x y := by
    intro x hx hk hfit
    obtain ⟨a, b, s, hst⟩ := have2 hk
    rw [show tops m [(0 : Int), 0].length = [a, b] from tops2 hst]
    have hq := same_tri a b
    show Calls Tryz.prog 52 #[.agg #[.bool (tri a).1, .int .i64 (tri a).2.1, .string (tri a).2.2, .bool (tri b).1, .int .i64 (tri b).2.1, .string (tri b).2.2, .bool false, .int .i64 0, .string ⟨#[]⟩]] x fun e y => e = .returned (triV (flag (sameV a b))) ∧ _
    cases hd : sameV a b with
    | true => exact equal1_calls _ _ false _ _ 0 _ _ ⟨#[]⟩ x (hq.trans hd)
    | false => exact equal0_calls _ _ false _ _ 0 _ _ ⟨#[]⟩ x (hq.trans hd)
  have H := hid (turn_any ((h.on (alloc1 w (Obj.cells #[.int .i64 12, .int .i64 A, .string S] 43))).on (alloc1 _ _)) (kinds2_at 0 0 (show (w.alloc (Obj.cells #[.int .i64 12, .int .i64 A, .string S] 43)).heap.size = w.heap.size + 1 by simp)) (by simp) (by simp) ok.high 52 (fun av => flag (sameV (at0 av) (at1 av))) T (fun _ _ => rfl) hf)
  clear hf h T
  go_enter Tryz.func35, Tryz.ntmps35
  go_wp2_with fail
  refine H.out.mono ?_
  clear H
  rintro e w3 hd
  obtain ⟨r, rfl⟩ := hd.shape
  have HD := hid hd
  clear hd
  go_wp2
  go_ret
  exact HD.out

set_option maxHeartbeats 2000000 in
theorem do_cat (h : VMac E m i d w) (ok : Ok vals m) (T : Tabs E.w0) (A : Int) (S : ByteArray) :
    Calls Tryz.prog 35 #[.pointer (some ⟨E.b, 0, none⟩), .agg #[.int .i64 13, .int .i64 A, .string S]] w (Did E i d (any2 m fun a b s => isT a fun a => isT b fun b => push m s [.text (a ++ b)])) := by
  rw [tt_needs]
  have hf : ∀ x, Tabs x → ¬ m.stack.length < [(2 : Int), 2].length → allFit [2, 2] (tops m [(2 : Int), 2].length) = true → Calls Tryz.prog 53 #[opV (sel (tops m [(2 : Int), 2].length) [(2 : Int), 2].length 0) (sel (tops m [(2 : Int), 2].length) [(2 : Int), 2].length 1) (sel (tops m [(2 : Int), 2].length) [(2 : Int), 2].length 2)] x fun e y => e = .returned (triV ((fun av => .text (tOf (at0 av) ++ tOf (at1 av))) (tops m [(2 : Int), 2].length))) ∧ Below x.heap.size x y := by
    intro x hx hk hfit
    obtain ⟨a, b, s, hst⟩ := tt_shape hk hfit
    rw [show tops m [(2 : Int), 2].length = [.text a, .text b] from tops2 hst]
    have ha : a.size ≤ 64 := ok.vs (.text a) (by rw [hst]; simp)
    have hb : b.size ≤ 64 := ok.vs (.text b) (by rw [hst]; simp)
    exact joined_calls true true false 0 0 0 a b ⟨#[]⟩ x ha hb
  have H := hid (turn_any ((h.on (alloc1 w (Obj.cells #[.int .i64 13, .int .i64 A, .string S] 43))).on (alloc1 _ _)) (kinds2_at 2 2 (show (w.alloc (Obj.cells #[.int .i64 13, .int .i64 A, .string S] 43)).heap.size = w.heap.size + 1 by simp)) (by simp) (by simp) ok.high 53 (fun av => .text (tOf (at0 av) ++ tOf (at1 av))) T (fun _ _ => rfl) hf)
  clear hf h T
  go_enter Tryz.func35, Tryz.ntmps35
  go_wp2_with fail
  refine H.out.mono ?_
  clear H
  rintro e w3 hd
  obtain ⟨r, rfl⟩ := hd.shape
  have HD := hid hd
  clear hd
  go_wp2
  go_ret
  exact HD.out

set_option maxHeartbeats 2000000 in
theorem do_len (h : VMac E m i d w) (ok : Ok vals m) (T : Tabs E.w0) (A : Int) (S : ByteArray) :
    Calls Tryz.prog 35 #[.pointer (some ⟨E.b, 0, none⟩), .agg #[.int .i64 14, .int .i64 A, .string S]] w (Did E i d (any1 m fun a s => isT a fun a => push m s [.num a.size])) := by
  rw [t_needs (fun a => .num a.size)]
  have hf : ∀ x, Tabs x → ¬ m.stack.length < [(2 : Int)].length → allFit [2] (tops m [(2 : Int)].length) = true → Calls Tryz.prog 54 #[opV (sel (tops m [(2 : Int)].length) [(2 : Int)].length 0) (sel (tops m [(2 : Int)].length) [(2 : Int)].length 1) (sel (tops m [(2 : Int)].length) [(2 : Int)].length 2)] x fun e y => e = .returned (triV ((fun av => .num (tOf (at0 av)).size) (tops m [(2 : Int)].length))) ∧ Below x.heap.size x y := by
    intro x hx hk hfit
    obtain ⟨a, s, hst⟩ := t_shape hk hfit
    rw [show tops m [(2 : Int)].length = [.text a] from tops1 hst]
    have ha : a.size ≤ 64 := ok.vs (.text a) (by rw [hst]; simp)
    exact length_calls true false false 0 0 0 a ⟨#[]⟩ ⟨#[]⟩ x ha
  have H := hid (turn_any ((h.on (alloc1 w (Obj.cells #[.int .i64 14, .int .i64 A, .string S] 43))).on (alloc1 _ _)) (kinds1_at 2 (show (w.alloc (Obj.cells #[.int .i64 14, .int .i64 A, .string S] 43)).heap.size = w.heap.size + 1 by simp)) (by simp) (by simp) ok.high 54 (fun av => .num (tOf (at0 av)).size) T (fun _ _ => rfl) hf)
  clear hf h T
  go_enter Tryz.func35, Tryz.ntmps35
  go_wp2_with fail
  refine H.out.mono ?_
  clear H
  rintro e w3 hd
  obtain ⟨r, rfl⟩ := hd.shape
  have HD := hid hd
  clear hd
  go_wp2
  go_ret
  exact HD.out
end Go.Proofs.YtpggfdnpbipckaaGreatDoor
