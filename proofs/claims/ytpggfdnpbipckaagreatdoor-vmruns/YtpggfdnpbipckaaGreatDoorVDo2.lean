/- do of the program's machine: the other turns. -/
import Derived.Test.YtpggfdnpbipckaaGreatDoorVDo1
namespace Go.Proofs.YtpggfdnpbipckaaGreatDoor
open Go.RowKit Go.Lib
set_option linter.unusedVariables false
set_option maxRecDepth 100000

variable {E : Fx} {m : St} {i : Int} {d : Nat} {w : World} {vals : List ByteArray}

set_option maxHeartbeats 2000000 in
theorem do_at (h : VMac E m i d w) (ok : Ok vals m) (T : Tabs E.w0) (A : Int) (S : ByteArray) :
    Calls Tryz.prog 35 #[.pointer (some ⟨E.b, 0, none⟩), .agg #[.int .i64 15, .int .i64 A, .string S]] w (Did E i d (any2 m fun a b s => isT a fun a => isN b fun b => push m s [.num (atV a b)])) := by
  rw [tn_needs]
  have hf : ∀ x, Tabs x → ¬ m.stack.length < [(2 : Int), 1].length → allFit [2, 1] (tops m [(2 : Int), 1].length) = true → Calls Tryz.prog 55 #[opV (sel (tops m [(2 : Int), 1].length) [(2 : Int), 1].length 0) (sel (tops m [(2 : Int), 1].length) [(2 : Int), 1].length 1) (sel (tops m [(2 : Int), 1].length) [(2 : Int), 1].length 2)] x fun e y => e = .returned (triV ((fun av => .num (atV (tOf (at0 av)) (nOf (at1 av)))) (tops m [(2 : Int), 1].length))) ∧ Below x.heap.size x y := by
    intro x hx hk hfit
    obtain ⟨a, b, s, hst⟩ := tn_shape hk hfit
    rw [show tops m [(2 : Int), 1].length = [.text a, .num b] from tops2 hst]
    have ha : a.size ≤ 64 := ok.vs (.text a) (by rw [hst]; simp)
    exact byteAt_calls true false false 0 b 0 a ⟨#[]⟩ ⟨#[]⟩ x ha
  have H := hid (turn_any ((h.on (alloc1 w (Obj.cells #[.int .i64 15, .int .i64 A, .string S] 43))).on (alloc1 _ _)) (kinds2_at 2 1 (show (w.alloc (Obj.cells #[.int .i64 15, .int .i64 A, .string S] 43)).heap.size = w.heap.size + 1 by simp)) (by simp) (by simp) ok.high 55 (fun av => .num (atV (tOf (at0 av)) (nOf (at1 av)))) T (fun _ _ => rfl) hf)
  clear hf h T
  go_enter Tryz.func35, Tryz.ntmps35
  go_wp2_with fail
  refine H.out.mono ?_
  clear H
  rintro e w3 hd
  obtain ⟨r, rfl⟩ := hd.shape
  have HD := hid hd
  clear hd
  go_wp2
  go_ret
  exact HD.out

set_option maxHeartbeats 2000000 in
theorem do_cut (h : VMac E m i d w) (ok : Ok vals m) (T : Tabs E.w0) (A : Int) (S : ByteArray) :
    Calls Tryz.prog 35 #[.pointer (some ⟨E.b, 0, none⟩), .agg #[.int .i64 16, .int .i64 A, .string S]] w (Did E i d (any3 m fun a b c s => isT a fun a => isN b fun b => isN c fun c => push m s [.text (cutV a b c)])) := by
  rw [tnn_needs]
  have hf : ∀ x, Tabs x → ¬ m.stack.length < [(2 : Int), 1, 1].length → allFit [2, 1, 1] (tops m [(2 : Int), 1, 1].length) = true → Calls Tryz.prog 56 #[opV (sel (tops m [(2 : Int), 1, 1].length) [(2 : Int), 1, 1].length 0) (sel (tops m [(2 : Int), 1, 1].length) [(2 : Int), 1, 1].length 1) (sel (tops m [(2 : Int), 1, 1].length) [(2 : Int), 1, 1].length 2)] x fun e y => e = .returned (triV ((fun av => .text (cutV (tOf (at0 av)) (nOf (at1 av)) (nOf (at2 av)))) (tops m [(2 : Int), 1, 1].length))) ∧ Below x.heap.size x y := by
    intro x hx hk hfit
    obtain ⟨a, b, c, s, hst⟩ := tnn_shape hk hfit
    rw [show tops m [(2 : Int), 1, 1].length = [.text a, .num b, .num c] from tops3 hst]
    have ha : a.size ≤ 64 := ok.vs (.text a) (by rw [hst]; simp)
    exact piece_calls true false false 0 b c a ⟨#[]⟩ ⟨#[]⟩ x ha
  have H := hid (turn_any ((h.on (alloc1 w (Obj.cells #[.int .i64 16, .int .i64 A, .string S] 43))).on (alloc1 _ _)) (kinds3_at 2 1 1 (show (w.alloc (Obj.cells #[.int .i64 16, .int .i64 A, .string S] 43)).heap.size = w.heap.size + 1 by simp)) (by simp) (by simp) ok.high 56 (fun av => .text (cutV (tOf (at0 av)) (nOf (at1 av)) (nOf (at2 av)))) T (fun _ _ => rfl) hf)
  clear hf h T
  go_enter Tryz.func35, Tryz.ntmps35
  go_wp2_with fail
  refine H.out.mono ?_
  clear H
  rintro e w3 hd
  obtain ⟨r, rfl⟩ := hd.shape
  have HD := hid hd
  clear hd
  go_wp2
  go_ret
  exact HD.out

set_option maxHeartbeats 2000000 in
theorem do_text (h : VMac E m i d w) (ok : Ok vals m) (T : Tabs E.w0) (A : Int) (S : ByteArray) :
    Calls Tryz.prog 35 #[.pointer (some ⟨E.b, 0, none⟩), .agg #[.int .i64 17, .int .i64 A, .string S]] w (Did E i d (any1 m fun a s => isN a fun a => push m s [.text (txt (itoa a))])) := by
  rw [n_needs (fun a => .text (txt (itoa a)))]
  have hf : ∀ x, Tabs x → ¬ m.stack.length < [(1 : Int)].length → allFit [1] (tops m [(1 : Int)].length) = true → Calls Tryz.prog 57 #[opV (sel (tops m [(1 : Int)].length) [(1 : Int)].length 0) (sel (tops m [(1 : Int)].length) [(1 : Int)].length 1) (sel (tops m [(1 : Int)].length) [(1 : Int)].length 2)] x fun e y => e = .returned (triV ((fun av => .text (txt (itoa (nOf (at0 av))))) (tops m [(1 : Int)].length))) ∧ Below x.heap.size x y := by
    intro x hx hk hfit
    obtain ⟨a, s, hst⟩ := n_shape hk hfit
    rw [show tops m [(1 : Int)].length = [.num a] from tops1 hst]
    have ha : I64 a := ok.vs (.num a) (by rw [hst]; simp)
    exact digitsV_calls false false false a 0 0 ⟨#[]⟩ ⟨#[]⟩ ⟨#[]⟩ x hx ha
  have H := hid (turn_any ((h.on (alloc1 w (Obj.cells #[.int .i64 17, .int .i64 A, .string S] 43))).on (alloc1 _ _)) (kinds1_at 1 (show (w.alloc (Obj.cells #[.int .i64 17, .int .i64 A, .string S] 43)).heap.size = w.heap.size + 1 by simp)) (by simp) (by simp) ok.high 57 (fun av => .text (txt (itoa (nOf (at0 av))))) T (fun _ _ => rfl) hf)
  clear hf h T
  go_enter Tryz.func35, Tryz.ntmps35
  go_wp2_with fail
  refine H.out.mono ?_
  clear H
  rintro e w3 hd
  obtain ⟨r, rfl⟩ := hd.shape
  have HD := hid hd
  clear hd
  go_wp2
  go_ret
  exact HD.out

set_option maxHeartbeats 2000000 in
theorem do_num (h : VMac E m i d w) (ok : Ok vals m) (T : Tabs E.w0) (A : Int) (S : ByteArray) :
    Calls Tryz.prog 35 #[.pointer (some ⟨E.b, 0, none⟩), .agg #[.int .i64 18, .int .i64 A, .string S]] w (Did E i d (any1 m fun a s => isT a fun a => push m s [.num (vNum a.data.toList)])) := by
  rw [t_needs (fun a => .num (vNum a.data.toList))]
  have hf : ∀ x, Tabs x → ¬ m.stack.length < [(2 : Int)].length → allFit [2] (tops m [(2 : Int)].length) = true → Calls Tryz.prog 58 #[opV (sel (tops m [(2 : Int)].length) [(2 : Int)].length 0) (sel (tops m [(2 : Int)].length) [(2 : Int)].length 1) (sel (tops m [(2 : Int)].length) [(2 : Int)].length 2)] x fun e y => e = .returned (triV ((fun av => .num (vNum (tOf (at0 av)).data.toList)) (tops m [(2 : Int)].length))) ∧ Below x.heap.size x y := by
    intro x hx hk hfit
    obtain ⟨a, s, hst⟩ := t_shape hk hfit
    rw [show tops m [(2 : Int)].length = [.text a] from tops1 hst]
    have ha : a.size ≤ 64 := ok.vs (.text a) (by rw [hst]; simp)
    exact numeral_calls true false false 0 0 0 a ⟨#[]⟩ ⟨#[]⟩ x hx ha
  have H := hid (turn_any ((h.on (alloc1 w (Obj.cells #[.int .i64 18, .int .i64 A, .string S] 43))).on (alloc1 _ _)) (kinds1_at 2 (show (w.alloc (Obj.cells #[.int .i64 18, .int .i64 A, .string S] 43)).heap.size = w.heap.size + 1 by simp)) (by simp) (by simp) ok.high 58 (fun av => .num (vNum (tOf (at0 av)).data.toList)) T (fun _ _ => rfl) hf)
  clear hf h T
  go_enter Tryz.func35, Tryz.ntmps35
  go_wp2_with fail
  refine H.out.mono ?_
  clear H
  rintro e w3 hd
  obtain ⟨r, rfl⟩ := hd.shape
  have HD := hid hd
  clear hd
  go_wp2
  go_ret
  exact HD.out

set_option maxHeartbeats 2000000 in
theorem do_dup (h : VMac E m i d w) (ok : Ok vals m) (A : Int) (S : ByteArray) :
    Calls Tryz.prog 35 #[.pointer (some ⟨E.b, 0, none⟩), .agg #[.int .i64 3, .int .i64 A, .string S]] w (Did E i d (any1 m fun a s => push m s [a, a])) := by
  rw [dup_needs]
  have H := hid (double_any (h.on (alloc1 w (Obj.cells #[.int .i64 3, .int .i64 A, .string S] 43))) ok.high)
  clear h
  go_enter Tryz.func35, Tryz.ntmps35
  go_wp2_with fail
  refine H.out.mono ?_
  clear H
  rintro e w3 hd
  obtain ⟨r, rfl⟩ := hd.shape
  have HD := hid hd
  clear hd
  go_wp2
  go_ret
  exact HD.out

set_option maxHeartbeats 2000000 in
theorem do_drop (h : VMac E m i d w) (ok : Ok vals m) (A : Int) (S : ByteArray) :
    Calls Tryz.prog 35 #[.pointer (some ⟨E.b, 0, none⟩), .agg #[.int .i64 4, .int .i64 A, .string S]] w (Did E i d (any1 m fun a s => push m s [])) := by
  rw [drop_needs ok.high]
  have H := hid (drop_any (h.on (alloc1 w (Obj.cells #[.int .i64 4, .int .i64 A, .string S] 43))) ok.high)
  clear h
  go_enter Tryz.func35, Tryz.ntmps35
  go_wp2_with fail
  refine H.out.mono ?_
  clear H
  rintro e w3 hd
  obtain ⟨r, rfl⟩ := hd.shape
  have HD := hid hd
  clear hd
  go_wp2
  go_ret
  exact HD.out

set_option maxHeartbeats 2000000 in
theorem do_swap (h : VMac E m i d w) (ok : Ok vals m) (A : Int) (S : ByteArray) :
    Calls Tryz.prog 35 #[.pointer (some ⟨E.b, 0, none⟩), .agg #[.int .i64 5, .int .i64 A, .string S]] w (Did E i d (any2 m fun a b s => push m s [b, a])) := by
  rw [swap_needs]
  have H := hid (swap_any (h.on (alloc1 w (Obj.cells #[.int .i64 5, .int .i64 A, .string S] 43))) ok.high)
  clear h
  go_enter Tryz.func35, Tryz.ntmps35
  go_wp2_with fail
  refine H.out.mono ?_
  clear H
  rintro e w3 hd
  obtain ⟨r, rfl⟩ := hd.shape
  have HD := hid hd
  clear hd
  go_wp2
  go_ret
  exact HD.out

set_option maxHeartbeats 2000000 in
theorem do_next (h : VMac E m i d w) (ok : Ok vals m) (A : Int) (S : ByteArray) (hvv : Txs E.w0 E.vv vals) (hfew : vals.length ≤ 100) :
    Calls Tryz.prog 35 #[.pointer (some ⟨E.b, 0, none⟩), .agg #[.int .i64 7, .int .i64 A, .string S]] w (Did E i d (if m.taken < vals.length then push { m with taken := m.taken + 1 } m.stack [.text (vals.getD m.taken ⟨#[]⟩), .num 1] else push m m.stack [.num 0])) := by
  have H := hid (pushNext_any (h.on (alloc1 w (Obj.cells #[.int .i64 7, .int .i64 A, .string S] 43))) ok.high hvv hfew ok.tk)
  generalize (if m.taken < vals.length then push { m with taken := m.taken + 1 } m.stack [.text (vals.getD m.taken ⟨#[]⟩), .num 1] else push m m.stack [.num 0]) = o at H ⊢
  clear h
  go_enter Tryz.func35, Tryz.ntmps35
  go_wp2_with fail
  refine H.out.mono ?_
  clear H
  rintro e w3 hd
  obtain ⟨r, rfl⟩ := hd.shape
  have HD := hid hd
  clear hd
  go_wp2
  go_ret
  exact HD.out

set_option maxHeartbeats 2000000 in
theorem do_jump (h : VMac E m i d w) (ok : Ok vals m) (A : Int) (S : ByteArray) :
    Calls Tryz.prog 35 #[.pointer (some ⟨E.b, 0, none⟩), .agg #[.int .i64 19, .int .i64 A, .string S]] w (Did E i d (.goto A m)) := by
  have H := hid (jump_any (i := i) (h.on (alloc1 w (Obj.cells #[.int .i64 19, .int .i64 A, .string S] 43))) A)
  clear h
  go_enter Tryz.func35, Tryz.ntmps35
  go_wp2_with fail
  refine H.out.mono ?_
  clear H
  rintro e w3 hd
  obtain ⟨r, rfl⟩ := hd.shape
  have HD := hid hd
  clear hd
  go_wp2
  go_ret
  exact HD.out

set_option maxHeartbeats 2000000 in
theorem do_if (h : VMac E m i d w) (ok : Ok vals m) (A : Int) (S : ByteArray) :
    Calls Tryz.prog 35 #[.pointer (some ⟨E.b, 0, none⟩), .agg #[.int .i64 20, .int .i64 A, .string S]] w (Did E i d (any1 m fun a s => isN a fun a => if a = 0 then .next { m with stack := s } else .goto A { m with stack := s })) := by
  rw [if_needs]
  have H := hid (jumpIf_any (h.on (alloc1 w (Obj.cells #[.int .i64 20, .int .i64 A, .string S] 43))) ok.high A)
  clear h
  go_enter Tryz.func35, Tryz.ntmps35
  go_wp2_with fail
  refine H.out.mono ?_
  clear H
  rintro e w3 hd
  obtain ⟨r, rfl⟩ := hd.shape
  have HD := hid hd
  clear hd
  go_wp2
  go_ret
  exact HD.out

set_option maxHeartbeats 2000000 in
theorem do_emit (h : VMac E m i d w) (ok : Ok vals m) (A : Int) (S : ByteArray) :
    Calls Tryz.prog 35 #[.pointer (some ⟨E.b, 0, none⟩), .agg #[.int .i64 23, .int .i64 A, .string S]] w (Did E i d (any2 m fun a b s => isT a fun a => isT b fun b => emit m a b s)) := by
  rw [emit_needs]
  have H := hid (emit_any (h.on (alloc1 w (Obj.cells #[.int .i64 23, .int .i64 A, .string S] 43))) ok.high ok.few)
  clear h
  go_enter Tryz.func35, Tryz.ntmps35
  go_wp2_with fail
  refine H.out.mono ?_
  clear H
  rintro e w3 hd
  obtain ⟨r, rfl⟩ := hd.shape
  have HD := hid hd
  clear hd
  go_wp2
  go_ret
  exact HD.out
end Go.Proofs.YtpggfdnpbipckaaGreatDoor
