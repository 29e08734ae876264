/- do of the program's machine: numbers, bytes, the key, registers, the end. -/
import Derived.Test.YtpggfdnpbipckaaGreatDoorVDo1
namespace Go.Proofs.YtpggfdnpbipckaaGreatDoor
open Go.RowKit Go.Lib
set_option linter.unusedVariables false
set_option maxRecDepth 100000

variable {E : Fx} {m : St} {i : Int} {d : Nat} {w : World} {vals : List ByteArray}

set_option maxHeartbeats 2000000 in
theorem do_store (h : VMac E m i d w) (ok : Ok vals m) (S : ByteArray) (k : Nat) (hk : k < 8) :
    Calls Tryz.prog 35 #[.pointer (some ⟨E.b, 0, none⟩), .agg #[.int .i64 22, .int .i64 (k : Int), .string S]] w (Did E i d (any1 m fun a s => .next { m with stack := s, regs := m.regs.set k a })) := by
  rw [store_needs]
  have H := hid (store_any (h.on (alloc1 w (Obj.cells #[.int .i64 22, .int .i64 (k : Int), .string S] 43))) ok.high ok.eight k hk)
  clear h
  go_enter Tryz.func35, Tryz.ntmps35
  go_wp2_with fail
  refine H.out.mono ?_
  clear H
  rintro e w3 hd
  obtain ⟨r, rfl⟩ := hd.shape
  have HD := hid hd
  clear hd
  go_wp2
  go_ret
  exact HD.out

set_option maxHeartbeats 2000000 in
theorem do_int (h : VMac E m i d w) (ok : Ok vals m) (A : Int) (S : ByteArray) :
    Calls Tryz.prog 35 #[.pointer (some ⟨E.b, 0, none⟩), .agg #[.int .i64 1, .int .i64 A, .string S]] w (Did E i d (push m m.stack [.num A])) := by
  have H := hid (h.on (alloc1 w (Obj.cells #[.int .i64 1, .int .i64 A, .string S] 43)))
  clear h
  go_enter Tryz.func35, Tryz.ntmps35
  go_wp2_with fail
  refine (int_calls A _).mono ?_
  rintro e w1 ⟨rfl, hb1⟩
  have H2 := hid ((H.out.on hb1).on (alloc1 w1 (.cells #[.bool (tri (.num A)).1, .int .i64 (tri (.num A)).2.1, .string (tri (.num A)).2.2] 57)))
  have HX := hid (made1 (.num A) w1)
  clear hb1 H
  go_wp2_with fail
  refine (push_any H2.out ok.high HX.out (by simp) (by simp)).mono ?_
  rintro e w3 hd
  obtain ⟨r, rfl⟩ := hd.shape
  have HD := hid hd
  clear hd
  go_wp2
  go_ret
  exact HD.out

set_option maxHeartbeats 2000000 in
theorem do_bytes (h : VMac E m i d w) (ok : Ok vals m) (A : Int) (S : ByteArray) :
    Calls Tryz.prog 35 #[.pointer (some ⟨E.b, 0, none⟩), .agg #[.int .i64 2, .int .i64 A, .string S]] w (Did E i d (push m m.stack [.text S])) := by
  have H := hid (h.on (alloc1 w (Obj.cells #[.int .i64 2, .int .i64 A, .string S] 43)))
  clear h
  go_enter Tryz.func35, Tryz.ntmps35
  go_wp2_with fail
  refine (bytes_calls S _).mono ?_
  rintro e w1 ⟨rfl, hb1⟩
  have H2 := hid ((H.out.on hb1).on (alloc1 w1 (.cells #[.bool (tri (.text S)).1, .int .i64 (tri (.text S)).2.1, .string (tri (.text S)).2.2] 57)))
  have HX := hid (made1 (.text S) w1)
  clear hb1 H
  go_wp2_with fail
  refine (push_any H2.out ok.high HX.out (by simp) (by simp)).mono ?_
  rintro e w3 hd
  obtain ⟨r, rfl⟩ := hd.shape
  have HD := hid hd
  clear hd
  go_wp2
  go_ret
  exact HD.out

set_option maxHeartbeats 2000000 in
theorem do_key (h : VMac E m i d w) (ok : Ok vals m) (A : Int) (S : ByteArray) :
    Calls Tryz.prog 35 #[.pointer (some ⟨E.b, 0, none⟩), .agg #[.int .i64 6, .int .i64 A, .string S]] w (Did E i d (push m m.stack [.text E.key])) := by
  have H := hid (h.on (alloc1 w (Obj.cells #[.int .i64 6, .int .i64 A, .string S] 43)))
  obtain ⟨vs, vt, hv⟩ := (h.on (alloc1 w (Obj.cells #[.int .i64 6, .int .i64 A, .string S] 43)))
  have c1 := hv.cK
  clear h hv
  go_enter Tryz.func35, Tryz.ntmps35
  go_wp2_with fail
  refine (key_get H.out).mono ?_
  rintro e w0 ⟨rfl, hm⟩
  have H0 := hid hm
  clear hm H
  go_wp2_with fail
  refine (bytes_calls E.key _).mono ?_
  rintro e w1 ⟨rfl, hb1⟩
  have H2 := hid ((H0.out.on hb1).on (alloc1 w1 (.cells #[.bool true, .int .i64 0, .string E.key] 57)))
  have HX := hid (made1 (.text E.key) w1)
  clear hb1 H0
  go_wp2_with fail
  refine (push_any H2.out ok.high HX.out (by simp) (by simp)).mono ?_
  rintro e w3 hd
  obtain ⟨r, rfl⟩ := hd.shape
  have HD := hid hd
  clear hd
  go_wp2
  go_ret
  exact HD.out

set_option maxHeartbeats 2000000 in
theorem do_halt (h : VMac E m i d w) (ok : Ok vals m) (A : Int) (S : ByteArray) {ao : Option Addr} {n cap : Nat} (hp : E.vp = .slice ao n cap) :
    Calls Tryz.prog 35 #[.pointer (some ⟨E.b, 0, none⟩), .agg #[.int .i64 0, .int .i64 A, .string S]] w (Did E i d (.goto n m)) := by
  obtain ⟨vs, vt, hv⟩ := (h.on (alloc1 w (Obj.cells #[.int .i64 0, .int .i64 A, .string S] 43)))
  have c0 := hv.cP
  rw [hp] at c0
  have H := hid (jump_any (i := i) (h.on (alloc1 w (Obj.cells #[.int .i64 0, .int .i64 A, .string S] 43))) (n : Int))
  clear h hv
  go_enter Tryz.func35, Tryz.ntmps35
  go_wp2_with fail
  refine H.out.mono ?_
  clear H
  rintro e w3 hd
  obtain ⟨r, rfl⟩ := hd.shape
  have HD := hid hd
  clear hd
  go_wp2
  go_ret
  exact HD.out

set_option maxHeartbeats 4000000 in
theorem do_load (h : VMac E m i d w) (ok : Ok vals m) (S : ByteArray) (k : Nat) (hk : k < 8) :
    Calls Tryz.prog 35 #[.pointer (some ⟨E.b, 0, none⟩), .agg #[.int .i64 21, .int .i64 (k : Int), .string S]] w (Did E i d (push m m.stack [m.regs.getD k (.num 0)])) := by
  obtain ⟨vs, vt, hv⟩ := (h.on (alloc1 w (Obj.cells #[.int .i64 21, .int .i64 (k : Int), .string S] 43)))
  generalize hy : m.regs.getD k (.num 0) = y
  have b0 : (w.alloc (Obj.cells #[.int .i64 21, .int .i64 (k : Int), .string S] 43)).cell? ⟨E.b, 5 + k * 3, none⟩ = some (.bool (tri y).1) := hv.cR hk (j := 0) (by rw [hy, encV_tri]; rfl)
  have b1 : (w.alloc (Obj.cells #[.int .i64 21, .int .i64 (k : Int), .string S] 43)).cell? ⟨E.b, 5 + k * 3 + 1, none⟩ = some (.int .i64 (tri y).2.1) := hv.cR hk (j := 1) (by rw [hy, encV_tri]; rfl)
  have b2 : (w.alloc (Obj.cells #[.int .i64 21, .int .i64 (k : Int), .string S] 43)).cell? ⟨E.b, 5 + k * 3 + 2, none⟩ = some (.string (tri y).2.2) := hv.cR hk (j := 2) (by rw [hy, encV_tri]; rfl)
  have q1 : (w.alloc (Obj.cells #[.int .i64 21, .int .i64 (k : Int), .string S] 43)).cell? ⟨w.heap.size, 1, none⟩ = some (.int .i64 (k : Int)) := cell_of_cells (new_block _ _)
  have HV := hid hv
  clear h hv hy
  have hk' : (k : Int) < 8 := by omega
  go_enter Tryz.func35, Tryz.ntmps35
  go_wp2_with fail
  generalize w.alloc (Obj.cells #[.int .i64 21, .int .i64 (k : Int), .string S] 43) = W at HV b0 b1 b2 q1 ⊢
  generalize w.heap.size = q at q1 ⊢
  have H2 := hid ((HV.out.on (alloc1 W (.cells #[.bool (tri y).1, .int .i64 (tri y).2.1, .string (tri y).2.2] 57))).on (drew1 _))
  have HX := hid ((made1 y W).below (drew1 _))
  go_region_with (go_at_call 39; refine (push_any ⟨_, _, H2.out⟩ ok.high HX.out (by simp) (by simp)).mono ?_; rintro e w3 hd; obtain ⟨r, rfl⟩ := hd.shape; have HD := hid hd; clear hd)
  all_goals (go_wp2; go_ret; exact HD.out)
end Go.Proofs.YtpggfdnpbipckaaGreatDoor
