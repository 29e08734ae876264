/- What disk.New, Append, Sync, leave, Crash, Cut, Bytes, Synced, Unsynced do. -/
import Derived.Test.YtnbikfgbjfcenaaLend
import Derived.Test.YtnbikfgbjfcenaaAppAt
import Derived.RegionTactic
import Derived.BigRegion
import Derived.Deep.RegionHeld3
import Derived.Handy
namespace Go.Proofs.Ytnbikfgbjfcenaa
open Go.RowKit
set_option linter.unusedVariables false

/-- A disk in block b, of whatever struct of a list and a number: v is its bytes, l in all, n of them are synced. -/
structure Dk (T base b : Nat) (v : Value) (l : List Int) (n : Nat) (w : World) : Prop where
  obj : w.heap[b]? = some (.cells #[v, .int .i64 n] T (0, 0))
  own : w.ownsRow base 5 1 v l.length (cel l)
  le : n ≤ l.length
  low : base ≤ w.heap.size
  bit : l.length ≤ 1099511627776

/-- What belongs to it. -/
def Ow (b : Nat) (v : Value) (k : Nat) : Prop := k = b ∨ v.ownBlock = some k
/-- Where its bytes lie then. -/
def Next (w : World) (v v' : Value) : Prop := v'.ownBlock = v.ownBlock ∨ ∀ k, v'.ownBlock = some k → w.heap.size ≤ k

theorem Dk.sav {T base b : Nat} {v : Value} {l : List Int} {n : Nat} {w w' : World} {S : Nat → Prop} (h : Dk T base b v l n w) (hs : Sav S w w') (h1 : ¬ S b) (h2 : ∀ k, v.ownBlock = some k → ¬ S k) : Dk T base b v l n w' :=
  ⟨hs.at h.obj h1, owns_sav h.own hs h2, h.le, Nat.le_trans h.low hs.size, h.bit⟩
theorem Dk.below {T base b : Nat} {v : Value} {l : List Int} {n : Nat} {w w' : World} (h : Dk T base b v l n w) (hb : Below w.heap.size w w') : Dk T base b v l n w' :=
  h.sav (Sav.of_below (S := Non) hb) (fun h => h) (fun _ _ h => h)
theorem Dk.lt {T base b : Nat} {v : Value} {l : List Int} {n : Nat} {w : World} (h : Dk T base b v l n w) : b < w.heap.size := lt_of_block h.obj
theorem Dk.c0 {T base b : Nat} {v : Value} {l : List Int} {n : Nat} {w : World} (h : Dk T base b v l n w) : w.cell? ⟨b, 0, none⟩ = some v := cell_of_cells h.obj
theorem Dk.c1 {T base b : Nat} {v : Value} {l : List Int} {n : Nat} {w : World} (h : Dk T base b v l n w) : w.cell? ⟨b, 1, none⟩ = some (.int .i64 n) := cell_of_cells h.obj
theorem Dk.free {T base b : Nat} {v : Value} {l : List Int} {n : Nat} {w : World} (h : Dk T base b v l n w) (j : Nat) : w.frozen? ⟨b, j, none⟩ = false := free_of_cells h.obj
/-- Its block is turned to another number. -/
theorem Dk.mark {T base b : Nat} {v : Value} {l : List Int} {n m : Nat} {w : World} (hT : T ≠ 5) (h : Dk T base b v l n w) (hm : m ≤ l.length) : Dk T base b v l m (w.setCell ⟨b, 1, none⟩ (.int .i64 m)) :=
  ⟨set_same h.obj, owns_sav (S := Just b) h.own ((Sav.refl _ _).setCell (just b) 1 _) (fun k hk e => owns_ne h.own h.obj hT (by rw [hk]; exact congrArg some e.symm)), hm, Nat.le_trans h.low (by simp [World.setCell]), h.bit⟩
/-- Its list is cut. -/
theorem owns_cut {w : World} {base e n k : Nat} {ao : Option Addr} {c : Nat} {xs : List Value} (h : w.ownsRow base e 1 (.slice ao n c) n xs) (hk : k ≤ n) : w.ownsRow base e 1 (.slice ao k c) k (xs.take k) := by
  have hl := h.1
  rcases h.2 with ⟨h1, rfl⟩ | ⟨g, cap, cur, h1, h2, h3, h4, h5, h6, h7⟩
  · cases h1
    obtain rfl : k = 0 := by omega
    exact ⟨by simp, .inl ⟨rfl, rfl⟩⟩
  · cases h1
    refine ⟨by rw [List.length_take]; omega, .inr ⟨g, c, cur, rfl, h2, h3, by omega, h5, h6, ?_⟩⟩
    rw [← h7, List.take_take]
    congr 1
    omega
theorem cel_take (l : List Int) (k : Nat) : cel (l.take k) = (cel l).take k := by simp [cel]
/-- Its list is put in another's place. -/
theorem Dk.list {T base b : Nat} {v v' : Value} {l' : List Int} {n : Nat} {w : World} (hT : T ≠ 5) (h : w.heap[b]? = some (.cells #[v, .int .i64 n] T (0, 0))) (ho : w.ownsRow base 5 1 v' l'.length (cel l')) (hn : n ≤ l'.length) (hw : base ≤ w.heap.size) (hl : l'.length ≤ 1099511627776) : Dk T base b v' l' n (w.setCell ⟨b, 0, none⟩ v') :=
  ⟨set_same h, owns_sav (S := Just b) ho ((Sav.refl _ _).setCell (just b) 0 _) (fun k hk e => owns_ne ho h hT (by rw [hk]; exact congrArg some e.symm)), hn, Nat.le_trans hw (by simp [World.setCell]), hl⟩

theorem Dk.both {T base b : Nat} {v v' : Value} {l' : List Int} {n m : Nat} {w : World} (hT : T ≠ 5) (h : w.heap[b]? = some (.cells #[v, .int .i64 n] T (0, 0))) (ho : w.ownsRow base 5 1 v' l'.length (cel l')) (hm : m ≤ l'.length) (hw : base ≤ w.heap.size) (hl : l'.length ≤ 1099511627776) : Dk T base b v' l' m ((w.setCell ⟨b, 0, none⟩ v').setCell ⟨b, 1, none⟩ (.int .i64 m)) :=
  ⟨set_same (set_same h), owns_sav (S := Just b) ho (((Sav.refl _ _).setCell (just b) 0 _).setCell (just b) 1 _) (fun k hk e => owns_ne ho h hT (by rw [hk]; exact congrArg some e.symm)), hm, Nat.le_trans hw (by simp [World.setCell]), hl⟩

theorem below_drewN1 (w : World) (t : Nat) : Below w.heap.size w (w.drewN t) := ⟨rfl, rfl, rfl, Nat.le_refl _, fun _ _ => rfl⟩
theorem new_any (w : World) : Calls Try.prog 8 #[] w fun e w' => e = .returned (.pointer (some ⟨w.heap.size, 0, none⟩)) ∧ w' = w.alloc (.cells #[.slice none 0 0, .int .i64 0] 42) := by
  go_enter Try.func8, Try.ntmps8
  go_wp2
  go_ret
  exact ⟨rfl, rfl⟩
theorem Dk.new (w : World) (T base : Nat) (hb : base ≤ w.heap.size) : Dk T base w.heap.size (.slice none 0 0) [] 0 (w.alloc (.cells #[.slice none 0 0, .int .i64 0] T)) :=
  ⟨new_block _ _, World.ownsRow_nil _ _ _ _, Nat.le_refl _, by simp; omega, by simp⟩

set_option maxHeartbeats 1000000 in
theorem append_any (base b n : Nat) (v a : Value) (l m : List Int) (w : World) (h : Dk 42 base b v l n w) (ha : Bs w a m) (hr : l.length + m.length ≤ 1099511627776) :
    Calls Try.prog 10 #[.pointer (some ⟨b, 0, none⟩), a] w fun e w' => e = .returned (.tuple #[]) ∧ ∃ v', Dk 42 base b v' (l ++ m) n w' ∧ Sav (Ow b v) w w' ∧ Next w v v' := by
  have HA := hid ha
  obtain ⟨ao, cap, rfl, h1, h2, h3, -⟩ := ha
  obtain ⟨i0, hi, hz0, hz1, hz2⟩ := info_parts Try.info5
  have H := hid h
  have c0 := h.c0
  have hlow := h.low
  clear h
  unfold maxLen at h2
  have ho := hid H.out.own
  go_enter Try.func10, Try.ntmps10
  go_wp2_with (at_builtin; refine wpList_append_at_any _ rfl _ _ 28 rfl base 5 i0 (.int .u8 0) 1 1 Try.underlying28 hi hz0 hz1 hz2 rfl (by decide) v l.length (cel l) rfl ho.out ao m.length cap (cel m) rfl (by rw [cel_length]; omega) (fun e => ⟨by rw [(h3 e).1]; rfl, (h3 e).2⟩) (HA.out.news (Below.refl _ _)) (cel_oneCell m) (by unfold maxLen; omega) (by omega) hlow ?_; intro v1 w1 ho1 hg1 hat; obtain ⟨a1, k1, rfl⟩ := owns_slice ho1; have hb1 := grown_at ho.out hg1 H.out.obj (by decide); have c1 : w1.cell? ⟨b, 0, none⟩ = some v := cell_of_cells hb1; have f1 : w1.frozen? ⟨b, 0, none⟩ = false := free_of_cells hb1)
  go_end0
  have ho2 : w1.ownsRow base 5 1 (.slice a1 (l.length + m.length) k1) (l ++ m).length (cel (l ++ m)) := by rw [List.length_append, cel_append]; exact ho1
  refine ⟨rfl, _, Dk.list (by decide) hb1 ho2 (by have := H.out.le; rw [List.length_append]; omega) (Nat.le_trans hlow hg1.size) (by rw [List.length_append]; omega), (Sav.grown hg1 (fun k hk => .inr hk)).setCell (S := Ow b v) (.inl rfl) 0 _, ?_⟩
  rcases hat with hat | hat
  · exact .inl hat
  · exact .inr (fun k hk => by rw [hat] at hk; cases hk; exact Nat.le_refl _)

set_option maxHeartbeats 1000000 in
theorem sync_any (base b n : Nat) (v : Value) (l : List Int) (w : World) (h : Dk 42 base b v l n w) :
    Calls Try.prog 14 #[.pointer (some ⟨b, 0, none⟩)] w fun e w' => e = .returned (.tuple #[]) ∧ Dk 42 base b v l l.length w' ∧ Sav (Just b) w w' := by
  have H := hid h
  obtain ⟨ao, c, rfl⟩ := owns_slice h.own
  have c0 := h.c0
  have c1 := h.c1
  have f1 := h.free 1
  clear h
  go_enter Try.func14, Try.ntmps14
  go_wp2
  go_end0
  exact ⟨rfl, Dk.mark (by decide) H.out (Nat.le_refl _), (Sav.refl _ _).setCell (just b) 1 _⟩

set_option maxHeartbeats 1000000 in
theorem leave_any (base b n k : Nat) (v : Value) (l : List Int) (w : World) (h : Dk 42 base b v l n w) (hk : k ≤ l.length) :
    Calls Try.prog 23 #[.pointer (some ⟨b, 0, none⟩), .int .i64 k] w fun e w' => e = .returned (.tuple #[]) ∧ ∃ v', Dk 42 base b v' (l.take k) k w' ∧ Sav (Just b) w w' ∧ v'.ownBlock = v.ownBlock := by
  have H := hid h
  obtain ⟨ao, c, rfl⟩ := owns_slice h.own
  have hlc : l.length ≤ c ∧ c ≤ maxLen := by
    rcases h.own.2 with ⟨h1, h2⟩ | ⟨g, cap, cur, h1, h2, h3, h4, h5, h6⟩
    · simp only [Value.slice.injEq] at h1; unfold maxLen; omega
    · simp only [Value.slice.injEq] at h1; omega
  obtain ⟨hlc, hcm⟩ := hlc
  unfold maxLen at hcm
  have c0 := h.c0
  have c1 := h.c1
  have f0 := h.free 0
  have f1 := h.free 1
  have hlen : (l.take k).length = k := by rw [List.length_take]; omega
  have ho := owns_cut h.own hk
  rw [← cel_take] at ho
  have ho1 : w.ownsRow base 5 1 (.slice ao k c) (l.take k).length (cel (l.take k)) := by rw [hlen]; exact ho
  have k1 := hid (Dk.both (m := k) (by decide) h.obj ho1 (by omega) h.low (by have := h.bit; omega))
  clear h
  go_enter Try.func23, Try.ntmps23
  go_wp2
  go_end0
  exact ⟨rfl, _, k1.out, ((Sav.refl _ _).setCell (just b) 0 _).setCell (just b) 1 _, by cases ao <;> rfl⟩

set_option maxHeartbeats 1000000 in
theorem unsynced_any (base b n : Nat) (v : Value) (l : List Int) (w : World) (h : Dk 42 base b v l n w) :
    Calls Try.prog 22 #[.pointer (some ⟨b, 0, none⟩)] w fun e w' => e = .returned (.int .i64 ((l.length - n : Nat) : Int)) ∧ ∃ t, w' = w.drewN t := by
  obtain ⟨ao, c, rfl⟩ := owns_slice h.own
  have c0 := h.c0
  have c1 := h.c1
  have hle := h.le
  have hbit := h.bit
  have he : ((l.length - n : Nat) : Int) = (l.length : Int) - n := by omega
  rw [he]
  clear h he
  go_enter Try.func22, Try.ntmps22
  go_wp2
  go_quiet (fail)
  go_wp2
  go_ret
  exact ⟨rfl, _, rfl⟩

theorem synced_any (base b n : Nat) (v : Value) (l : List Int) (w : World) (h : Dk 42 base b v l n w) :
    Calls Try.prog 21 #[.pointer (some ⟨b, 0, none⟩)] w fun e w' => e = .returned (.int .i64 n) ∧ w = w' := by
  have c1 := h.c1
  clear h
  go_enter Try.func21, Try.ntmps21
  go_wp2
  go_ret
  exact ⟨rfl, rfl⟩

/-- What a disk's bytes read as. -/
theorem Dk.reads {T base b : Nat} {v : Value} {l : List Int} {n : Nat} {w : World} (h : Dk T base b v l n w) : Bs w v l := Bs.owned h.own

set_option maxHeartbeats 1000000 in
theorem bytes_any (base b n : Nat) (v : Value) (l : List Int) (w : World) (h : Dk 42 base b v l n w) :
    Calls Try.prog 19 #[.pointer (some ⟨b, 0, none⟩)] w fun e w' => ∃ ao c, e = .returned (.slice ao l.length c) ∧ w'.ownsRow w.heap.size 5 1 (.slice ao l.length c) l.length (cel l) ∧ Below w.heap.size w w' := by
  have HA := hid h.reads
  obtain ⟨ao, cap, rfl, h1, h2, h3, -⟩ := h.reads
  obtain ⟨i0, hi, hz0, hz1, hz2⟩ := info_parts Try.info5
  have c0 := h.c0
  have hbit := h.bit
  clear h
  unfold maxLen at h2
  go_enter Try.func19, Try.ntmps19
  go_wp2_with (at_builtin; refine wpList_append_at_any _ rfl _ _ 28 rfl w.heap.size 5 i0 (.int .u8 0) 1 1 Try.underlying28 hi hz0 hz1 hz2 rfl (by decide) (.slice none 0 0) 0 [] rfl (World.ownsRow_nil _ _ _ _) ao l.length cap (cel l) rfl (by rw [cel_length]; omega) (fun e => ⟨by rw [(h3 e).1]; rfl, (h3 e).2⟩) (HA.out.news (Below.refl _ _)) (cel_oneCell l) (by unfold maxLen; omega) (by omega) (Nat.le_refl _) ?_; intro v1 w1 ho1 hg1 hat; obtain ⟨a1, k1, rfl⟩ := owns_slice ho1)
  go_ret
  simp only [Nat.zero_add, List.nil_append] at ho1 ⊢
  exact ⟨_, _, rfl, ho1, hg1.os, hg1.tape, hg1.output, hg1.size, fun k hk => hg1.block k hk (fun e => by cases e)⟩

/-- How many bytes a crash leaves. -/
def stay (n : Nat) (l : List Int) (keep : Int) : Nat := n + (low keep ((l.length - n : Nat) + 1)).toNat
theorem stay_le {n : Nat} {l : List Int} (h : n ≤ l.length) (keep : Int) : n ≤ stay n l keep ∧ stay n l keep ≤ l.length := by
  have := low_bd keep ((l.length - n : Nat) + 1) (by omega)
  unfold stay
  omega
theorem stay_is {n : Nat} {l : List Int} (h : n ≤ l.length) (keep : Int) : (stay n l keep : Int) = n + low keep ((l.length - n : Nat) + 1) := by
  have := low_bd keep ((l.length - n : Nat) + 1) (by omega)
  unfold stay
  omega

theorem stay_wrap {n : Nat} {l : List Int} (h : n ≤ l.length) (hb : l.length ≤ 1099511627776) (keep : Int) : wrap64 ((n : Int) + wrap64 ((IntKind.u64.wrap keep).tmod ((l.length - n : Nat) + 1))) = (stay n l keep : Nat) := by
  have h2 := low_bd keep ((l.length - n : Nat) + 1) (by omega)
  rw [low_eq _ _ (by omega) (by omega), stay_is h, IntWalk.wrap64_in _ ⟨by omega, by omega⟩]

set_option maxHeartbeats 1000000 in
theorem crash_any (base b n : Nat) (v : Value) (l : List Int) (keep : Int) (w : World) (h : Dk 42 base b v l n w) :
    Calls Try.prog 15 #[.pointer (some ⟨b, 0, none⟩), .int .i64 keep] w fun e w' => e = .returned (.tuple #[]) ∧ ∃ v', Dk 42 base b v' (l.take (stay n l keep)) (stay n l keep) w' ∧ Sav (Just b) w w' ∧ v'.ownBlock = v.ownBlock := by
  have H := hid h
  have c1 := h.c1
  have hle := h.le
  have hbit := h.bit
  have hs := stay_le hle keep
  have hsw := hid (stay_wrap hle hbit keep)
  clear h
  go_enter Try.func15, Try.ntmps15
  go_wp2_with fail
  refine (unsynced_any base b n v l w H.out).mono ?_
  rintro e w1 ⟨rfl, t, rfl⟩
  have H2 := hid (H.out.below (below_drewN1 w t))
  have c1 := H2.out.c1
  go_wp2_with fail
  rw [hsw.out]
  refine (leave_any base b n _ v l _ H2.out hs.2).mono ?_
  rintro e w2 ⟨rfl, v', hd, hsv, hv⟩
  have HD := hid hd
  clear hd
  go_wp2
  go_end0
  exact ⟨rfl, v', HD.out, (Sav.of_below (below_drewN1 w t)).trans hsv, hv⟩

set_option maxHeartbeats 1000000 in
theorem cut_yes (base b n k : Nat) (v : Value) (l : List Int) (w : World) (h : Dk 42 base b v l n w) (hk : k ≤ l.length) :
    Calls Try.prog 17 #[.pointer (some ⟨b, 0, none⟩), .int .i64 k] w fun e w' => e = .returned (.bool true) ∧ ∃ v', Dk 42 base b v' (l.take k) k w' ∧ Sav (Just b) w w' ∧ v'.ownBlock = v.ownBlock := by
  have H := hid h
  obtain ⟨ao, c, rfl⟩ := owns_slice h.own
  have c0 := h.c0
  have hbit := h.bit
  have d0 : decide ((k : Int) < 0) = false := by simp
  have d1 : decide ((l.length : Int) < k) = false := by simp; omega
  clear h
  go_enter Try.func17, Try.ntmps17
  go_wp2_with fail
  refine (leave_any base b n k _ l _ H.out hk).mono ?_
  rintro e w2 ⟨rfl, v', hd, hsv, hv⟩
  have HD := hid hd
  have HS := hid hsv
  clear hd hsv c0
  go_wp2
  go_ret
  exact ⟨rfl, v', HD.out, HS.out, hv⟩

theorem cut_no (base b n : Nat) (k : Int) (v : Value) (l : List Int) (w : World) (h : Dk 42 base b v l n w) (hk : k < 0 ∨ (l.length : Int) < k) :
    Calls Try.prog 17 #[.pointer (some ⟨b, 0, none⟩), .int .i64 k] w fun e w' => e = .returned (.bool false) ∧ w = w' := by
  obtain ⟨ao, c, rfl⟩ := owns_slice h.own
  have c0 := h.c0
  have hbit := h.bit
  clear h
  by_cases h0 : k < 0
  · go_enter Try.func17, Try.ntmps17
    go_wp2
    go_ret
    exact ⟨rfl, rfl⟩
  · have h1 : (l.length : Int) < k := by omega
    go_enter Try.func17, Try.ntmps17
    go_wp2
    go_ret
    exact ⟨rfl, rfl⟩

/-! ### Of no disk -/
theorem append_nil (a : Value) (w : World) : Calls Try.prog 10 #[.pointer none, a] w fun e w' => e = .returned (.tuple #[]) ∧ w = w' := by
  go_enter Try.func10, Try.ntmps10
  go_wp2
  go_returns
  exact ⟨rfl, rfl⟩
theorem sync_nil (w : World) : Calls Try.prog 14 #[.pointer none] w fun e w' => e = .returned (.tuple #[]) ∧ w = w' := by
  go_enter Try.func14, Try.ntmps14
  go_wp2
  go_returns
  exact ⟨rfl, rfl⟩
theorem crash_nil (k : Int) (w : World) : Calls Try.prog 15 #[.pointer none, .int .i64 k] w fun e w' => e = .returned (.tuple #[]) ∧ w = w' := by
  go_enter Try.func15, Try.ntmps15
  go_wp2
  go_returns
  exact ⟨rfl, rfl⟩
theorem cut_nil (k : Int) (w : World) : Calls Try.prog 17 #[.pointer none, .int .i64 k] w fun e w' => e = .returned (.bool false) ∧ w = w' := by
  go_enter Try.func17, Try.ntmps17
  go_wp2
  go_ret
  exact ⟨rfl, rfl⟩
theorem bytes_nil (w : World) : Calls Try.prog 19 #[.pointer none] w fun e w' => e = .returned (.slice none 0 0) ∧ w = w' := by
  go_enter Try.func19, Try.ntmps19
  go_wp2
  go_ret
  exact ⟨rfl, rfl⟩
theorem synced_nil (w : World) : Calls Try.prog 21 #[.pointer none] w fun e w' => e = .returned (.int .i64 0) ∧ w = w' := by
  go_enter Try.func21, Try.ntmps21
  go_wp2
  go_ret
  exact ⟨rfl, rfl⟩
theorem unsynced_nil (w : World) : Calls Try.prog 22 #[.pointer none] w fun e w' => e = .returned (.int .i64 0) ∧ w = w' := by
  go_enter Try.func22, Try.ntmps22
  go_wp2
  go_ret
  exact ⟨rfl, rfl⟩
end Go.Proofs.Ytnbikfgbjfcenaa
