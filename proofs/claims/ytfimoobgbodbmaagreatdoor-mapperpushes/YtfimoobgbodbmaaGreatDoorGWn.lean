/- Laid together: WnMath AppAt WnOps WnAck WnOpen. -/
import Derived.Test.YtfimoobgbodbmaaGreatDoorGVm
import Derived.WalkKit
import Derived.Below
import Derived.OwnWalk
import Derived.Laws.AppendOwn
import Derived.Laws.AppendOwnNone
import Derived.Maps.AppendAt
import Derived.Test.YtfimoobgbodbmaaGreatDoorGSeq
import Derived.Test.YtfimoobgbodbmaaGreatDoorGJob
import Derived.RegionTactic
import Derived.BigRegion
import Derived.Deep.RegionHeld3
import Derived.Handy
import Derived.Test.YtfimoobgbodbmaaGreatDoorIntsSameP
/-! append of a slice, nil or not, onto what the call owns, and where the new slice lies; blocks told apart by their element type: nothing of the program is in it. -/
namespace Go.Proofs.YtfimoobgbodbmaaGreatDoor
open Go.RowKit
set_option linter.unusedVariables false
set_option maxRecDepth 100000

/-- append of a slice, nil or not, onto what the call owns: the new slice lies where the elder one lay, or in a block that is new. -/
theorem wpList_append_at_any {P : Program} (w : World) {ops : Array Oper} {rest : List Oper} {o : Oper} {a : Act} {Q : Exit → Act → World → Prop} (hgd : o.guard = none) (s x : Operand) (t : TypeId)
    (ho : o.op = .call { callee := .builtin .append, args := #[s, x], argTypes := #[t, t] })
    (base : Nat) (e : TypeId) (i : TypeInfo) (z : Value) (size bytes : Nat) (ht : P.underlying t = some (.slice e)) (hi : P.info? e = some i) (hz : i.zero = some z)
    (hsize : i.size = size) (hby : i.bytes = bytes) (hzs : z.cells.size = size) (hsz : 0 < size)
    (v : Value) (n : Nat) (xs : List Value) (hs : a.eval s = v) (hown : w.ownsRow base e size v n xs)
    (ao : Option Addr) (m c : Nat) (news : List Value) (hx : a.eval x = .slice ao m c) (hl : news.length = m * size) (hnone : ao = none → m = 0 ∧ c = 0)
    (hnews : ∀ ad, ao = some ad → ∀ j u, news[j]? = some u → w.cell? (ad.add j) = some u) (h1 : ∀ u ∈ news, u.oneCell' = true)
    (h63 : n + m ≤ maxLen) (hbytes : (n + m) * bytes ≤ 140737488355328) (hbase : base ≤ w.heap.size)
    (h : ∀ v' w', w'.ownsRow base e size v' (n + m) (xs ++ news) → w.grownBy w' v.ownBlock → (v'.ownBlock = v.ownBlock ∨ v'.ownBlock = some w.heap.size) → wpList P ops Q rest (a.put o.dst v') w') : wpList P ops Q (o :: rest) a w := by
  cases ao with
  | some ad => exact wpList_append_own_at w hgd s x t ho base e i z size bytes ht hi hz hsize hby hzs hsz v n xs hs hown ad m c news hx hl (hnews ad rfl) h1 h63 hbytes hbase (fun v' w' a1 a2 _ a3 => h v' w' a1 a2 a3)
  | none =>
    obtain ⟨rfl, rfl⟩ := hnone rfl
    have hnil : news = [] := List.eq_nil_of_length_eq_zero (by simpa using hl)
    subst hnil
    exact wpList_append_own_none hgd s x t ho base e i size ht hi v n xs hs hown hx (h v w (by simpa using hown) (World.grownBy.refl _ _) (.inl rfl))

theorem tag_ne {w : World} {a b : Nat} {c1 c2 : Array Value} {t1 t2 : TypeId} {r1 r2 : Nat × Nat} (ha : w.heap[a]? = some (.cells c1 t1 r1)) (hb : w.heap[b]? = some (.cells c2 t2 r2)) (h : t1 ≠ t2) : a ≠ b := by
  intro e
  subst e
  rw [ha] at hb
  simp at hb
  exact h hb.2.1
/-- What is owned lies in no block of another type. -/
theorem owns_ne {w : World} {base n a s : Nat} {e t : TypeId} {v : Value} {xs : List Value} {cs : Array Value} {r : Nat × Nat} (h : w.ownsRow base e s v n xs) (ha : w.heap[a]? = some (.cells cs t r)) (ht : t ≠ e) : some a ≠ v.ownBlock := by
  rcases h.2 with ⟨rfl, _⟩ | ⟨g, cap, cur, rfl, _, hg, _⟩
  · simp [Value.ownBlock]
  · intro e1
    simp only [Value.ownBlock, Option.some.injEq] at e1
    exact tag_ne ha hg ht e1
theorem grown_at {w w' : World} {base n a s : Nat} {e t : TypeId} {v : Value} {xs : List Value} {cs : Array Value} {r : Nat × Nat} (h : w.ownsRow base e s v n xs) (hg : w.grownBy w' v.ownBlock) (ha : w.heap[a]? = some (.cells cs t r)) (ht : t ≠ e) : w'.heap[a]? = some (.cells cs t r) :=
  (hg.block a (lt_of_block ha) (owns_ne h ha ht)).trans ha
theorem owns_low {w : World} {base base' e s n : Nat} {v : Value} {xs : List Value} (h : w.ownsRow base e s v n xs) (hb : base' ≤ base) : w.ownsRow base' e s v n xs := by
  refine ⟨h.1, ?_⟩
  rcases h.2 with h1 | ⟨g, cap, cur, h1, h2, r⟩
  · exact .inl h1
  · exact .inr ⟨g, cap, cur, h1, by omega, r⟩
theorem owns_slice {w : World} {v : Value} {base e s n : Nat} {xs : List Value} (h : w.ownsRow base e s v n xs) : ∃ ao c, v = .slice ao n c := by
  rcases h.2 with ⟨h1, rfl⟩ | ⟨g, cap, cur, h1, _⟩
  · exact ⟨_, _, h1⟩
  · exact ⟨_, _, h1⟩
/-- A grown row alone has turned. -/
theorem Sav.grown {S : Nat → Prop} {w w' : World} {row : Option Nat} (hg : w.grownBy w' row) (hs : ∀ k, row = some k → S k) : Sav S w w' :=
  ⟨hg.os, hg.tape, hg.output, hg.size, fun k hk hn => hg.block k hk (fun e => hn (hs k e.symm))⟩
theorem set_same {w : World} {b j : Nat} {cs : Array Value} {t : TypeId} {v : Value} (h : w.heap[b]? = some (.cells cs t (0, 0))) : (w.setCell ⟨b, j, none⟩ v).heap[b]? = some (.cells (cs.setIfInBounds j v) t (0, 0)) := heap_setCell_same w b j cs t v h
end Go.Proofs.YtfimoobgbodbmaaGreatDoor
/-! A window over chunks, as plain numbers: what is open, what an ack does. No program in this text. -/
namespace Go.Proofs.YtfimoobgbodbmaaGreatDoor
set_option linter.unusedVariables false
set_option maxRecDepth 100000

/-- How many chunks, how many may be on their way, the greatest epoch, which is wanted next. -/
structure WinV where
  count : Int
  size : Int
  epoch : Int
  next : Int
/-- Such as New answers, and acks leave. -/
structure WinOk (w : WinV) : Prop where
  c0 : 0 ≤ w.count
  c1 : w.count ≤ 40
  s0 : 1 ≤ w.size
  s1 : w.size ≤ 4
  e0 : 0 ≤ w.epoch
  n0 : 0 ≤ w.next
  n1 : w.next ≤ w.count
def mayW (count size : Int) : Bool := decide (0 ≤ count) && (decide (count ≤ 40) && (decide (1 ≤ size) && decide (size ≤ 4)))
def newW (count size : Int) : WinV := ⟨count, size, 0, 0⟩
theorem newW_ok {count size : Int} (h : mayW count size = true) : WinOk (newW count size) := by
  unfold mayW at h
  simp only [Bool.and_eq_true, decide_eq_true_eq] at h
  obtain ⟨h1, h2, h3, h4⟩ := h
  exact ⟨h1, h2, h3, h4, Int.le_refl _, Int.le_refl _, h1⟩
theorem mayW_no {count size : Int} (h : mayW count size = false) : count < 0 ∨ 40 < count ∨ size < 1 ∨ 4 < size := by
  unfold mayW at h
  simp only [Bool.and_eq_false_iff, decide_eq_false_iff_not] at h
  omega
/-- A place, from 0 to count. -/
def clipW (w : WinV) (n : Int) : Int := min (max n 0) w.count
theorem clipW_bd {w : WinV} (h : WinOk w) (n : Int) : 0 ≤ clipW w n ∧ clipW w n ≤ w.count := by
  have := h.c0
  unfold clipW
  omega
/-- Does an ack turn it? -/
def ackB (w : WinV) (e n : Int) : Bool := decide (1 ≤ e) && (decide (w.epoch < e) || (decide (w.epoch = e) && decide (w.next < clipW w n)))
/-- What it is then. -/
def ackW (w : WinV) (e n : Int) : WinV := if ackB w e n = true then { w with epoch := e, next := clipW w n } else w
theorem ackW_ok {w : WinV} (h : WinOk w) (e n : Int) : WinOk (ackW w e n) := by
  have hc := clipW_bd h n
  unfold ackW
  split
  · rename_i hb
    unfold ackB at hb
    simp only [Bool.and_eq_true, decide_eq_true_eq] at hb
    exact ⟨h.c0, h.c1, h.s0, h.s1, (by show 0 ≤ e; omega), hc.1, hc.2⟩
  · exact h
theorem ackW_count (w : WinV) (e n : Int) : (ackW w e n).count = w.count := by unfold ackW; split <;> rfl
theorem ackW_size (w : WinV) (e n : Int) : (ackW w e n).size = w.size := by unfold ackW; split <;> rfl
/-- Below its own epoch, or below 1. -/
theorem ackB_old {w : WinV} {e n : Int} (h : e < 1 ∨ e < w.epoch) : ackB w e n = false ∧ ackW w e n = w := by
  have hb : ackB w e n = false := by
    unfold ackB
    by_cases h1 : 1 ≤ e
    · have h2 : ¬ w.epoch < e := by omega
      have h3 : ¬ w.epoch = e := by omega
      simp [h2, h3]
    · simp [h1]
  exact ⟨hb, by unfold ackW; rw [hb]; rfl⟩
/-- Of a greater one. -/
theorem ackB_new {w : WinV} {e n : Int} (h : 1 ≤ e) (h2 : w.epoch < e) : ackB w e n = true ∧ ackW w e n = { w with epoch := e, next := clipW w n } := by
  have hb : ackB w e n = true := by unfold ackB; simp [h, h2]
  exact ⟨hb, by unfold ackW; rw [if_pos hb]⟩
/-- Of the same. -/
theorem ackB_same {w : WinV} {e n : Int} (h : 1 ≤ e) (h2 : w.epoch = e) : ackB w e n = decide (w.next < clipW w n) ∧ ackW w e n = (if w.next < clipW w n then { w with next := clipW w n } else w) := by
  have h3 : ¬ w.epoch < e := by omega
  have hb : ackB w e n = decide (w.next < clipW w n) := by unfold ackB; simp [h, h2]
  refine ⟨hb, ?_⟩
  unfold ackW
  rw [hb]
  by_cases hn : w.next < clipW w n
  · rw [if_pos (by simpa using hn), if_pos hn, ← h2]
  · rw [if_neg (by simpa using hn), if_neg hn]
/-- Neither falls: the epoch, and within one what is wanted. -/
theorem ackW_rises {w : WinV} (e n : Int) : w.epoch ≤ (ackW w e n).epoch ∧ ((ackW w e n).epoch = w.epoch → w.next ≤ (ackW w e n).next) := by
  unfold ackW
  split
  · rename_i hb
    unfold ackB at hb
    simp only [Bool.and_eq_true, Bool.or_eq_true, decide_eq_true_eq] at hb
    refine ⟨?_, fun he => ?_⟩
    · show w.epoch ≤ e
      omega
    · have he' : e = w.epoch := he
      show w.next ≤ clipW w n
      omega
  · exact ⟨Int.le_refl _, fun _ => Int.le_refl _⟩
/-- How many are open. -/
def openN (w : WinV) : Nat := (min w.size (w.count - w.next)).toNat
def openW (w : WinV) : List Int := (List.range (openN w)).map (fun (i : Nat) => w.next + (i : Int))
theorem openW_len (w : WinV) : (openW w).length = openN w := by simp [openW]
theorem openN_eq {w : WinV} (h : WinOk w) : ((openN w : Nat) : Int) = min w.size (w.count - w.next) := by
  have := h.n1
  have := h.s0
  unfold openN
  omega
theorem openN_le {w : WinV} (h : WinOk w) : openN w ≤ 4 := by
  have := openN_eq h
  have := h.s1
  omega
theorem openW_at {w : WinV} {i : Nat} (h : i < openN w) : (openW w)[i]? = some (w.next + (i : Int)) := by simp [openW, h]
/-- The first k, and one more. -/
theorem openW_take {w : WinV} {k : Nat} (h : k < openN w) : (openW w).take (k + 1) = (openW w).take k ++ [w.next + (k : Int)] := by
  obtain ⟨hk, e⟩ := List.getElem?_eq_some_iff.1 (openW_at h)
  rw [List.take_succ_eq_append_getElem hk, e]
/-- Is none wanted? -/
def doneW (w : WinV) : Bool := decide (w.count ≤ w.next)
theorem doneW_iff {w : WinV} (h : WinOk w) : doneW w = true ↔ openN w = 0 := by
  have := openN_eq h
  have := h.s0
  have := h.n1
  unfold doneW
  rw [decide_eq_true_eq]
  omega
end Go.Proofs.YtfimoobgbodbmaaGreatDoor
/-! A window in a block of its own: New, Next, Epoch, Done, of the program and of the document's own; calls of a nil one. -/
namespace Go.Proofs.YtfimoobgbodbmaaGreatDoor
open Go.RowKit
set_option linter.unusedVariables false
set_option maxRecDepth 100000

/-- Block b is a window, of the program (its type is T) or of the document's own. -/
def Wn (T b : Nat) (x : WinV) (w : World) : Prop := w.heap[b]? = some (.cells #[.int .i64 x.count, .int .i64 x.size, .int .i64 x.epoch, .int .i64 x.next] T (0, 0))
theorem Wn.lt {T b : Nat} {x : WinV} {w : World} (h : Wn T b x w) : b < w.heap.size := lt_of_block h
theorem Wn.sav {T b : Nat} {x : WinV} {w w' : World} {S : Nat → Prop} (h : Wn T b x w) (hs : Sav S w w') (hn : ¬ S b) : Wn T b x w' := hs.at h hn
theorem Wn.below {T b : Nat} {x : WinV} {w w' : World} (h : Wn T b x w) (hb : Below w.heap.size w w') : Wn T b x w' :=
  h.sav (Sav.of_below (S := Non) hb) (fun h => h)
theorem Wn.c0 {T b : Nat} {x : WinV} {w : World} (h : Wn T b x w) : w.cell? ⟨b, 0, none⟩ = some (.int .i64 x.count) := cell_of_cells h
theorem Wn.c1 {T b : Nat} {x : WinV} {w : World} (h : Wn T b x w) : w.cell? ⟨b, 1, none⟩ = some (.int .i64 x.size) := cell_of_cells h
theorem Wn.c2 {T b : Nat} {x : WinV} {w : World} (h : Wn T b x w) : w.cell? ⟨b, 2, none⟩ = some (.int .i64 x.epoch) := cell_of_cells h
theorem Wn.c3 {T b : Nat} {x : WinV} {w : World} (h : Wn T b x w) : w.cell? ⟨b, 3, none⟩ = some (.int .i64 x.next) := cell_of_cells h
theorem Wn.free {T b : Nat} {x : WinV} {w : World} (h : Wn T b x w) (j : Nat) : w.frozen? ⟨b, j, none⟩ = false := free_of_cells h
/-- The block of a new one. -/
def newWorld (T : Nat) (count size : Int) (w : World) : World := w.alloc (.cells #[.int .i64 count, .int .i64 size, .int .i64 0, .int .i64 0] T)
theorem Wn.new (T : Nat) (count size : Int) (w : World) : Wn T w.heap.size (newW count size) (newWorld T count size w) := new_block _ _
theorem below_new (T : Nat) (count size : Int) (w : World) : Below w.heap.size w (newWorld T count size w) := (Below.refl _ _).alloc (Nat.le_refl _) _
theorem size_new (T : Nat) (count size : Int) (w : World) : (newWorld T count size w).heap.size = w.heap.size + 1 := by simp [newWorld]
theorem below_drewNW (w : World) (t : Nat) : Below w.heap.size w (w.drewN t) := ⟨rfl, rfl, rfl, Nat.le_refl _, fun _ _ => rfl⟩

/-- What New answers in both programs. -/
def NewIs (T : Nat) (count size : Int) (w : World) (e : Ending) (w' : World) : Prop :=
  if mayW count size = true then e = .returned (.tuple #[.pointer (some ⟨w.heap.size, 0, none⟩), .int .i64 0]) ∧ w' = newWorld T count size w
  else e = .returned (.tuple #[.pointer none, .int .i64 2]) ∧ w' = w
set_option maxHeartbeats 1000000 in
theorem winNew_any (count size : Int) (w : World) : Calls Tryz.prog 115 #[.int .i64 count, .int .i64 size] w fun e w' => NewIs 125 count size w e w' := by
  cases hm : mayW count size with
  | true =>
    have HM := hid hm
    unfold mayW at hm
    simp only [Bool.and_eq_true, decide_eq_true_eq] at hm
    obtain ⟨h1, h2, h3, h4⟩ := hm
    have d1 : decide (count < 0) = false := by simp; omega
    have d2 : decide (40 < count) = false := by simp; omega
    have d3 : decide (size < 1) = false := by simp; omega
    have d4 : decide (4 < size) = false := by simp; omega
    go_enter Tryz.func115, Tryz.ntmps115
    go_wp2
    go_ret2
    unfold NewIs
    rw [if_pos HM.out]
    exact ⟨rfl, rfl⟩
  | false =>
    have HM := hid hm
    have hno := mayW_no hm
    clear hm
    by_cases h1 : count < 0
    · have d1 : decide (count < 0) = true := by simp; omega
      clear hno
      go_enter Tryz.func115, Tryz.ntmps115
      go_wp2
      go_ret2
      unfold NewIs
      rw [if_neg (by rw [HM.out]; decide)]
      exact ⟨rfl, rfl⟩
    · have d1 : decide (count < 0) = false := by simp; omega
      by_cases h2 : 40 < count
      · have d2 : decide (40 < count) = true := by simp; omega
        clear hno
        go_enter Tryz.func115, Tryz.ntmps115
        go_wp2
        go_ret2
        unfold NewIs
        rw [if_neg (by rw [HM.out]; decide)]
        exact ⟨rfl, rfl⟩
      · have d2 : decide (40 < count) = false := by simp; omega
        by_cases h3 : size < 1
        · have d3 : decide (size < 1) = true := by simp; omega
          clear hno
          go_enter Tryz.func115, Tryz.ntmps115
          go_wp2
          go_ret2
          unfold NewIs
          rw [if_neg (by rw [HM.out]; decide)]
          exact ⟨rfl, rfl⟩
        · have d3 : decide (size < 1) = false := by simp; omega
          have d4 : decide (4 < size) = true := by simp; omega
          clear hno
          go_enter Tryz.func115, Tryz.ntmps115
          go_wp2
          go_ret2
          unfold NewIs
          rw [if_neg (by rw [HM.out]; decide)]
          exact ⟨rfl, rfl⟩
set_option maxHeartbeats 1000000 in
theorem refNew_any (count size : Int) (w : World) : Calls Tryz.prog 41 #[.int .i64 count, .int .i64 size] w fun e w' => NewIs 101 count size w e w' := by
  cases hm : mayW count size with
  | true =>
    have HM := hid hm
    unfold mayW at hm
    simp only [Bool.and_eq_true, decide_eq_true_eq] at hm
    obtain ⟨h1, h2, h3, h4⟩ := hm
    have d1 : decide (count < 0) = false := by simp; omega
    have d2 : decide (40 < count) = false := by simp; omega
    have d3 : decide (size < 1) = false := by simp; omega
    have d4 : decide (4 < size) = false := by simp; omega
    go_enter Tryz.func41, Tryz.ntmps41
    go_wp2
    go_ret2
    unfold NewIs
    rw [if_pos HM.out]
    exact ⟨rfl, rfl⟩
  | false =>
    have HM := hid hm
    have hno := mayW_no hm
    clear hm
    by_cases h1 : count < 0
    · have d1 : decide (count < 0) = true := by simp; omega
      clear hno
      go_enter Tryz.func41, Tryz.ntmps41
      go_wp2
      go_ret2
      unfold NewIs
      rw [if_neg (by rw [HM.out]; decide)]
      exact ⟨rfl, rfl⟩
    · have d1 : decide (count < 0) = false := by simp; omega
      by_cases h2 : 40 < count
      · have d2 : decide (40 < count) = true := by simp; omega
        clear hno
        go_enter Tryz.func41, Tryz.ntmps41
        go_wp2
        go_ret2
        unfold NewIs
        rw [if_neg (by rw [HM.out]; decide)]
        exact ⟨rfl, rfl⟩
      · have d2 : decide (40 < count) = false := by simp; omega
        by_cases h3 : size < 1
        · have d3 : decide (size < 1) = true := by simp; omega
          clear hno
          go_enter Tryz.func41, Tryz.ntmps41
          go_wp2
          go_ret2
          unfold NewIs
          rw [if_neg (by rw [HM.out]; decide)]
          exact ⟨rfl, rfl⟩
        · have d3 : decide (size < 1) = false := by simp; omega
          have d4 : decide (4 < size) = true := by simp; omega
          clear hno
          go_enter Tryz.func41, Tryz.ntmps41
          go_wp2
          go_ret2
          unfold NewIs
          rw [if_neg (by rw [HM.out]; decide)]
          exact ⟨rfl, rfl⟩
theorem num_any (n : Int) (w : World) : Calls Tryz.prog 11 #[.int .i64 n] w fun e w' => e = .returned (.int .i64 n) ∧ w' = w := by
  go_enter Tryz.func11, Tryz.ntmps11
  go_wp2
  go_ret
  exact ⟨rfl, rfl⟩

set_option maxHeartbeats 1000000 in
theorem done_any (b : Nat) (x : WinV) (w : World) (h : Wn 125 b x w) (hx : WinOk x) :
    Calls Tryz.prog 50 #[.pointer (some ⟨b, 0, none⟩)] w fun e w' => e = .returned (.bool (doneW x)) ∧ ∃ t, w' = w.drewN t := by
  have c0 := h.c0
  have c3 := h.c3
  have hd : (x.next == x.count) = doneW x := by
    have := hx.n1
    unfold doneW
    rw [Bool.eq_iff_iff, beq_iff_eq, decide_eq_true_eq]
    omega
  have HD := hid hd
  clear h hx hd
  generalize x.next = n at *
  generalize x.count = c at *
  go_enter Tryz.func50, Tryz.ntmps50
  go_wp2_with fail
  go_quiet (fail)
  go_wp2
  go_ret
  exact ⟨by rw [← HD.out]; rfl, _, rfl⟩
set_option maxHeartbeats 1000000 in
theorem refDone_any (b : Nat) (x : WinV) (w : World) (h : Wn 101 b x w) :
    Calls Tryz.prog 51 #[.pointer (some ⟨b, 0, none⟩)] w fun e w' => e = .returned (.bool (doneW x)) ∧ ∃ t, w' = w.drewN t := by
  have c0 := h.c0
  have c3 := h.c3
  have HD := hid (show decide (x.count ≤ x.next) = doneW x from rfl)
  clear h
  generalize x.next = n at *
  generalize x.count = c at *
  go_enter Tryz.func51, Tryz.ntmps51
  go_wp2_with fail
  go_quiet (fail)
  go_wp2
  go_ret
  exact ⟨by rw [← HD.out]; rfl, _, rfl⟩

theorem open_nil (w : World) : Calls Tryz.prog 46 #[.pointer none] w fun e w' => e = .returned (.slice none 0 0) ∧ w' = w := by
  go_enter Tryz.func46, Tryz.ntmps46
  go_wp2
  go_ret
  exact ⟨rfl, rfl⟩
theorem ack_nil (e n : Int) (w : World) : Calls Tryz.prog 54 #[.pointer none, .int .i64 e, .int .i64 n] w fun e w' => e = .returned (.bool false) ∧ w' = w := by
  go_enter Tryz.func54, Tryz.ntmps54
  go_wp2
  go_ret
  exact ⟨rfl, rfl⟩
theorem done_nil (w : World) : Calls Tryz.prog 50 #[.pointer none] w fun e w' => e = .returned (.bool false) ∧ ∃ t, w' = w.drewN t := by
  go_enter Tryz.func50, Tryz.ntmps50
  go_wp2_with fail
  go_quiet (fail)
  go_wp2
  go_ret
  exact ⟨rfl, _, rfl⟩
end Go.Proofs.YtfimoobgbodbmaaGreatDoor
/-! Ack of a window, of the program and of the document's own. -/
namespace Go.Proofs.YtfimoobgbodbmaaGreatDoor
open Go.RowKit
set_option linter.unusedVariables false
set_option maxRecDepth 100000
/-- How a walk spells it. -/
theorem clip_is (x : WinV) (n : Int) : ∃ m k : Int, (if n < 0 then (0 : Int) else n) = m ∧ (if x.count < m then x.count else m) = k ∧ clipW x n = k ∧ max n 0 = m ∧ max 0 n = m ∧ min m x.count = k ∧ min x.count m = k := by
  refine ⟨_, _, rfl, rfl, ?_, ?_, ?_, ?_, ?_⟩
  · unfold clipW
    split <;> split <;> omega
  all_goals
    (repeat' split) <;> omega
/-- Its block, turned. -/
theorem Wn.turn {T b : Nat} {x : WinV} {w : World} (h : Wn T b x w) (e n : Int) : Wn T b { x with epoch := e, next := n } ((w.setCell ⟨b, 2, none⟩ (.int .i64 e)).setCell ⟨b, 3, none⟩ (.int .i64 n)) := set_same (set_same h)
theorem Wn.turn1 {T b : Nat} {x : WinV} {w : World} (h : Wn T b x w) (n : Int) : Wn T b { x with next := n } (w.setCell ⟨b, 3, none⟩ (.int .i64 n)) := set_same h
set_option maxHeartbeats 2000000 in
theorem ack_any (b : Nat) (x : WinV) (e n : Int) (w : World) (h : Wn 125 b x w) (hx : WinOk x) :
    Calls Tryz.prog 54 #[.pointer (some ⟨b, 0, none⟩), .int .i64 e, .int .i64 n] w fun r w' => r = .returned (.bool (ackB x e n)) ∧ Wn 125 b (ackW x e n) w' ∧ Sav (Just b) w w' := by
  have H := hid h
  have c0 := h.c0
  have c2 := h.c2
  have c3 := h.c3
  have f2 := h.free 2
  have f3 := h.free 3
  obtain ⟨m, k, hm, hk, hc, hm2, hm3, hk2, hk3⟩ := clip_is x n
  have HC := hid hc
  clear h hc
  by_cases h1 : e < 1
  · have HB := hid (ackB_old (w := x) (e := e) (n := n) (.inl h1))
    have d1 : decide (e < 1) = true := by simp; omega
    clear h1 hx
    go_enter Tryz.func54, Tryz.ntmps54
    go_wp2
    go_ret
    rw [HB.out.1, HB.out.2]
    exact ⟨rfl, H.out, Sav.refl _ _⟩
  · have d1 : decide (e < 1) = false := by simp; omega
    by_cases h2 : e < x.epoch
    · have HB := hid (ackB_old (w := x) (e := e) (n := n) (.inr h2))
      have d2 : decide (e < x.epoch) = true := by simp; omega
      clear h1 h2 hx
      go_enter Tryz.func54, Tryz.ntmps54
      go_wp2
      go_ret
      rw [HB.out.1, HB.out.2]
      exact ⟨rfl, H.out, Sav.refl _ _⟩
    · have d2 : decide (e < x.epoch) = false := by simp; omega
      by_cases h3 : e = x.epoch
      · have HB := hid (ackB_same (w := x) (e := e) (n := n) (by omega) h3.symm)
        rw [HC.out] at HB
        have d3 : (e == x.epoch) = true := by simpa using h3
        have d5 : decide (x.epoch < e) = false := by simp; omega
        have HE := hid h3
        clear h1 h2 h3 hx
        by_cases h4 : x.next < k
        · have HB2 := hid (show ackB x e n = true ∧ ackW x e n = { x with next := k } from by have h5 := HB.out; rw [if_pos h4] at h5; exact ⟨h5.1.trans (by simpa using h4), h5.2⟩)
          have d4 : decide (k ≤ x.next) = false := by simp; omega
          clear h4
          go_enter Tryz.func54, Tryz.ntmps54
          go_wp2
          go_ret
          rw [HB2.out.1, HB2.out.2]
          refine ⟨rfl, ?_, ((Sav.refl _ _).setCell (just b) 2 _).setCell (just b) 3 _⟩
          have := H.out.turn e k
          rw [HE.out] at this ⊢
          exact this
        · have HB2 := hid (show ackB x e n = false ∧ ackW x e n = x from by have h5 := HB.out; rw [if_neg h4] at h5; exact ⟨h5.1.trans (by simpa using h4), h5.2⟩)
          have d4 : decide (k ≤ x.next) = true := by simp; omega
          clear h4
          go_enter Tryz.func54, Tryz.ntmps54
          go_wp2
          go_ret
          rw [HB2.out.1, HB2.out.2]
          exact ⟨rfl, H.out, Sav.refl _ _⟩
      · have HB := hid (ackB_new (w := x) (e := e) (n := n) (by omega) (by omega))
        rw [HC.out] at HB
        have d3 : (e == x.epoch) = false := by simpa using h3
        have d5 : decide (x.epoch < e) = true := by simp; omega
        clear h1 h2 h3 hx
        go_enter Tryz.func54, Tryz.ntmps54
        go_wp2
        go_ret
        rw [HB.out.1, HB.out.2]
        exact ⟨rfl, H.out.turn e k, ((Sav.refl _ _).setCell (just b) 2 _).setCell (just b) 3 _⟩
set_option maxHeartbeats 2000000 in
theorem refAck_any (b : Nat) (x : WinV) (e n : Int) (w : World) (h : Wn 101 b x w) (hx : WinOk x) :
    Calls Tryz.prog 55 #[.pointer (some ⟨b, 0, none⟩), .int .i64 e, .int .i64 n] w fun r w' => r = .returned (.bool (ackB x e n)) ∧ Wn 101 b (ackW x e n) w' ∧ Sav (Just b) w w' := by
  have H := hid h
  have c0 := h.c0
  have c2 := h.c2
  have c3 := h.c3
  have f2 := h.free 2
  have f3 := h.free 3
  obtain ⟨m, k, hm, hk, hc, hm2, hm3, hk2, hk3⟩ := clip_is x n
  have HC := hid hc
  clear h hc
  by_cases h1 : e < 1
  · have HB := hid (ackB_old (w := x) (e := e) (n := n) (.inl h1))
    have d1 : decide (e < 1) = true := by simp; omega
    clear h1 hx
    go_enter Tryz.func55, Tryz.ntmps55
    go_wp2
    go_ret
    rw [HB.out.1, HB.out.2]
    exact ⟨rfl, H.out, Sav.refl _ _⟩
  · have d1 : decide (e < 1) = false := by simp; omega
    by_cases h2 : e < x.epoch
    · have HB := hid (ackB_old (w := x) (e := e) (n := n) (.inr h2))
      have d2 : decide (e < x.epoch) = true := by simp; omega
      clear h1 h2 hx
      go_enter Tryz.func55, Tryz.ntmps55
      go_wp2
      go_ret
      rw [HB.out.1, HB.out.2]
      exact ⟨rfl, H.out, Sav.refl _ _⟩
    · have d2 : decide (e < x.epoch) = false := by simp; omega
      by_cases h3 : e = x.epoch
      · have HB := hid (ackB_same (w := x) (e := e) (n := n) (by omega) h3.symm)
        rw [HC.out] at HB
        have d3 : (e == x.epoch) = true := by simpa using h3
        have d5 : decide (x.epoch < e) = false := by simp; omega
        have HE := hid h3
        clear h1 h2 h3 hx
        by_cases h4 : x.next < k
        · have HB2 := hid (show ackB x e n = true ∧ ackW x e n = { x with next := k } from by have h5 := HB.out; rw [if_pos h4] at h5; exact ⟨h5.1.trans (by simpa using h4), h5.2⟩)
          have d4 : decide (k ≤ x.next) = false := by simp; omega
          clear h4
          go_enter Tryz.func55, Tryz.ntmps55
          go_wp2
          go_ret
          rw [HB2.out.1, HB2.out.2]
          exact ⟨rfl, H.out.turn1 k, (Sav.refl _ _).setCell (just b) 3 _⟩
        · have HB2 := hid (show ackB x e n = false ∧ ackW x e n = x from by have h5 := HB.out; rw [if_neg h4] at h5; exact ⟨h5.1.trans (by simpa using h4), h5.2⟩)
          have d4 : decide (k ≤ x.next) = true := by simp; omega
          clear h4
          go_enter Tryz.func55, Tryz.ntmps55
          go_wp2
          go_ret
          rw [HB2.out.1, HB2.out.2]
          exact ⟨rfl, H.out, Sav.refl _ _⟩
      · have HB := hid (ackB_new (w := x) (e := e) (n := n) (by omega) (by omega))
        rw [HC.out] at HB
        have d3 : (e == x.epoch) = false := by simpa using h3
        have d5 : decide (x.epoch < e) = true := by simp; omega
        clear h1 h2 h3 hx
        go_enter Tryz.func55, Tryz.ntmps55
        go_wp2
        go_ret
        rw [HB.out.1, HB.out.2]
        exact ⟨rfl, H.out.turn e k, ((Sav.refl _ _).setCell (just b) 2 _).setCell (just b) 3 _⟩
end Go.Proofs.YtfimoobgbodbmaaGreatDoor
/-! Open of a window, of the program and of the document's own; SameInts and OverInts of what may be nil. -/
namespace Go.Proofs.YtfimoobgbodbmaaGreatDoor
open Go.RowKit
set_option linter.unusedVariables false
set_option maxRecDepth 100000

/-- What the call owns, nil or not, reads as it must. -/
theorem Is.owned {w : World} {base n : Nat} {v : Value} {l : List Int} (h : w.ownsRow base 3 1 v n (ict l)) : Is w v l := by
  rcases h.2 with ⟨rfl, rfl⟩ | ⟨g, cap, cur, rfl, _⟩
  · have hl := h.1
    rw [ict_length] at hl
    obtain rfl : l = [] := List.eq_nil_of_length_eq_zero (by omega)
    exact ⟨none, 0, rfl, Nat.le_refl _, by unfold maxLen; omega, fun _ => ⟨rfl, rfl⟩, fun e => absurd rfl e⟩
  · exact Is.own h
theorem overInts_nil (w : World) : Calls Tryz.prog 21 #[.slice none 0 0] w fun e w' => e = .returned (.tuple #[]) ∧ w.grownBy w' none := by
  obtain ⟨i0, hi, hz0, hz1, hz2⟩ := info_parts Tryz.info3
  go_enter Tryz.func21, Tryz.ntmps21
  go_wp2
  go_loop [2] (fun i => i = .int .i64 0) (fun _ => 0)
  case atStart => rfl
  case round =>
    subst hrel
    go_wp2_with (at_builtin; refine wpList_append_own _ rfl _ _ 24 rfl w.heap.size 3 i0 (.int .i64 0) 1 8 Tryz.underlying24 hi hz0 hz1 hz2 rfl (by decide) _ 0 [] rfl ((World.ownsRow_nil _ _ _ _).alloc _) ⟨w.heap.size, 0, none⟩ 1 1 [.int .i64 (-999)] rfl rfl (cell_one_new _ _ _) (by intro u hu; simp at hu; subst hu; rfl) (by unfold maxLen; omega) (by omega) (by simp) ?_; intro v1 w1 ho1 hg1 _)
    go_end0
    exact ⟨rfl, grown_trans (grown_alloc _ _ _) hg1⟩
theorem overInts_own (n base : Nat) (v : Value) (xs : List Value) (w : World) (ho : w.ownsRow base 3 1 v n xs) (hb : base ≤ w.heap.size) (hn : n ≤ 1000000) :
    Calls Tryz.prog 21 #[v] w fun e w' => e = .returned (.tuple #[]) ∧ w.grownBy w' v.ownBlock := by
  rcases ho.2 with ⟨rfl, rfl⟩ | ⟨g, cap, cur, rfl, _⟩
  · exact overInts_nil w
  · exact overInts_any g n cap base xs w ho hb (by omega)

/-- What Open answers: a list of its own. -/
def OpenIs (x : WinV) (w : World) (e : Ending) (w' : World) : Prop :=
  ∃ ao c, e = .returned (.slice ao (openN x) c) ∧ w'.ownsRow w.heap.size 3 1 (.slice ao (openN x) c) (openN x) (ict (openW x)) ∧ Below w.heap.size w w'
theorem openIs_of {x : WinV} {w w' : World} {v : Value} (ho : w'.ownsRow w.heap.size 3 1 v (openN x) (ict (openW x))) (hb : Below w.heap.size w w') : OpenIs x w (.returned v) w' := by
  rcases ho.2 with ⟨rfl, e⟩ | ⟨g, cap, cur, rfl, _⟩
  · have ho' := ho
    rw [e] at ho'
    exact ⟨none, 0, by rw [e], by rw [e]; exact ho', hb⟩
  · exact ⟨_, _, rfl, ho, hb⟩
set_option maxHeartbeats 4000000 in
theorem open_any (b : Nat) (x : WinV) (w : World) (h : Wn 125 b x w) (hx : WinOk x) :
    Calls Tryz.prog 46 #[.pointer (some ⟨b, 0, none⟩)] w fun e w' => OpenIs x w e w' := by
  obtain ⟨i0, hi, hz0, hz1, hz2⟩ := info_parts Tryz.info3
  have H := hid h
  have HX := hid hx
  have c0 := h.c0
  have c1 := h.c1
  have c3 := h.c3
  have hlt := h.lt
  have hN := openN_eq hx
  have hN4 := openN_le hx
  have hc0 := hx.c0
  have hc1 := hx.c1
  have hn0 := hx.n0
  have hn1 := hx.n1
  clear h hx
  obtain ⟨c, hc⟩ : ∃ c, x.count = c := ⟨_, rfl⟩
  obtain ⟨s, hs⟩ : ∃ s, x.size = s := ⟨_, rfl⟩
  obtain ⟨n, hn⟩ : ∃ n, x.next = n := ⟨_, rfl⟩
  obtain ⟨N, hNN⟩ : ∃ N, openN x = N := ⟨_, rfl⟩
  rw [hc] at c0 hN hc0 hc1 hn1
  rw [hs] at c1 hN
  rw [hn] at c3 hN hn0 hn1
  rw [hNN] at hN hN4
  have HN := hid hNN
  have HNX := hid hn
  have hsub : IntKind.i64.wrap (c - n) = c - n := by rw [IntKind.wrap_i64]; omega
  have hmin : (if c - n < s then c - n else s) = (N : Int) := by split <;> omega
  clear hc hs hn hNN hN
  go_enter Tryz.func46, Tryz.ntmps46
  go_wp2_with fail
  go_quiet (fail)
  go_wp2
  go_loopw [3, 4, 21] (fun u i j wr => ∃ k : Nat, j = .int .i64 k ∧ k ≤ N ∧ wr.ownsRow w.heap.size 3 1 u k (ict ((openW x).take k)) ∧ Below w.heap.size w wr) (fun _ _ j _ => N - (intOf j).toNat)
  case atStart => exact ⟨0, rfl, by omega, World.ownsRow_nil _ _ _ _, below_drewNW _ _⟩
  case round =>
    obtain ⟨k, rfl, hk, ho, hb⟩ := hrel
    have hw3 := hid (H.out.below hb)
    have c3' := hw3.out.c3
    rw [HNX.out] at c3'
    have hsz := hb.size
    have HB := hid hb
    clear hb c0 c1 c3
    by_cases hlt2 : k < N
    · have d1 : decide ((k : Int) < (N : Int)) = true := by simp; omega
      have hadd : IntKind.i64.wrap (n + (k : Int)) = n + (k : Int) := by rw [IntKind.wrap_i64]; omega
      have ho4 := ho.alloc (.cells #[.int .i64 (n + (k : Int))] 3)
      have hb4 : w.heap.size ≤ (wr.alloc (.cells #[.int .i64 (n + (k : Int))] 3)).heap.size := by simp; omega
      have HB4 := hid (HB.out.trans (((Below.refl _ wr).alloc (Nat.le_refl _) (.cells #[.int .i64 (n + (k : Int))] 3)).mono hsz))
      have HO := hid ho
      obtain ⟨ao, cc, rfl⟩ := owns_slice ho
      clear ho
      go_wp2_with (at_builtin; refine wpList_append_own _ rfl _ _ 24 rfl w.heap.size 3 i0 (.int .i64 0) 1 8 Tryz.underlying24 hi hz0 hz1 hz2 rfl (by decide) _ k (ict ((openW x).take k)) rfl ho4 ⟨wr.heap.size, 0, none⟩ 1 1 [.int .i64 (n + (k : Int))] rfl rfl (cell_one_new _ _ _) (by intro u hu; simp at hu; subst hu; rfl) (by unfold maxLen; omega) (by omega) hb4 ?_; intro v5 w5 ho5 hg5 _)
      have HO5 := hid (show w5.ownsRow w.heap.size 3 1 v5 (k + 1) (ict ((openW x).take (k + 1))) from by rw [openW_take (by rw [HN.out]; exact hlt2), ict_append, HNX.out]; exact ho5)
      have HB5 := hid (HB4.out.grown hg5 HB4.out.size (fun q hq => (ho4.lt q hq).1))
      clear ho5 hg5 ho4
      go_wp2
      go_roundw
      case rel => exact ⟨k + 1, by go_num, by omega, HO5.out, HB5.out⟩
      case measure => simp [intOf]; omega
    · obtain rfl : k = N := by omega
      have d1 : decide ((k : Int) < (k : Int)) = false := by simp
      have HO := hid (show wr.ownsRow w.heap.size 3 1 u3 (openN x) (ict (openW x)) from by rw [HN.out]; have h5 := ho; rw [List.take_of_length_le (by rw [openW_len, HN.out]; omega)] at h5; exact h5)
      clear ho
      go_wp2
      go_ret
      exact openIs_of HO.out HB.out
set_option maxHeartbeats 4000000 in
theorem refOpen_any (b : Nat) (x : WinV) (w : World) (h : Wn 101 b x w) (hx : WinOk x) :
    Calls Tryz.prog 49 #[.pointer (some ⟨b, 0, none⟩)] w fun e w' => OpenIs x w e w' := by
  obtain ⟨i0, hi, hz0, hz1, hz2⟩ := info_parts Tryz.info3
  have H := hid h
  have c0 := h.c0
  have c1 := h.c1
  have c3 := h.c3
  have hlt := h.lt
  have hN := openN_eq hx
  have hN4 := openN_le hx
  have hc0 := hx.c0
  have hc1 := hx.c1
  have hn0 := hx.n0
  have hn1 := hx.n1
  clear h hx
  obtain ⟨c, hc⟩ : ∃ c, x.count = c := ⟨_, rfl⟩
  obtain ⟨s, hs⟩ : ∃ s, x.size = s := ⟨_, rfl⟩
  obtain ⟨n, hn⟩ : ∃ n, x.next = n := ⟨_, rfl⟩
  obtain ⟨N, hNN⟩ : ∃ N, openN x = N := ⟨_, rfl⟩
  rw [hc] at c0 hN hc0 hc1 hn1
  rw [hs] at c1 hN
  rw [hn] at c3 hN hn0 hn1
  rw [hNN] at hN hN4
  have HN := hid hNN
  have HNX := hid hn
  have HCX := hid hc
  have HSX := hid hs
  have HNE := hid hN
  clear hc hs hn hNN
  go_enter Tryz.func49, Tryz.ntmps49
  go_wp2
  go_loopw [3, 4] (fun u i wr => ∃ k : Nat, i = .int .i64 (n + (k : Int)) ∧ k ≤ N ∧ wr.ownsRow w.heap.size 3 1 u k (ict ((openW x).take k)) ∧ Below w.heap.size w wr) (fun _ i _ => N - (intOf i - n).toNat)
  case atStart => exact ⟨0, by simp, by omega, World.ownsRow_nil _ _ _ _, Below.refl _ _⟩
  case round =>
    obtain ⟨k, rfl, hk, ho, hb⟩ := hrel
    have hw3 := hid (H.out.below hb)
    have c0' := hw3.out.c0
    have c1' := hw3.out.c1
    rw [HCX.out] at c0'
    rw [HSX.out] at c1'
    have hsz := hb.size
    have HB := hid hb
    clear hb c0 c1 c3
    obtain ⟨ao, cc, rfl⟩ := owns_slice ho
    by_cases hlt2 : k < N
    · have d1 : decide (n + (k : Int) < c) = true := by simp; omega
      have d2 : decide ((k : Int) < s) = true := by simp; omega
      have hadd : IntKind.i64.wrap (n + (k : Int) + 1) = n + (k : Int) + 1 := by rw [IntKind.wrap_i64]; omega
      have ho4 := ho.alloc (.cells #[.int .i64 (n + (k : Int))] 3)
      have hb4 : w.heap.size ≤ (wr.alloc (.cells #[.int .i64 (n + (k : Int))] 3)).heap.size := by simp; omega
      have HB4 := hid (HB.out.trans (((Below.refl _ wr).alloc (Nat.le_refl _) (.cells #[.int .i64 (n + (k : Int))] 3)).mono hsz))
      have HO := hid ho
      clear ho hN
      go_wp2_with (at_builtin; refine wpList_append_own _ rfl _ _ 24 rfl w.heap.size 3 i0 (.int .i64 0) 1 8 Tryz.underlying24 hi hz0 hz1 hz2 rfl (by decide) _ k (ict ((openW x).take k)) rfl ho4 ⟨wr.heap.size, 0, none⟩ 1 1 [.int .i64 (n + (k : Int))] rfl rfl (cell_one_new _ _ _) (by intro u hu; simp at hu; subst hu; rfl) (by unfold maxLen; omega) (by omega) hb4 ?_; intro v5 w5 ho5 hg5 _)
      have HO5 := hid (show w5.ownsRow w.heap.size 3 1 v5 (k + 1) (ict ((openW x).take (k + 1))) from by rw [openW_take (by rw [HN.out]; exact hlt2), ict_append, HNX.out]; exact ho5)
      have HB5 := hid (HB4.out.grown hg5 HB4.out.size (fun q hq => (ho4.lt q hq).1))
      clear ho5 hg5 ho4
      go_wp2
      go_roundw
      case rel => exact ⟨k + 1, by congr 1; omega, by omega, HO5.out, HB5.out⟩
      case measure => simp [intOf]; omega
    · obtain rfl : k = N := by omega
      have HO := hid (show wr.ownsRow w.heap.size 3 1 (.slice ao k cc) (openN x) (ict (openW x)) from by rw [HN.out]; have h5 := ho; rw [List.take_of_length_le (by rw [openW_len, HN.out]; omega)] at h5; exact h5)
      clear ho
      by_cases h8 : n + (k : Int) < c
      · have d1 : decide (n + (k : Int) < c) = true := by simpa using h8
        have d2 : decide ((k : Int) < s) = false := by simp; omega
        clear hN h8
        go_wp2
        go_ret
        exact openIs_of HO.out HB.out
      · have d1 : decide (n + (k : Int) < c) = false := by simpa using h8
        clear hN h8
        go_wp2
        go_ret
        exact openIs_of HO.out HB.out
end Go.Proofs.YtfimoobgbodbmaaGreatDoor
