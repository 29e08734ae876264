/- Laid together: TTexts TPairs TOver SSame. -/
import Derived.Test.YtfimoobgbodbmaaGreatDoorProg
import Derived.Test.YtfimoobgbodbmaaGreatDoorGSeq
import Derived.WalkSpells
import Derived.WalkLawsBesides
import Derived.Deep.QuietTactic
import Derived.BigQuiet
import Derived.Laws.StructEq
import Derived.Maps.AppendAt
import Derived.Test.YtfimoobgbodbmaaGreatDoorGPlain
/-! Slices of texts: GreatTexts, LendTexts, SameTexts, KeptTexts. -/
namespace Go.Proofs.YtfimoobgbodbmaaGreatDoor
open Go.RowKit
set_option linter.unusedVariables false
set_option maxRecDepth 100000

def encT (s : ByteArray) : List Value := [.string s]
theorem encT_len : ∀ x, (encT x).length = 1 := fun _ => rfl
theorem encT_one : ∀ x, ∀ u ∈ encT x, u.oneCell' = true := by intro x u hu; simp [encT] at hu; subst hu; rfl
abbrev Txs (w : World) (v : Value) (l : List ByteArray) : Prop := Reads 1 encT w v l
theorem Txs.cell {w : World} {ao : Option Addr} {m cap : Nat} {l : List ByteArray} (h : Txs w (.slice ao m cap) l) {j : Nat} (hj : j < l.length) : ∃ b off, ao = some ⟨b, off, none⟩ ∧ b < w.heap.size ∧ w.cell? ⟨b, off + j, none⟩ = some (.string l[j]) := by
  obtain ⟨b, off, e, hlt, hc⟩ := h.cells hj
  have := hc 0 _ rfl
  rw [Nat.mul_one, Nat.add_zero] at this
  exact ⟨b, off, e, hlt, this⟩
theorem Tryz.infoT : (Tryz.prog.info? 9).map (fun i => (i.zero, i.size, i.bytes)) = some (some (.string ⟨#[]⟩), 1, 16) := by kernel_rfl

/-- Are they great? If they are not, there are at most so many, each of at most 100 bytes. -/
def GreatT (l : List ByteArray) (n : Nat) (e : Ending) : Prop := ∃ g, e = .returned (.bool g) ∧ (g = false → l.length ≤ n)
def lent : ByteArray := ⟨#[108, 101, 110, 116]⟩
end Go.Proofs.YtfimoobgbodbmaaGreatDoor
/-! Slices of pairs: SamePairs, OverPairs. -/
namespace Go.Proofs.YtfimoobgbodbmaaGreatDoor
open Go.RowKit
set_option linter.unusedVariables false
set_option maxRecDepth 100000

abbrev prV (p : ByteArray × ByteArray) : Value := .agg #[.string p.1, .string p.2]
def encP (p : ByteArray × ByteArray) : List Value := [.string p.1, .string p.2]
theorem encP_len : ∀ x, (encP x).length = 2 := fun _ => rfl
theorem encP_one : ∀ x, ∀ u ∈ encP x, u.oneCell' = true := by intro x u hu; simp [encP] at hu; rcases hu with rfl | rfl <;> rfl
abbrev Prs (w : World) (v : Value) (l : List (ByteArray × ByteArray)) : Prop := Reads 2 encP w v l
theorem Prs.cell {w : World} {ao : Option Addr} {m cap : Nat} {l : List (ByteArray × ByteArray)} (h : Prs w (.slice ao m cap) l) {j : Nat} (hj : j < l.length) : ∃ b off, ao = some ⟨b, off, none⟩ ∧ b < w.heap.size ∧ w.cell? ⟨b, off + j * 2, none⟩ = some (.string l[j].1) ∧ w.cell? ⟨b, off + j * 2 + 1, none⟩ = some (.string l[j].2) := by
  obtain ⟨b, off, e, hlt, hc⟩ := h.cells hj
  exact ⟨b, off, e, hlt, hc 0 _ rfl, hc 1 _ rfl⟩
theorem Tryz.infoP : (Tryz.prog.info? 105).map (fun i => (i.zero, i.size, i.bytes)) = some (some (.agg #[.string ⟨#[]⟩, .string ⟨#[]⟩]), 2, 32) := by kernel_rfl
theorem pair_neq (x : ByteArray × ByteArray) (w : World) : (binOp .neq 105 (prV x) (prV x)).run Tryz.prog w = .ok (.bool false) w := by
  have u9 := Tryz.underlying9
  have a9 := Tryz.isAgg9
  have z9 := Tryz.sizeOf9
  have hS : Tryz.prog.underlying 105 = some (.struct (Tryz.prog.fieldsOf 105)) := by kernel_rfl
  have hp : Tryz.prog.stoodInHeld 105 = false := by kernel_rfl
  rw [run_neq_struct, show (10000 : Nat) = 9999 + 1 from rfl, run_equalIn_agg w 9999 105 _ _ hS hp]
  simp only [Program.fieldsOf, Tryz.underlying105]
  go_simp
theorem guard_pair : Tryz.prog.eqGuardType Tryz.prog.depth 105 = false := by kernel_rfl

set_option maxHeartbeats 1000000 in
/-- Two slices that read the same are the same. -/
theorem samePairs_any (a b : Value) (l : List (ByteArray × ByteArray)) (w : World) (ha : Prs w a l) (hb : Prs w b l) :
    Calls Tryz.prog 24 #[a, b] w fun e w' => e = .returned (.bool true) ∧ ∃ n, w' = w.drewN n := by
  have HA := hid ha
  have HB := hid hb
  obtain ⟨ao, ca, rfl, a1, a2, -, -⟩ := ha
  obtain ⟨bo, cb, rfl, b1, b2, -, -⟩ := hb
  unfold maxLen at a2 b2
  have hm := guard_pair
  go_enter Tryz.func24, Tryz.ntmps24
  go_wp2
  go_loopw [5] (fun i wr => ∃ k : Nat, k ≤ l.length ∧ i = .int .i64 k ∧ ∃ t, wr = w.drewN t) (fun i _ => l.length - (intOf i).toNat)
  case atStart => exact ⟨0, by omega, rfl, 0, rfl⟩
  case round =>
    obtain ⟨k, hk, rfl, t, rfl⟩ := hrel
    by_cases hlt : k < l.length
    · have hd5 : decide ((k : Int) < (l.length : Int)) = true := by simp; omega
      obtain ⟨p, po, rfl, hp, c0, c1⟩ := HA.out.cell hlt
      obtain ⟨q, qo, rfl, hq, d0, d1⟩ := HB.out.cell hlt
      generalize l[k] = x at c0 c1 d0 d1
      have hn := pair_neq x
      go_wp2
      go_quiet (fail)
      go_wp2
      go_roundw
      case rel => exact ⟨k + 1, by omega, by go_num, _, rfl⟩
      case measure => simp [intOf]; omega
    · obtain rfl : k = l.length := by omega
      have hd5 : decide ((l.length : Int) < (l.length : Int)) = false := by simp
      go_wp2
      go_ret
      exact ⟨rfl, _, rfl⟩

def overB : ByteArray := ⟨#[111, 118, 101, 114]⟩
theorem grownBy_trans {w w1 w2 : World} {r : Option Nat} (h : w.grownBy w1 r) (k : w1.grownBy w2 r) : w.grownBy w2 r :=
  ⟨k.os.trans h.os, k.tape.trans h.tape, k.output.trans h.output, Nat.le_trans h.size k.size, fun i hi hr => (k.block i (Nat.lt_of_lt_of_le hi h.size) hr).trans (h.block i hi hr)⟩
theorem grownBy_alloc (w : World) (o : Obj) (r : Option Nat) : w.grownBy (w.alloc o) r :=
  ⟨rfl, rfl, rfl, by simp, fun k hk _ => Below.heap_alloc _ _ _ hk⟩
theorem grownBy_drew (w : World) (r : Option Nat) : w.grownBy w.drew r := ⟨rfl, rfl, rfl, Nat.le_refl _, fun _ _ _ => rfl⟩
theorem below_drew1 (w : World) : Below w.heap.size w w.drew := ⟨rfl, rfl, rfl, Nat.le_refl _, fun _ _ => rfl⟩
theorem grownBy_drewN (w : World) (n : Nat) (r : Option Nat) : w.grownBy (w.drewN n) r := ⟨rfl, rfl, rfl, Nat.le_refl _, fun _ _ _ => rfl⟩
theorem grownBy_below {w w' : World} (h : Below w.heap.size w w') (r : Option Nat) : w.grownBy w' r := ⟨h.os, h.tape, h.output, h.size, fun k hk _ => h.block k hk⟩
theorem two_new (w : World) (x y : Value) (t : TypeId) : ∀ j u, [x, y][j]? = some u → (w.alloc (.cells #[x, y] t)).cell? ((⟨w.heap.size, 0, none⟩ : Addr).add j) = some u := by
  intro j u h
  have : j = 0 ∨ j = 1 := by
    have := (List.getElem?_eq_some_iff.1 h).1
    simp at this
    omega
  rcases this with rfl | rfl
  · simp at h
    subst h
    simp [go_sem, Addr.add]
  · simp at h
    subst h
    simp [go_sem, Addr.add]

set_option maxHeartbeats 1000000 in
/-- What is owned is written over: nothing below it turns. -/
theorem overPairs_own (n base : Nat) (v : Value) (xs : List Value) (w : World) (ho : w.ownsRow base 105 2 v n xs) (hb : base ≤ w.heap.size) (hn : n ≤ 1000) :
    Calls Tryz.prog 26 #[v] w fun e w' => e = .returned (.tuple #[]) ∧ Below base w w' := by
  obtain ⟨i0, hi, hz0, hz1, hz2⟩ := info_parts Tryz.infoP
  rcases ho.2 with ⟨rfl, rfl⟩ | ⟨g, cap, cur, rfl, hbase, hg, r⟩
  · go_enter Tryz.func26, Tryz.ntmps26
    go_wp2
    go_loop [2] (fun i => i = .int .i64 0) (fun _ => 0)
    case atStart => rfl
    case round =>
      subst hrel
      go_wp2_with (at_builtin; refine wpList_append_own _ rfl _ _ 51 rfl w.heap.size 105 i0 _ 2 32 Tryz.underlying51 hi hz0 hz1 hz2 rfl (by decide) _ 0 [] rfl ((World.ownsRow_nil _ _ _ _).alloc _) ⟨w.heap.size, 0, none⟩ 1 1 [.string overB, .string ⟨#[]⟩] rfl rfl (two_new _ _ _ _) (by intro u hu; simp at hu; rcases hu with rfl | rfl <;> rfl) (by unfold maxLen; omega) (by omega) (by simp) ?_; intro v1 w1 ho1 hg1 _)
      go_end0
      exact ⟨rfl, (((Below.refl _ w).alloc (Nat.le_refl _) _).grown hg1 (by simp) (by intro q hq; cases hq)).mono hb⟩
  · clear r hg
    go_enter Tryz.func26, Tryz.ntmps26
    go_wp2
    go_loopw [2] (fun i wr => ∃ k : Nat, k ≤ n ∧ i = .int .i64 k ∧ ∃ ys, wr.ownsRow base 105 2 (.slice (some ⟨g, 0, none⟩) n cap) n ys ∧ w.grownBy wr (some g)) (fun i _ => n - (intOf i).toNat)
    case atStart => exact ⟨0, by omega, rfl, xs, ho, World.grownBy.refl _ _⟩
    case round =>
      obtain ⟨k, hk, rfl, ys, hoy, hgr⟩ := hrel
      by_cases hlt : k < n
      · obtain ⟨x0, hx0⟩ := owns_cell hoy (j := k * 2) (by omega)
        obtain ⟨x1, hx1⟩ := owns_cell hoy (j := k * 2 + 1) (by omega)
        have hf0 := hoy.frozenAt (k * 2)
        have hf1 := hoy.frozenAt (k * 2 + 1)
        have s1 := hoy.stored (k * 2) (.string overB)
        have s2 := s1.1.stored (k * 2 + 1) (.string ⟨#[]⟩)
        have H1 := hid s2.1
        have H2 := hid (grownBy_trans hgr (grownBy_trans s1.2 s2.2))
        unfold overB at H1 H2
        clear s1 s2 hoy hgr
        go_wp2
        go_roundw
        case rel => exact ⟨k + 1, by omega, by go_num, _, H1.out, H2.out⟩
        case measure => simp [intOf]; omega
      · obtain rfl : k = n := by omega
        have hsz := hgr.size
        go_wp2_with (at_builtin; refine wpList_append_own _ rfl _ _ 51 rfl base 105 i0 _ 2 32 Tryz.underlying51 hi hz0 hz1 hz2 rfl (by decide) _ k _ rfl (hoy.alloc _) ⟨wr.heap.size, 0, none⟩ 1 1 [.string overB, .string ⟨#[]⟩] rfl rfl (two_new _ _ _ _) (by intro u hu; simp at hu; rcases hu with rfl | rfl <;> rfl) (by unfold maxLen; omega) (by omega) (by simp; omega) ?_; intro v1 w1 ho1 hg1 _)
        go_end0
        exact ⟨rfl, (Below.refl _ w).grown (grownBy_trans (grownBy_trans hgr (grownBy_alloc _ _ _)) hg1) hb (by intro q hq; cases hq; exact hbase)⟩
end Go.Proofs.YtfimoobgbodbmaaGreatDoor
/-! OverPairs: what is owned is written over, and nothing else turns. -/
namespace Go.Proofs.YtfimoobgbodbmaaGreatDoor
open Go.RowKit
set_option linter.unusedVariables false
set_option maxRecDepth 100000

theorem owns_grown_ne {w w' : World} {e s n base : Nat} {v : Value} {xs : List Value} {r : Option Nat} (h : w.ownsRow base e s v n xs) (hg : w.grownBy w' r) (hne : ∀ g, v.ownBlock = some g → r ≠ some g) : w'.ownsRow base e s v n xs := by
  refine ⟨h.1, ?_⟩
  rcases h.2 with h1 | ⟨g, cap, cur, rfl, hb, hh, q⟩
  · exact .inl h1
  · refine .inr ⟨g, cap, cur, rfl, hb, ?_, q⟩
    rw [hg.block g (Array.getElem?_eq_some_iff.1 hh).1 (fun e => hne g rfl e.symm)]
    exact hh
theorem owns_lt {w : World} {e s n base : Nat} {v : Value} {xs : List Value} (h : w.ownsRow base e s v n xs) {g : Nat} (hg : v.ownBlock = some g) : g < w.heap.size := by
  rcases h.2 with ⟨rfl, _⟩ | ⟨g', cap, cur, rfl, hb, hh, q⟩
  · cases hg
  · cases hg
    exact (Array.getElem?_eq_some_iff.1 hh).1
set_option maxHeartbeats 1000000 in
/-- What is owned is written over: nothing else turns. -/
theorem overPairs_grown (n base : Nat) (v : Value) (xs : List Value) (w : World) (ho : w.ownsRow base 105 2 v n xs) (hb : base ≤ w.heap.size) (hn : n ≤ 1000) :
    Calls Tryz.prog 26 #[v] w fun e w' => e = .returned (.tuple #[]) ∧ w.grownBy w' v.ownBlock := by
  obtain ⟨i0, hi, hz0, hz1, hz2⟩ := info_parts Tryz.infoP
  rcases ho.2 with ⟨rfl, rfl⟩ | ⟨g, cap, cur, rfl, hbase, hg, r⟩
  · go_enter Tryz.func26, Tryz.ntmps26
    go_wp2
    go_loop [2] (fun i => i = .int .i64 0) (fun _ => 0)
    case atStart => rfl
    case round =>
      subst hrel
      go_wp2_with (at_builtin; refine wpList_append_own _ rfl _ _ 51 rfl w.heap.size 105 i0 _ 2 32 Tryz.underlying51 hi hz0 hz1 hz2 rfl (by decide) _ 0 [] rfl ((World.ownsRow_nil _ _ _ _).alloc _) ⟨w.heap.size, 0, none⟩ 1 1 [.string overB, .string ⟨#[]⟩] rfl rfl (two_new _ _ _ _) (by intro u hu; simp at hu; rcases hu with rfl | rfl <;> rfl) (by unfold maxLen; omega) (by omega) (by simp) ?_; intro v1 w1 ho1 hg1 _)
      go_end0
      exact ⟨rfl, grownBy_trans (grownBy_alloc _ _ _) hg1⟩
  · clear r hg
    go_enter Tryz.func26, Tryz.ntmps26
    go_wp2
    go_loopw [2] (fun i wr => ∃ k : Nat, k ≤ n ∧ i = .int .i64 k ∧ ∃ ys, wr.ownsRow base 105 2 (.slice (some ⟨g, 0, none⟩) n cap) n ys ∧ w.grownBy wr (some g)) (fun i _ => n - (intOf i).toNat)
    case atStart => exact ⟨0, by omega, rfl, xs, ho, World.grownBy.refl _ _⟩
    case round =>
      obtain ⟨k, hk, rfl, ys, hoy, hgr⟩ := hrel
      by_cases hlt : k < n
      · obtain ⟨x0, hx0⟩ := owns_cell hoy (j := k * 2) (by omega)
        obtain ⟨x1, hx1⟩ := owns_cell hoy (j := k * 2 + 1) (by omega)
        have hf0 := hoy.frozenAt (k * 2)
        have hf1 := hoy.frozenAt (k * 2 + 1)
        have s1 := hoy.stored (k * 2) (.string overB)
        have s2 := s1.1.stored (k * 2 + 1) (.string ⟨#[]⟩)
        have H1 := hid s2.1
        have H2 := hid (grownBy_trans hgr (grownBy_trans s1.2 s2.2))
        unfold overB at H1 H2
        clear s1 s2 hoy hgr
        go_wp2
        go_roundw
        case rel => exact ⟨k + 1, by omega, by go_num, _, H1.out, H2.out⟩
        case measure => simp [intOf]; omega
      · obtain rfl : k = n := by omega
        have hsz := hgr.size
        go_wp2_with (at_builtin; refine wpList_append_own _ rfl _ _ 51 rfl base 105 i0 _ 2 32 Tryz.underlying51 hi hz0 hz1 hz2 rfl (by decide) _ k _ rfl (hoy.alloc _) ⟨wr.heap.size, 0, none⟩ 1 1 [.string overB, .string ⟨#[]⟩] rfl rfl (two_new _ _ _ _) (by intro u hu; simp at hu; rcases hu with rfl | rfl <;> rfl) (by unfold maxLen; omega) (by omega) (by simp; omega) ?_; intro v1 w1 ho1 hg1 _)
        go_end0
        exact ⟨rfl, grownBy_trans (grownBy_trans hgr (grownBy_alloc _ _ _)) hg1⟩
end Go.Proofs.YtfimoobgbodbmaaGreatDoor
/-! Lists of pairs and of texts held against each other: SamePairs, SameTexts, Same of the program and of the reference. -/
namespace Go.Proofs.YtfimoobgbodbmaaGreatDoor
open Go.RowKit
set_option linter.unusedVariables false
set_option maxRecDepth 100000

theorem bytes_inj {x y : ByteArray} (h : x.toList = y.toList) : x = y := by
  rw [ByteArray.toList_eq, ByteArray.toList_eq] at h
  cases x; cases y
  simp only [ByteArray.mk.injEq]
  exact Array.toList_inj.1 h
theorem pair_neq_ne (x y : ByteArray × ByteArray) (h : x ≠ y) (w : World) : (binOp .neq 105 (prV x) (prV y)).run Tryz.prog w = .ok (.bool true) w := by
  have u9 := Tryz.underlying9
  have a9 := Tryz.isAgg9
  have z9 := Tryz.sizeOf9
  have hS : Tryz.prog.underlying 105 = some (.struct (Tryz.prog.fieldsOf 105)) := by kernel_rfl
  have hp : Tryz.prog.stoodInHeld 105 = false := by kernel_rfl
  rw [run_neq_struct, show (10000 : Nat) = 9999 + 1 from rfl, run_equalIn_agg w 9999 105 _ _ hS hp]
  simp only [Program.fieldsOf, Tryz.underlying105]
  obtain ⟨x0, x1⟩ := x
  obtain ⟨y0, y1⟩ := y
  by_cases h0 : x0 = y0
  · subst h0
    have h1 : ¬ x1 = y1 := fun e => h (by rw [e])
    go_simp
    exact fun e => h1 (bytes_inj e)
  · go_simp
    exact fun e => absurd (bytes_inj e) h0
theorem take_same {α : Type} {l m : List α} {k : Nat} (h : l.take k = m.take k) (hl : l.length = m.length) (hk : k < l.length) (he : l[k]? = m[k]?) : l.take (k + 1) = m.take (k + 1) := by
  rw [List.take_succ_eq_append_getElem hk, List.take_succ_eq_append_getElem (by omega), h]
  rw [List.getElem?_eq_getElem hk, List.getElem?_eq_getElem (by omega)] at he
  rw [Option.some.inj he]
theorem take_less {α : Type} {l m : List α} {k : Nat} {x y : α} (hx : l[k]? = some x) (hy : m[k]? = some y) (h : x ≠ y) : ¬ l = m := by
  rintro rfl
  rw [hx] at hy
  exact h (Option.some.inj hy)
theorem Prs.cell? {w : World} {ao : Option Addr} {m cap : Nat} {l : List (ByteArray × ByteArray)} (h : Prs w (.slice ao m cap) l) {j : Nat} (hj : j < l.length) : ∃ b off x, l[j]? = some x ∧ ao = some ⟨b, off, none⟩ ∧ b < w.heap.size ∧ w.cell? ⟨b, off + j * 2, none⟩ = some (.string x.1) ∧ w.cell? ⟨b, off + j * 2 + 1, none⟩ = some (.string x.2) := by
  obtain ⟨b, off, e, hlt, h0, h1⟩ := h.cell hj
  exact ⟨b, off, _, List.getElem?_eq_getElem hj, e, hlt, h0, h1⟩
theorem Txs.cell? {w : World} {ao : Option Addr} {m cap : Nat} {l : List ByteArray} (h : Txs w (.slice ao m cap) l) {j : Nat} (hj : j < l.length) : ∃ b off x, l[j]? = some x ∧ ao = some ⟨b, off, none⟩ ∧ b < w.heap.size ∧ w.cell? ⟨b, off + j, none⟩ = some (.string x) := by
  obtain ⟨b, off, e, hlt, h0⟩ := h.cell hj
  exact ⟨b, off, _, List.getElem?_eq_getElem hj, e, hlt, h0⟩

set_option maxHeartbeats 1000000 in
theorem samePairs_dec (a b : Value) (l m : List KV) (w : World) (ha : Prs w a l) (hb : Prs w b m) :
    Calls Tryz.prog 24 #[a, b] w fun e w' => e = .returned (.bool (decide (l = m))) ∧ ∃ n, w' = w.drewN n := by
  have HA := hid ha
  have HB := hid hb
  obtain ⟨ao, ca, rfl, a1, a2, -, -⟩ := ha
  obtain ⟨bo, cb, rfl, b1, b2, -, -⟩ := hb
  unfold maxLen at a2 b2
  have hm := guard_pair
  by_cases hlen : l.length = m.length
  · have e1 : ((l.length : Int) != (m.length : Int)) = false := by simp; omega
    have hle : l.length ≤ m.length := by omega
    have HL := hid hlen
    clear hlen
    go_enter Tryz.func24, Tryz.ntmps24
    go_wp2
    go_loopw [5] (fun i wr => ∃ k : Nat, k ≤ l.length ∧ i = .int .i64 k ∧ l.take k = m.take k ∧ ∃ t, wr = w.drewN t) (fun i _ => l.length - (intOf i).toNat)
    case atStart => exact ⟨0, by omega, rfl, rfl, 0, rfl⟩
    case round =>
      obtain ⟨k, hk, rfl, htk, t, rfl⟩ := hrel
      have HT := hid htk
      clear htk
      by_cases hlt : k < l.length
      · have hd5 : decide ((k : Int) < (l.length : Int)) = true := by simp; omega
        have hlm : k < m.length := by omega
        obtain ⟨p, po, x, hx, rfl, hp, c0, c1⟩ := HA.out.cell? hlt
        obtain ⟨q, qo, y, hy, rfl, hq, d0, d1⟩ := HB.out.cell? hlm
        have HX := hid hx
        have HY := hid hy
        clear hx hy
        by_cases hxy : x = y
        · subst hxy
          have hn := pair_neq x
          go_wp2
          go_quiet (fail)
          go_wp2
          go_roundw
          case rel => exact ⟨k + 1, by omega, by go_num, take_same HT.out HL.out hlt (by rw [HX.out, HY.out]), _, rfl⟩
          case measure => simp [intOf]; omega
        · have hn := pair_neq_ne x y hxy
          have H3 := hid (show decide (l = m) = false from decide_eq_false (take_less HX.out HY.out hxy))
          clear hxy
          go_wp2
          go_quiet (fail)
          go_wp2
          go_ret
          exact ⟨by rw [H3.out]; rfl, _, World.drewN_drewN ..⟩
      · obtain rfl : k = l.length := by omega
        have hd5 : decide ((l.length : Int) < (l.length : Int)) = false := by simp
        have H3 := hid (show decide (l = m) = true from decide_eq_true (by
          have h1 := HT.out
          have h2 := HL.out
          rw [List.take_of_length_le (Nat.le_refl _), List.take_of_length_le (by omega)] at h1
          exact h1))
        go_wp2
        go_ret
        exact ⟨by rw [H3.out]; rfl, _, rfl⟩
  · have e1 : ((l.length : Int) != (m.length : Int)) = true := by simp; omega
    have H3 := hid (show decide (l = m) = false from decide_eq_false (fun e => hlen (by rw [e])))
    clear hlen
    go_enter Tryz.func24, Tryz.ntmps24
    go_wp2
    go_ret
    exact ⟨by rw [H3.out]; rfl, 0, rfl⟩

end Go.Proofs.YtfimoobgbodbmaaGreatDoor
