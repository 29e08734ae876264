/- Slices of pairs: SamePairs, OverPairs. -/
import Derived.Test.YtejkboahjfcdcaaTTexts
import Derived.Laws.StructEq
import Derived.Maps.AppendAt
namespace Go.Proofs.Ytejkboahjfcdcaa
open Go.RowKit
set_option linter.unusedVariables false

abbrev prV (p : ByteArray × ByteArray) : Value := .agg #[.string p.1, .string p.2]
def encP (p : ByteArray × ByteArray) : List Value := [.string p.1, .string p.2]
theorem encP_len : ∀ x, (encP x).length = 2 := fun _ => rfl
theorem encP_one : ∀ x, ∀ u ∈ encP x, u.oneCell' = true := by intro x u hu; simp [encP] at hu; rcases hu with rfl | rfl <;> rfl
abbrev Prs (w : World) (v : Value) (l : List (ByteArray × ByteArray)) : Prop := Reads 2 encP w v l
theorem Prs.cell {w : World} {ao : Option Addr} {m cap : Nat} {l : List (ByteArray × ByteArray)} (h : Prs w (.slice ao m cap) l) {j : Nat} (hj : j < l.length) : ∃ b off, ao = some ⟨b, off, none⟩ ∧ b < w.heap.size ∧ w.cell? ⟨b, off + j * 2, none⟩ = some (.string l[j].1) ∧ w.cell? ⟨b, off + j * 2 + 1, none⟩ = some (.string l[j].2) := by
  obtain ⟨b, off, e, hlt, hc⟩ := h.cells hj
  exact ⟨b, off, e, hlt, hc 0 _ rfl, hc 1 _ rfl⟩
theorem Try.infoP : (Try.prog.info? 53).map (fun i => (i.zero, i.size, i.bytes)) = some (some (.agg #[.string ⟨#[]⟩, .string ⟨#[]⟩]), 2, 32) := by kernel_rfl
theorem pair_neq (x : ByteArray × ByteArray) (w : World) : (binOp .neq 53 (prV x) (prV x)).run Try.prog w = .ok (.bool false) w := by
  have u9 := Try.underlying9
  have a9 := Try.isAgg9
  have z9 := Try.sizeOf9
  have hS : Try.prog.underlying 53 = some (.struct (Try.prog.fieldsOf 53)) := by kernel_rfl
  have hp : Try.prog.stoodInHeld 53 = false := by kernel_rfl
  rw [run_neq_struct, show (10000 : Nat) = 9999 + 1 from rfl, run_equalIn_agg w 9999 53 _ _ hS hp]
  simp only [Program.fieldsOf, Try.underlying53]
  go_simp
theorem guard_pair : Try.prog.eqGuardType Try.prog.depth 53 = false := by kernel_rfl

set_option maxHeartbeats 1000000 in
/-- Two slices that read the same are the same. -/
theorem samePairs_any (a b : Value) (l : List (ByteArray × ByteArray)) (w : World) (ha : Prs w a l) (hb : Prs w b l) :
    Calls Try.prog 18 #[a, b] w fun e w' => e = .returned (.bool true) ∧ ∃ n, w' = w.drewN n := by
  have HA := hid ha
  have HB := hid hb
  obtain ⟨ao, ca, rfl, a1, a2, -, -⟩ := ha
  obtain ⟨bo, cb, rfl, b1, b2, -, -⟩ := hb
  unfold maxLen at a2 b2
  have hm := guard_pair
  go_enter Try.func18, Try.ntmps18
  go_wp2
  go_loopw [5] (fun i wr => ∃ k : Nat, k ≤ l.length ∧ i = .int .i64 k ∧ ∃ t, wr = w.drewN t) (fun i _ => l.length - (intOf i).toNat)
  case atStart => exact ⟨0, by omega, rfl, 0, rfl⟩
  case round =>
    obtain ⟨k, hk, rfl, t, rfl⟩ := hrel
    by_cases hlt : k < l.length
    · have hd5 : decide ((k : Int) < (l.length : Int)) = true := by simp; omega
      obtain ⟨p, po, rfl, hp, c0, c1⟩ := HA.out.cell hlt
      obtain ⟨q, qo, rfl, hq, d0, d1⟩ := HB.out.cell hlt
      generalize l[k] = x at c0 c1 d0 d1
      have hn := pair_neq x
      go_wp2
      go_quiet (fail)
      go_wp2
      go_roundw
      case rel => exact ⟨k + 1, by omega, by go_num, _, rfl⟩
      case measure => simp [intOf]; omega
    · obtain rfl : k = l.length := by omega
      have hd5 : decide ((l.length : Int) < (l.length : Int)) = false := by simp
      go_wp2
      go_ret
      exact ⟨rfl, _, rfl⟩

def overB : ByteArray := ⟨#[111, 118, 101, 114]⟩
theorem grownBy_trans {w w1 w2 : World} {r : Option Nat} (h : w.grownBy w1 r) (k : w1.grownBy w2 r) : w.grownBy w2 r :=
  ⟨k.os.trans h.os, k.tape.trans h.tape, k.output.trans h.output, Nat.le_trans h.size k.size, fun i hi hr => (k.block i (Nat.lt_of_lt_of_le hi h.size) hr).trans (h.block i hi hr)⟩
theorem grownBy_alloc (w : World) (o : Obj) (r : Option Nat) : w.grownBy (w.alloc o) r :=
  ⟨rfl, rfl, rfl, by simp, fun k hk _ => Below.heap_alloc _ _ _ hk⟩
theorem grownBy_drew (w : World) (r : Option Nat) : w.grownBy w.drew r := ⟨rfl, rfl, rfl, Nat.le_refl _, fun _ _ _ => rfl⟩
theorem below_drew1 (w : World) : Below w.heap.size w w.drew := ⟨rfl, rfl, rfl, Nat.le_refl _, fun _ _ => rfl⟩
theorem grownBy_drewN (w : World) (n : Nat) (r : Option Nat) : w.grownBy (w.drewN n) r := ⟨rfl, rfl, rfl, Nat.le_refl _, fun _ _ _ => rfl⟩
theorem grownBy_below {w w' : World} (h : Below w.heap.size w w') (r : Option Nat) : w.grownBy w' r := ⟨h.os, h.tape, h.output, h.size, fun k hk _ => h.block k hk⟩
theorem two_new (w : World) (x y : Value) (t : TypeId) : ∀ j u, [x, y][j]? = some u → (w.alloc (.cells #[x, y] t)).cell? ((⟨w.heap.size, 0, none⟩ : Addr).add j) = some u := by
  intro j u h
  have : j = 0 ∨ j = 1 := by
    have := (List.getElem?_eq_some_iff.1 h).1
    simp at this
    omega
  rcases this with rfl | rfl
  · simp at h
    subst h
    simp [go_sem, Addr.add]
  · simp at h
    subst h
    simp [go_sem, Addr.add]

set_option maxHeartbeats 1000000 in
/-- What is owned is written over: nothing below it turns. -/
theorem overPairs_own (n base : Nat) (v : Value) (xs : List Value) (w : World) (ho : w.ownsRow base 53 2 v n xs) (hb : base ≤ w.heap.size) (hn : n ≤ 1000) :
    Calls Try.prog 15 #[v] w fun e w' => e = .returned (.tuple #[]) ∧ Below base w w' := by
  obtain ⟨i0, hi, hz0, hz1, hz2⟩ := info_parts Try.infoP
  rcases ho.2 with ⟨rfl, rfl⟩ | ⟨g, cap, cur, rfl, hbase, hg, r⟩
  · go_enter Try.func15, Try.ntmps15
    go_wp2
    go_loop [2] (fun i => i = .int .i64 0) (fun _ => 0)
    case atStart => rfl
    case round =>
      subst hrel
      go_wp2_with (at_builtin; refine wpList_append_own _ rfl _ _ 31 rfl w.heap.size 53 i0 _ 2 32 Try.underlying31 hi hz0 hz1 hz2 rfl (by decide) _ 0 [] rfl ((World.ownsRow_nil _ _ _ _).alloc _) ⟨w.heap.size, 0, none⟩ 1 1 [.string overB, .string ⟨#[]⟩] rfl rfl (two_new _ _ _ _) (by intro u hu; simp at hu; rcases hu with rfl | rfl <;> rfl) (by unfold maxLen; omega) (by omega) (by simp) ?_; intro v1 w1 ho1 hg1 _)
      go_end0
      exact ⟨rfl, (((Below.refl _ w).alloc (Nat.le_refl _) _).grown hg1 (by simp) (by intro q hq; cases hq)).mono hb⟩
  · clear r hg
    go_enter Try.func15, Try.ntmps15
    go_wp2
    go_loopw [2] (fun i wr => ∃ k : Nat, k ≤ n ∧ i = .int .i64 k ∧ ∃ ys, wr.ownsRow base 53 2 (.slice (some ⟨g, 0, none⟩) n cap) n ys ∧ w.grownBy wr (some g)) (fun i _ => n - (intOf i).toNat)
    case atStart => exact ⟨0, by omega, rfl, xs, ho, World.grownBy.refl _ _⟩
    case round =>
      obtain ⟨k, hk, rfl, ys, hoy, hgr⟩ := hrel
      by_cases hlt : k < n
      · obtain ⟨x0, hx0⟩ := owns_cell hoy (j := k * 2) (by omega)
        obtain ⟨x1, hx1⟩ := owns_cell hoy (j := k * 2 + 1) (by omega)
        have hf0 := hoy.frozenAt (k * 2)
        have hf1 := hoy.frozenAt (k * 2 + 1)
        have s1 := hoy.stored (k * 2) (.string overB)
        have s2 := s1.1.stored (k * 2 + 1) (.string ⟨#[]⟩)
        have H1 := hid s2.1
        have H2 := hid (grownBy_trans hgr (grownBy_trans s1.2 s2.2))
        unfold overB at H1 H2
        clear s1 s2 hoy hgr
        go_wp2
        go_roundw
        case rel => exact ⟨k + 1, by omega, by go_num, _, H1.out, H2.out⟩
        case measure => simp [intOf]; omega
      · obtain rfl : k = n := by omega
        have hsz := hgr.size
        go_wp2_with (at_builtin; refine wpList_append_own _ rfl _ _ 31 rfl base 53 i0 _ 2 32 Try.underlying31 hi hz0 hz1 hz2 rfl (by decide) _ k _ rfl (hoy.alloc _) ⟨wr.heap.size, 0, none⟩ 1 1 [.string overB, .string ⟨#[]⟩] rfl rfl (two_new _ _ _ _) (by intro u hu; simp at hu; rcases hu with rfl | rfl <;> rfl) (by unfold maxLen; omega) (by omega) (by simp; omega) ?_; intro v1 w1 ho1 hg1 _)
        go_end0
        exact ⟨rfl, (Below.refl _ w).grown (grownBy_trans (grownBy_trans hgr (grownBy_alloc _ _ _)) hg1) hb (by intro q hq; cases hq; exact hbase)⟩
end Go.Proofs.Ytejkboahjfcdcaa
