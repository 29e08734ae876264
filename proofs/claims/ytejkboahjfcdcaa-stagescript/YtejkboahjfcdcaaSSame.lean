/- Lists of pairs and of texts held against each other: SamePairs, SameTexts, Same of the program and of the reference. -/
import Derived.Test.YtejkboahjfcdcaaTOver
import Derived.Test.YtejkboahjfcdcaaSMath
namespace Go.Proofs.Ytejkboahjfcdcaa
open Go.RowKit
set_option linter.unusedVariables false

theorem bytes_inj {x y : ByteArray} (h : x.toList = y.toList) : x = y := by
  rw [ByteArray.toList_eq, ByteArray.toList_eq] at h
  cases x; cases y
  simp only [ByteArray.mk.injEq]
  exact Array.toList_inj.1 h
theorem pair_neq_ne (x y : ByteArray × ByteArray) (h : x ≠ y) (w : World) : (binOp .neq 53 (prV x) (prV y)).run Try.prog w = .ok (.bool true) w := by
  have u9 := Try.underlying9
  have a9 := Try.isAgg9
  have z9 := Try.sizeOf9
  have hS : Try.prog.underlying 53 = some (.struct (Try.prog.fieldsOf 53)) := by kernel_rfl
  have hp : Try.prog.stoodInHeld 53 = false := by kernel_rfl
  rw [run_neq_struct, show (10000 : Nat) = 9999 + 1 from rfl, run_equalIn_agg w 9999 53 _ _ hS hp]
  simp only [Program.fieldsOf, Try.underlying53]
  obtain ⟨x0, x1⟩ := x
  obtain ⟨y0, y1⟩ := y
  by_cases h0 : x0 = y0
  · subst h0
    have h1 : ¬ x1 = y1 := fun e => h (by rw [e])
    go_simp
    exact fun e => h1 (bytes_inj e)
  · go_simp
    exact fun e => absurd (bytes_inj e) h0
theorem take_same {α : Type} {l m : List α} {k : Nat} (h : l.take k = m.take k) (hl : l.length = m.length) (hk : k < l.length) (he : l[k]? = m[k]?) : l.take (k + 1) = m.take (k + 1) := by
  rw [List.take_succ_eq_append_getElem hk, List.take_succ_eq_append_getElem (by omega), h]
  rw [List.getElem?_eq_getElem hk, List.getElem?_eq_getElem (by omega)] at he
  rw [Option.some.inj he]
theorem take_less {α : Type} {l m : List α} {k : Nat} {x y : α} (hx : l[k]? = some x) (hy : m[k]? = some y) (h : x ≠ y) : ¬ l = m := by
  rintro rfl
  rw [hx] at hy
  exact h (Option.some.inj hy)
theorem Prs.cell? {w : World} {ao : Option Addr} {m cap : Nat} {l : List (ByteArray × ByteArray)} (h : Prs w (.slice ao m cap) l) {j : Nat} (hj : j < l.length) : ∃ b off x, l[j]? = some x ∧ ao = some ⟨b, off, none⟩ ∧ b < w.heap.size ∧ w.cell? ⟨b, off + j * 2, none⟩ = some (.string x.1) ∧ w.cell? ⟨b, off + j * 2 + 1, none⟩ = some (.string x.2) := by
  obtain ⟨b, off, e, hlt, h0, h1⟩ := h.cell hj
  exact ⟨b, off, _, List.getElem?_eq_getElem hj, e, hlt, h0, h1⟩
theorem Txs.cell? {w : World} {ao : Option Addr} {m cap : Nat} {l : List ByteArray} (h : Txs w (.slice ao m cap) l) {j : Nat} (hj : j < l.length) : ∃ b off x, l[j]? = some x ∧ ao = some ⟨b, off, none⟩ ∧ b < w.heap.size ∧ w.cell? ⟨b, off + j, none⟩ = some (.string x) := by
  obtain ⟨b, off, e, hlt, h0⟩ := h.cell hj
  exact ⟨b, off, _, List.getElem?_eq_getElem hj, e, hlt, h0⟩

set_option maxHeartbeats 1000000 in
theorem samePairs_dec (a b : Value) (l m : List KV) (w : World) (ha : Prs w a l) (hb : Prs w b m) :
    Calls Try.prog 18 #[a, b] w fun e w' => e = .returned (.bool (decide (l = m))) ∧ ∃ n, w' = w.drewN n := by
  have HA := hid ha
  have HB := hid hb
  obtain ⟨ao, ca, rfl, a1, a2, -, -⟩ := ha
  obtain ⟨bo, cb, rfl, b1, b2, -, -⟩ := hb
  unfold maxLen at a2 b2
  have hm := guard_pair
  by_cases hlen : l.length = m.length
  · have e1 : ((l.length : Int) != (m.length : Int)) = false := by simp; omega
    have hle : l.length ≤ m.length := by omega
    have HL := hid hlen
    clear hlen
    go_enter Try.func18, Try.ntmps18
    go_wp2
    go_loopw [5] (fun i wr => ∃ k : Nat, k ≤ l.length ∧ i = .int .i64 k ∧ l.take k = m.take k ∧ ∃ t, wr = w.drewN t) (fun i _ => l.length - (intOf i).toNat)
    case atStart => exact ⟨0, by omega, rfl, rfl, 0, rfl⟩
    case round =>
      obtain ⟨k, hk, rfl, htk, t, rfl⟩ := hrel
      have HT := hid htk
      clear htk
      by_cases hlt : k < l.length
      · have hd5 : decide ((k : Int) < (l.length : Int)) = true := by simp; omega
        have hlm : k < m.length := by omega
        obtain ⟨p, po, x, hx, rfl, hp, c0, c1⟩ := HA.out.cell? hlt
        obtain ⟨q, qo, y, hy, rfl, hq, d0, d1⟩ := HB.out.cell? hlm
        have HX := hid hx
        have HY := hid hy
        clear hx hy
        by_cases hxy : x = y
        · subst hxy
          have hn := pair_neq x
          go_wp2
          go_quiet (fail)
          go_wp2
          go_roundw
          case rel => exact ⟨k + 1, by omega, by go_num, take_same HT.out HL.out hlt (by rw [HX.out, HY.out]), _, rfl⟩
          case measure => simp [intOf]; omega
        · have hn := pair_neq_ne x y hxy
          have H3 := hid (show decide (l = m) = false from decide_eq_false (take_less HX.out HY.out hxy))
          clear hxy
          go_wp2
          go_quiet (fail)
          go_wp2
          go_ret
          exact ⟨by rw [H3.out]; rfl, _, World.drewN_drewN ..⟩
      · obtain rfl : k = l.length := by omega
        have hd5 : decide ((l.length : Int) < (l.length : Int)) = false := by simp
        have H3 := hid (show decide (l = m) = true from decide_eq_true (by
          have h1 := HT.out
          have h2 := HL.out
          rw [List.take_of_length_le (Nat.le_refl _), List.take_of_length_le (by omega)] at h1
          exact h1))
        go_wp2
        go_ret
        exact ⟨by rw [H3.out]; rfl, _, rfl⟩
  · have e1 : ((l.length : Int) != (m.length : Int)) = true := by simp; omega
    have H3 := hid (show decide (l = m) = false from decide_eq_false (fun e => hlen (by rw [e])))
    clear hlen
    go_enter Try.func18, Try.ntmps18
    go_wp2
    go_ret
    exact ⟨by rw [H3.out]; rfl, 0, rfl⟩

end Go.Proofs.Ytejkboahjfcdcaa
