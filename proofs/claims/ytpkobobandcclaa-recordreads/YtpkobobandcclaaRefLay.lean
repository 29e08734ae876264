/- What the document's own Num and Text (chapter 1) lay. -/
import Derived.Test.YtpkobobandcclaaLend
namespace Go.Proofs.Ytpkobobandcclaa
open Go.RowKit
set_option linter.unusedVariables false

/-- append of a slice, nil or not, onto what the call owns. -/
theorem wpList_append_own_any {P : Program} (w : World) {ops : Array Oper} {rest : List Oper} {o : Oper} {a : Act} {Q : Exit → Act → World → Prop} (hgd : o.guard = none) (s x : Operand) (t : TypeId)
    (ho : o.op = .call { callee := .builtin .append, args := #[s, x], argTypes := #[t, t] })
    (base : Nat) (e : TypeId) (i : TypeInfo) (z : Value) (size bytes : Nat) (ht : P.underlying t = some (.slice e)) (hi : P.info? e = some i) (hz : i.zero = some z)
    (hsize : i.size = size) (hby : i.bytes = bytes) (hzs : z.cells.size = size) (hsz : 0 < size)
    (v : Value) (n : Nat) (xs : List Value) (hs : a.eval s = v) (hown : w.ownsRow base e size v n xs)
    (ao : Option Addr) (m c : Nat) (news : List Value) (hx : a.eval x = .slice ao m c) (hl : news.length = m * size) (hnone : ao = none → m = 0 ∧ c = 0)
    (hnews : ∀ ad, ao = some ad → ∀ j u, news[j]? = some u → w.cell? (ad.add j) = some u) (h1 : ∀ u ∈ news, u.oneCell' = true)
    (h63 : n + m ≤ maxLen) (hbytes : (n + m) * bytes ≤ 140737488355328) (hbase : base ≤ w.heap.size)
    (h : ∀ v' w', w'.ownsRow base e size v' (n + m) (xs ++ news) → w.grownBy w' v.ownBlock → wpList P ops Q rest (a.put o.dst v') w') : wpList P ops Q (o :: rest) a w := by
  cases ao with
  | some ad => exact wpList_append_own w hgd s x t ho base e i z size bytes ht hi hz hsize hby hzs hsz v n xs hs hown ad m c news hx hl (hnews ad rfl) h1 h63 hbytes hbase (fun v' w' a1 a2 _ => h v' w' a1 a2)
  | none =>
    obtain ⟨rfl, rfl⟩ := hnone rfl
    have hnil : news = [] := List.eq_nil_of_length_eq_zero (by simpa using hl)
    subst hnil
    exact wpList_append_own_none hgd s x t ho base e i size ht hi v n xs hs hown hx (h v w (by simpa using hown) (World.grownBy.refl _ _))

theorem byt_eq (n : Int) (m : Nat) (h : m < 8) : IntKind.u64.wrap n / 2 ^ (8 * (7 - m)) % 256 = byt n m := by
  unfold byt
  rw [show 56 - 8 * m = 8 * (7 - m) by omega]

theorem grown_below {B : Nat} {w w1 w2 : World} {v : Value} {base e n : Nat} {xs : List Value} (hb : Below B w w1) (ho : w1.ownsRow base e 1 v n xs) (hg : w1.grownBy w2 v.ownBlock) (h1 : B ≤ w1.heap.size) (h2 : B ≤ base) : Below B w w2 :=
  hb.grown hg h1 (fun k hk => Nat.le_trans h2 (ho.lt k hk).1)

set_option maxHeartbeats 800000 in
theorem rnum_any (v : Value) (n : Int) (l : List Int) (w : World) (hv : Bs w v l) (hr : l.length + 8 ≤ 140737488355328) :
    Calls Try.prog 26 #[v, .int .i64 n] w fun e w' => ∃ v', e = .returned v' ∧ w'.ownsRow w.heap.size 5 1 v' (l.length + 8) (cel (l ++ be8 n)) ∧ Below w.heap.size w w' := by
  have hv0 := hv
  obtain ⟨ao, cap, rfl, h1, h2, h3, h4⟩ := hv
  obtain ⟨i0, hi, hz0, hz1, hz2⟩ := info_parts Try.info5
  have HV : Hid (Bs w (.slice ao l.length cap) l) := hv0
  clear hv0 h4 h1 h2
  have hnone : ao = none → l.length = 0 ∧ cap = 0 := fun e => ⟨by rw [(h3 e).1]; rfl, (h3 e).2⟩
  clear h3
  go_enter Try.func26, Try.ntmps26
  go_wp2_with (at_builtin; refine wpList_append_own_any _ rfl _ _ 25 rfl w.heap.size 5 i0 (.int .u8 0) 1 1 Try.underlying25 hi hz0 hz1 hz2 rfl (by decide) _ 0 [] rfl (World.ownsRow_nil _ _ _ _) ao l.length cap (cel l) rfl (by rw [cel_length]; omega) hnone (HV.out.news (Below.refl _ _)) (cel_oneCell l) (by unfold maxLen; omega) (by omega) (Nat.le_refl _) ?_; intro v1 w1 ho1 hg1)
  have hb1 : Below w.heap.size w w1 := (Below.refl _ _).grown hg1 (Nat.le_refl _) (by intro k hk; cases hk)
  rw [Nat.zero_add, List.nil_append] at ho1
  clear hg1 hnone
  go_loopw [5, 6] (fun vr i wr => ∃ m : Nat, m ≤ 8 ∧ i = .int .i64 (7 - (m : Int)) ∧ wr.ownsRow w.heap.size 5 1 vr (l.length + m) (cel (l ++ (be8 n).take m)) ∧ Below w.heap.size w wr)
    (fun _ i _ => (intOf i + 1).toNat)
  case atStart => exact ⟨0, by omega, rfl, by simpa using ho1, hb1⟩
  case round =>
    rename_i vr ir wr
    obtain ⟨m, hm8, rfl, ho, hbel⟩ := hrel
    have hsz := hbel.size
    clear ho1 hb1
    by_cases hlt : m < 8
    · go_wp2_with (at_builtin; refine wpList_append_own _ rfl _ _ 25 rfl w.heap.size 5 i0 (.int .u8 0) 1 1 Try.underlying25 hi hz0 hz1 hz2 rfl (by decide) _ (l.length + m) _ rfl (ho.alloc _) ⟨wr.heap.size, 0, none⟩ 1 1 [.int .u8 (IntKind.u64.wrap n / 2 ^ (8 * (7 - m)) % 256)] rfl rfl (cell_one_new _ _ _) (by intro u hu; simp at hu; subst hu; rfl) (by unfold maxLen; omega) (by omega) (by simp; omega) ?_; intro v1 w1 ho1 hg1 _)
      have hb2 : Below w.heap.size w w1 := grown_below (hbel.alloc hsz _) (ho.alloc _) hg1 (by simp; omega) (Nat.le_refl _)
      have ho2 : w1.ownsRow w.heap.size 5 1 v1 (l.length + (m + 1)) (cel (l ++ (be8 n).take (m + 1))) := by
        rw [be8_take n m hlt, ← List.append_assoc, cel_append, cel_one, ← byt_eq n m hlt]; exact ho1
      clear ho1 hg1 ho hbel
      go_roundw
      case rel => exact ⟨m + 1, by omega, by go_num, ho2, hb2⟩
      case measure => simp [intOf]; omega
    · obtain rfl : m = 8 := by omega
      go_wp2
      go_ret
      rw [be8_take8] at ho
      exact ⟨_, rfl, ho, hbel⟩

set_option maxHeartbeats 800000 in
theorem rtext_any (v : Value) (s : ByteArray) (l : List Int) (w : World) (hv : Bs w v l) (hr : l.length + 8 + s.size ≤ 140737488355328) :
    Calls Try.prog 43 #[v, .string s] w fun e w' => ∃ v', e = .returned v' ∧ w'.ownsRow w.heap.size 5 1 v' (l.length + 8 + s.size) (cel (l ++ be8 s.size ++ nums s)) ∧ Below w.heap.size w w' := by
  obtain ⟨i0, hi, hz0, hz1, hz2⟩ := info_parts Try.info5
  go_enter Try.func43, Try.ntmps43
  go_wp2_with fail
  refine (rnum_any v s.size l w hv (by omega)).mono ?_
  rintro e w1 ⟨v1, rfl, ho1, hb1⟩
  clear hv
  have hsz := hb1.size
  go_wp2_with (at_builtin; refine Lib.wpList_append_own_string _ rfl _ _ 25 9 rfl w.heap.size 5 i0 Try.underlying25 Try.underlying9 hi hz0 hz1 hz2 _ (l.length + 8) _ rfl ho1 s rfl (by unfold maxLen; omega) (by omega) hsz ?_; intro v2 w2 ho2 hg2 _)
  have hb2 : Below w.heap.size w w2 := grown_below hb1 ho1 hg2 hsz (Nat.le_refl _)
  go_ret
  rw [str_cel, ← cel_append] at ho2
  exact ⟨_, rfl, ho2, hb2⟩
end Go.Proofs.Ytpkobobandcclaa
