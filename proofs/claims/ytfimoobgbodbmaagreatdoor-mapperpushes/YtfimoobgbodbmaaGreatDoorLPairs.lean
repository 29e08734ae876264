/- Pairs lent, kept, great or not; what is owned; an append as one step of a region: what stages from 8 on take of stage 7, without its program. -/
import Derived.Test.YtfimoobgbodbmaaGreatDoorSKeys
import Derived.Test.YtfimoobgbodbmaaGreatDoorGVm
import Derived.Test.YtfimoobgbodbmaaGreatDoorGTexts
import Derived.Laws.AppendOwnNone
import Derived.Deep.RegionHeld3
namespace Go.Proofs.YtfimoobgbodbmaaGreatDoor
open Go.RowKit
set_option linter.unusedVariables false
set_option maxRecDepth 100000

/-- append of a slice, nil or not, onto what the call owns, as one step of a region that draws its order. -/
theorem step_append_any {P : Program} {ops : Array Oper} {o : Oper} {a : Act} {w : World} {K : Act → World → Prop} {Q : Exit → Act → World → Prop} {C : Prop}
    (hg : o.guard = none) (s x : Operand) (t : TypeId) (hop : o.op = Op.call { callee := Callee.builtin Builtin.append, args := #[s, x], argTypes := #[t, t] })
    (base : Nat) (e : TypeId) (i : TypeInfo) (z : Value) (size bytes : Nat) (h1 : P.underlying t = some (.slice e)) (h2 : P.info? e = some i) (h3 : i.zero = some z) (h4 : i.size = size) (h5 : i.bytes = bytes) (h6 : z.cells.size = size) (h7 : 0 < size)
    (v : Value) (n : Nat) (xs : List Value) (hs : a.eval s = v) (hown : w.ownsRow base e size v n xs)
    (ao : Option Addr) (m c : Nat) (news : List Value) (hx : a.eval x = .slice ao m c) (hn : news.length = m * size) (hnone : ao = none → m = 0 ∧ c = 0) (hc : ∀ ad, ao = some ad → ∀ j u, news[j]? = some u → w.cell? (ad.add j) = some u) (h1c : ∀ u ∈ news, u.oneCell' = true)
    (b1 : n + m ≤ maxLen) (b2 : (n + m) * bytes ≤ 140737488355328) (hb : base ≤ w.heap.size)
    (hK : ∀ v' w', w'.ownsRow base e size v' (n + m) (xs ++ news) → w.grownBy w' v.ownBlock → K (a.put o.dst v') w') :
    if Region.wanted o (yielded ops a.tmps) = true then Oper.wp P o a w K Q else C := by
  cases ao with
  | some ad => exact step_append_own hg s x t hop base e i z size bytes h1 h2 h3 h4 h5 h6 h7 v n xs hs hown ad m c news hx hn (hc ad rfl) h1c b1 b2 hb hK
  | none =>
    obtain ⟨rfl, rfl⟩ := hnone rfl
    have hnil : news = [] := List.eq_nil_of_length_eq_zero (by simpa using hn)
    subst hnil
    have hw : Region.wanted o (yielded ops a.tmps) = true := by simp [Region.wanted, hg]
    rw [if_pos hw]
    have hrun := run_append_owned_none (P := P) (w := w) base t o.type e i size h1 h2 v n xs hown
    unfold Oper.wp
    simp [execOp, hop, resolve, invoke, builtin, hs, hx, hrun, Result.andThen]
    exact hK v w (by simpa using hown) (World.grownBy.refl _ _)
theorem owns_mono {w : World} {base base' e s n : Nat} {v : Value} {xs : List Value} (h : w.ownsRow base e s v n xs) (hb : base' ≤ base) : w.ownsRow base' e s v n xs := by
  refine ⟨h.1, ?_⟩
  rcases h.2 with h1 | ⟨g, cap, cur, h1, h2, r⟩
  · exact .inl h1
  · exact .inr ⟨g, cap, cur, h1, by omega, r⟩
theorem addr_add (b off j : Nat) : (⟨b, off, none⟩ : Addr).add j = ⟨b, off + j, none⟩ := by unfold Addr.add; split <;> simp_all
theorem keepc {W w' : World} {b o : Nat} {v : Value} (h : Below W.heap.size W w') (hb : b < W.heap.size) (hc : W.cell? ⟨b, o, none⟩ = some v) : w'.cell? ⟨b, o, none⟩ = some v := (h.cell (p := ⟨b, o, none⟩) hb).trans hc
theorem alloc_one (w : World) (o : Obj) : Below w.heap.size w (w.alloc o) := (Below.refl _ w).alloc (Nat.le_refl _) o
theorem below_none {w w' : World} (h : w.grownBy w' (Value.slice none 0 0).ownBlock) : Below w.heap.size w w' := ⟨h.os, h.tape, h.output, h.size, fun k hk => h.block k hk (fun e => by cases e)⟩
/-- A new row of pairs is answered. -/
def PairsNew (w : World) (l : List KV) (e : Ending) (w' : World) : Prop := ∃ u, e = .returned u ∧ w'.ownsRow w.heap.size 105 2 u l.length (fl encP l) ∧ Below w.heap.size w w'
theorem pairs_made (l : List KV) (w : World) (h : l.length ≤ 1000) : Prs (w.alloc (.cells (fl encP l).toArray 105)) (.slice (some ⟨w.heap.size, 0, none⟩) l.length l.length) l := Reads.made encP_len (by decide) 105 l w h
def lentP : KV := (⟨#[108, 101, 110, 116]⟩, ⟨#[]⟩)
def GreatP (l : List KV) (n : Nat) (e : Ending) : Prop := ∃ g, e = .returned (.bool g) ∧ (g = false → l.length ≤ n ∧ ∀ x ∈ l, x.1.size ≤ 100)
theorem small_take {l : List KV} {k : Nat} {x : KV} (h : ∀ y ∈ l.take k, y.1.size ≤ 100) (hx : l[k]? = some x) (ho : x.1.size ≤ 100) : ∀ y ∈ l.take (k + 1), y.1.size ≤ 100 := by
  obtain ⟨hk, rfl⟩ := List.getElem?_eq_some_iff.1 hx
  rw [List.take_succ_eq_append_getElem hk]
  intro y hy
  rcases List.mem_append.1 hy with hy | hy
  · exact h y hy
  · rw [List.mem_singleton.1 hy]
    exact ho
set_option maxHeartbeats 1000000 in
theorem greatPairs_any (v : Value) (l : List KV) (n : Nat) (w : World) (hv : Prs w v l) :
    Calls Tryz.prog 34 #[v, .int .i64 n] w fun e w' => GreatP l n e ∧ w' = w := by
  have HV := hid hv
  obtain ⟨ao, ca, rfl, a1, a2, a3, -⟩ := hv
  unfold maxLen at a2
  by_cases hbig : n < l.length
  · have hd : decide ((l.length : Int) ≤ (n : Int)) = false := by simp; omega
    have hd2 : decide ((n : Int) < (l.length : Int)) = true := by simp; omega
    have hd3 : decide ((0 : Int) < (l.length : Int)) = true := by simp; omega
    clear a3
    go_enter Tryz.func34, Tryz.ntmps34
    go_wp2
    go_loop [5] (fun i => i = .int .i64 0) (fun _ => 0)
    case atStart => rfl
    case round =>
      subst hrel
      go_wp2
      go_ret
      exact ⟨⟨true, rfl, fun h => by cases h⟩, rfl⟩
  · have HB := hid hbig
    have hd : decide ((l.length : Int) ≤ (n : Int)) = true := by simp; omega
    have hd2 : decide ((n : Int) < (l.length : Int)) = false := by simp; omega
    have hle : l.length ≤ n := by omega
    clear hbig a3
    go_enter Tryz.func34, Tryz.ntmps34
    go_wp2
    go_loop [5] (fun i => ∃ k : Nat, k ≤ l.length ∧ i = .int .i64 k ∧ Hid (∀ y ∈ l.take k, y.1.size ≤ 100)) (fun i => l.length - (intOf i).toNat)
    case atStart => exact ⟨0, by omega, rfl, hid (fun y hy => by simp at hy)⟩
    case round =>
      obtain ⟨k, hk, rfl, HK⟩ := hrel
      by_cases hlt : k < l.length
      · obtain ⟨b, off, x, hx, rfl, hb, c1, c2⟩ := HV.out.cell? hlt
        have HX := hid hx
        clear hx
        obtain ⟨s, t⟩ := x
        simp only at c1 c2
        have hd4 : decide ((k : Int) < (l.length : Int)) = true := by simp; omega
        by_cases hs : 100 < s.size
        · have hd5 : decide ((100 : Int) < (s.size : Int)) = true := by simp; omega
          go_wp2
          go_ret
          exact ⟨⟨true, rfl, fun h => by cases h⟩, rfl⟩
        · have hd5 : decide ((100 : Int) < (s.size : Int)) = false := by simp; omega
          by_cases ht : 100 < t.size
          · have hd6 : decide ((100 : Int) < (t.size : Int)) = true := by simp; omega
            go_wp2
            go_ret
            exact ⟨⟨true, rfl, fun h => by cases h⟩, rfl⟩
          · have hd6 : decide ((100 : Int) < (t.size : Int)) = false := by simp; omega
            have HK2 := hid (small_take HK.out HX.out (show s.size ≤ 100 by omega))
            clear HK
            go_wp2
            go_round
            case rel => exact ⟨k + 1, by omega, by go_num, HK2⟩
            case measure => simp [intOf]; omega
      · have hd4 : decide ((k : Int) < (l.length : Int)) = false := by simp; omega
        go_wp2
        go_ret
        exact ⟨⟨decide (n < l.length), rfl, fun _ => ⟨by have := HB.out; omega, fun x hx => HK.out x (by rw [List.take_of_length_le (by omega)]; exact hx)⟩⟩, rfl⟩
end Go.Proofs.YtfimoobgbodbmaaGreatDoor
