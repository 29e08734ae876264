/- How an act of layer 14's statements reads, and what great answers. -/
import Derived.Test.YtnbikfgbjfcenaaDkAwake
import Derived.Test.YtnbikfgbjfcenaaRds
namespace Go.Proofs.Ytnbikfgbjfcenaa
open Go.RowKit
set_option linter.unusedVariables false

/-- What is done, its number, its bytes. -/
abbrev ActV := Int × Int × List Int
def rAct : Rd ActV := rPair 1 (rInt .i64) (rPair 1 (rInt .i64) (rSlice 1 (rInt .u8)))
theorem opens_act : Opens Try.prog 32 3 rAct :=
  opens_struct Try.underlying32 (by kernel_rfl) (opensF_cons rfl (by kernel_rfl) (opens_int Try.underlying3) (opensF_cons rfl (by kernel_rfl) (opens_int Try.underlying3) (opensF_last rfl (by kernel_rfl) rfl (opens_slice Try.underlying28 (by kernel_rfl) (by decide) (opens_int Try.underlying5)))))
theorem opens_acts : Opens Try.prog 22 1 (rSlice 3 rAct) := opens_slice Try.underlying22 (by kernel_rfl) (by decide) opens_act

theorem bs_of {w : World} {v : Value} {l : List Int} (h : rSlice 1 (rInt .u8) w [v] l) : Bs w v l := by
  obtain ⟨ao, cap, hv, h1, h2, h3, h4⟩ := h
  obtain rfl : v = _ := by simpa using hv
  refine ⟨ao, cap, rfl, h1, h2, h3, fun hl => ?_⟩
  obtain ⟨b, off, rfl, hb, hc⟩ := h4 hl
  refine ⟨b, off, rfl, hb, fun j hj => ?_⟩
  obtain ⟨ds, hd, ⟨hr, _⟩, hu⟩ := hc j l[j] (List.getElem?_eq_getElem hj)
  subst hr
  have := hu 0 _ rfl
  rw [Nat.mul_one, Nat.add_zero] at this
  rw [this]
  simp [List.getD, List.getElem?_eq_getElem hj]

/-- Acts that lie in block b, from off on. -/
def Acts (w : World) (b off : Nat) (l : List ActV) : Prop := ∀ (j : Nat) (a : ActV), l[j]? = some a → ∃ ds : List Value, ds.length = 3 ∧ rAct w ds a ∧ ∀ (k : Nat) (u : Value), ds[k]? = some u → w.cell? ⟨b, off + j * 3 + k, none⟩ = some u
theorem Acts.at {w : World} {l : List ActV} {b off : Nat} (hc : Acts w b off l) {k : Nat} (hk : k < l.length) :
    ∃ ao c, w.cell? ⟨b, off + k * 3, none⟩ = some (.int .i64 l[k].1) ∧ w.cell? ⟨b, off + k * 3 + 1, none⟩ = some (.int .i64 l[k].2.1) ∧ w.cell? ⟨b, off + k * 3 + 2, none⟩ = some (.slice ao l[k].2.2.length c) ∧ Bs w (.slice ao l[k].2.2.length c) l[k].2.2 := by
  obtain ⟨ds, hd, hr, hu⟩ := hc k l[k] (List.getElem?_eq_getElem hk)
  match ds, hd with
  | [x, y, z], _ =>
    obtain ⟨⟨h1, _⟩, ⟨h2, _⟩, h3⟩ := hr
    have h4 : Bs w z l[k].2.2 := bs_of h3
    simp at h1 h2
    subst h1 h2
    obtain ⟨ao, c, hv, -⟩ := id h4
    rw [hv] at h4 hu
    exact ⟨ao, c, hu 0 _ rfl, hu 1 _ rfl, hu 2 _ rfl, h4⟩

/-- No more than most, no more than 60 bytes each. -/
def Small (most : Nat) (l : List ActV) : Prop := l.length ≤ most ∧ ∀ x ∈ l, x.2.2.length ≤ 60
def GreatA (l : List ActV) (most : Nat) (e : Ending) : Prop := ∃ g, e = .returned (.bool g) ∧ (g = false → Small most l)
theorem acts_take {l : List ActV} {k : Nat} (hk : k < l.length) (h : ∀ y ∈ l.take k, y.2.2.length ≤ 60) (hx : l[k].2.2.length ≤ 60) : ∀ y ∈ l.take (k + 1), y.2.2.length ≤ 60 := by
  rw [List.take_succ_eq_append_getElem hk]
  intro y hy
  rcases List.mem_append.1 hy with hy | hy
  · exact h y hy
  · rw [List.mem_singleton.1 hy]
    exact hx
set_option maxHeartbeats 1000000 in
theorem great_any (v : Value) (l : List ActV) (most : Nat) (w : World) (hv : rSlice 3 rAct w [v] l) (hm : most ≤ 1000) :
    Calls Try.prog 6 #[v, .int .i64 most] w fun e w' => GreatA l most e ∧ w' = w := by
  obtain ⟨ao, ca, hv, a1, a2, a3, a4⟩ := hv
  obtain rfl : v = _ := by simpa using hv
  have HV := hid a4
  clear hv a4
  unfold maxLen at a2
  by_cases hbig : most < l.length
  · have hd : decide ((l.length : Int) ≤ (most : Int)) = false := by simp; omega
    have hd2 : decide ((most : Int) < (l.length : Int)) = true := by simp; omega
    have hd3 : decide ((0 : Int) < (l.length : Int)) = true := by simp; omega
    clear a3
    go_enter Try.func6, Try.ntmps6
    go_wp2
    go_loop [5] (fun i => i = .int .i64 0) (fun _ => 0)
    case atStart => rfl
    case round =>
      subst hrel
      go_wp2
      go_ret
      exact ⟨⟨true, rfl, fun h => by cases h⟩, rfl⟩
  · have HB := hid hbig
    have hd : decide ((l.length : Int) ≤ (most : Int)) = true := by simp; omega
    have hd2 : decide ((most : Int) < (l.length : Int)) = false := by simp; omega
    have hle : l.length ≤ most := by omega
    clear hbig a3
    go_enter Try.func6, Try.ntmps6
    go_wp2
    go_loop [5] (fun i => ∃ k : Nat, k ≤ l.length ∧ i = .int .i64 k ∧ Hid (∀ y ∈ l.take k, y.2.2.length ≤ 60)) (fun i => l.length - (intOf i).toNat)
    case atStart => exact ⟨0, by omega, rfl, hid (fun y hy => by simp at hy)⟩
    case round =>
      obtain ⟨k, hk, rfl, HK⟩ := hrel
      by_cases hlt : k < l.length
      · obtain ⟨b, off, rfl, hb, hc⟩ := HV.out (by intro e; rw [e] at hlt; simp at hlt)
        obtain ⟨bo, bc, -, -, c2, hbs⟩ := Acts.at hc hlt
        obtain ⟨q, hq⟩ : ∃ q, l[k].2.2.length = q := ⟨_, rfl⟩
        have HQ := hid hq
        rw [hq] at c2
        have hq2 : q ≤ 9223372036854775807 := by
          obtain ⟨_, _, _, h1, h2, _⟩ := hbs
          unfold maxLen at h2
          omega
        clear hbs hq hc
        have hd4 : decide ((k : Int) < (l.length : Int)) = true := by simp; omega
        by_cases hs : 60 < q
        · have hd5 : decide ((60 : Int) < (q : Int)) = true := by simp; omega
          go_wp2
          go_ret
          exact ⟨⟨true, rfl, fun h => by cases h⟩, rfl⟩
        · have hd5 : decide ((60 : Int) < (q : Int)) = false := by simp; omega
          have HK2 := hid (acts_take hlt HK.out (by rw [HQ.out]; omega))
          clear HK HQ
          go_wp2
          go_round
          case rel => exact ⟨k + 1, by omega, by go_num, HK2⟩
          case measure => simp [intOf]; omega
      · have hd4 : decide ((k : Int) < (l.length : Int)) = false := by simp; omega
        go_wp2
        go_ret
        exact ⟨⟨decide (most < l.length), rfl, fun _ => ⟨by have := HB.out; omega, fun x hx => HK.out x (by rw [List.take_of_length_le (by omega)]; exact hx)⟩⟩, rfl⟩
end Go.Proofs.Ytnbikfgbjfcenaa
