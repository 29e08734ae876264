/- How an act of layer 18's statements reads, and what great answers. -/
import Derived.Test.YtejkboahjfcdcaaLPairs
import Derived.Test.YtejkboahjfcdcaaSArg
namespace Go.Proofs.Ytejkboahjfcdcaa
open Go.RowKit
set_option linter.unusedVariables false

/-- What is done, its split, its attempt, its number, its pairs. -/
abbrev ActV := Int × Int × Int × Int × List KV
def rAct : Rd ActV := rPair 1 (rInt .i64) (rPair 1 (rInt .i64) (rPair 1 (rInt .i64) (rPair 1 (rInt .i64) (rSlice 2 rPr))))
theorem opens_act : Opens Try.prog 33 5 rAct :=
  opens_struct Try.underlying33 (by kernel_rfl) (opensF_cons rfl (by kernel_rfl) (opens_int Try.underlying3) (opensF_cons rfl (by kernel_rfl) (opens_int Try.underlying3) (opensF_cons rfl (by kernel_rfl) (opens_int Try.underlying3) (opensF_cons rfl (by kernel_rfl) (opens_int Try.underlying3) (opensF_last rfl (by kernel_rfl) rfl opens_pairs)))))
theorem opens_acts : Opens Try.prog 22 1 (rSlice 5 rAct) := opens_slice Try.underlying22 (by kernel_rfl) (by decide) opens_act

/-- Acts that lie in block b, from off on. -/
def Acts (w : World) (b off : Nat) (l : List ActV) : Prop := ∀ (j : Nat) (a : ActV), l[j]? = some a → ∃ ds : List Value, ds.length = 5 ∧ rAct w ds a ∧ ∀ (k : Nat) (u : Value), ds[k]? = some u → w.cell? ⟨b, off + j * 5 + k, none⟩ = some u
theorem Acts.at {w : World} {l : List ActV} {b off : Nat} (hc : Acts w b off l) {k : Nat} (hk : k < l.length) :
    ∃ ao c, w.cell? ⟨b, off + k * 5, none⟩ = some (.int .i64 l[k].1) ∧ w.cell? ⟨b, off + k * 5 + 1, none⟩ = some (.int .i64 l[k].2.1) ∧ w.cell? ⟨b, off + k * 5 + 2, none⟩ = some (.int .i64 l[k].2.2.1) ∧ w.cell? ⟨b, off + k * 5 + 3, none⟩ = some (.int .i64 l[k].2.2.2.1) ∧ w.cell? ⟨b, off + k * 5 + 4, none⟩ = some (.slice ao l[k].2.2.2.2.length c) ∧ Prs w (.slice ao l[k].2.2.2.2.length c) l[k].2.2.2.2 ∧ (Lit.int .i64 l[k].2.1).wf = true ∧ (Lit.int .i64 l[k].2.2.1).wf = true := by
  obtain ⟨ds, hd, hr, hu⟩ := hc k l[k] (List.getElem?_eq_getElem hk)
  match ds, hd with
  | [x, y, z, t, v], _ =>
    obtain ⟨⟨h1, w1⟩, ⟨h2, w2⟩, ⟨h3, w3⟩, ⟨h5, w5⟩, h6⟩ := hr
    have h4 : Prs w v l[k].2.2.2.2 := Prs.arg h6
    simp at h1 h2 h3 h5
    subst h1 h2 h3 h5
    obtain ⟨ao, c, hv, -⟩ := id h4
    rw [hv] at h4 hu
    exact ⟨ao, c, hu 0 _ rfl, hu 1 _ rfl, hu 2 _ rfl, hu 3 _ rfl, hu 4 _ rfl, h4, w2, w3⟩
/-- No more than most, no more than 20 pairs each. -/
def Small (most : Nat) (l : List ActV) : Prop := l.length ≤ most ∧ ∀ x ∈ l, x.2.2.2.2.length ≤ 20
def GreatA (l : List ActV) (most : Nat) (e : Ending) : Prop := ∃ g, e = .returned (.bool g) ∧ (g = false → Small most l)
theorem acts_take {l : List ActV} {k : Nat} (hk : k < l.length) (h : ∀ y ∈ l.take k, y.2.2.2.2.length ≤ 20) (hx : l[k].2.2.2.2.length ≤ 20) : ∀ y ∈ l.take (k + 1), y.2.2.2.2.length ≤ 20 := by
  rw [List.take_succ_eq_append_getElem hk]
  intro y hy
  rcases List.mem_append.1 hy with hy | hy
  · exact h y hy
  · rw [List.mem_singleton.1 hy]
    exact hx
set_option maxHeartbeats 1000000 in
theorem great_any (v : Value) (l : List ActV) (most : Nat) (w : World) (hv : rSlice 5 rAct w [v] l) (hm : most ≤ 1000) :
    Calls Try.prog 8 #[v, .int .i64 most] w fun e w' => GreatA l most e ∧ w' = w := by
  obtain ⟨ao, ca, hv, a1, a2, a3, a4⟩ := hv
  obtain rfl : v = _ := by simpa using hv
  have HV := hid a4
  clear hv a4
  unfold maxLen at a2
  by_cases hbig : most < l.length
  · have hd : decide ((l.length : Int) ≤ (most : Int)) = false := by simp; omega
    have hd2 : decide ((most : Int) < (l.length : Int)) = true := by simp; omega
    have hd3 : decide ((0 : Int) < (l.length : Int)) = true := by simp; omega
    clear a3
    go_enter Try.func8, Try.ntmps8
    go_wp2
    go_loop [5] (fun i => i = .int .i64 0) (fun _ => 0)
    case atStart => rfl
    case round =>
      subst hrel
      go_wp2
      go_ret
      exact ⟨⟨true, rfl, fun h => by cases h⟩, rfl⟩
  · have HB := hid hbig
    have hd : decide ((l.length : Int) ≤ (most : Int)) = true := by simp; omega
    have hd2 : decide ((most : Int) < (l.length : Int)) = false := by simp; omega
    have hle : l.length ≤ most := by omega
    clear hbig a3
    go_enter Try.func8, Try.ntmps8
    go_wp2
    go_loop [5] (fun i => ∃ k : Nat, k ≤ l.length ∧ i = .int .i64 k ∧ Hid (∀ y ∈ l.take k, y.2.2.2.2.length ≤ 20)) (fun i => l.length - (intOf i).toNat)
    case atStart => exact ⟨0, by omega, rfl, hid (fun y hy => by simp at hy)⟩
    case round =>
      obtain ⟨k, hk, rfl, HK⟩ := hrel
      by_cases hlt : k < l.length
      · obtain ⟨b, off, rfl, hb, hc⟩ := HV.out (by intro e; rw [e] at hlt; simp at hlt)
        obtain ⟨bo, bc, -, -, -, -, c4, hps, -, -⟩ := Acts.at hc hlt
        have HP := hid hps
        have hd4 : decide ((k : Int) < (l.length : Int)) = true := by simp; omega
        clear hps hc
        go_wp2_with fail
        refine (greatPairs_any _ _ 20 w HP.out).mono ?_
        rintro e w1 ⟨⟨g, rfl, hg⟩, rfl⟩
        have HG := hid hg
        clear hg c4
        cases g with
        | true =>
          go_wp2
          go_ret
          exact ⟨⟨true, rfl, fun h => by cases h⟩, rfl⟩
        | false =>
          have HK2 := hid (acts_take hlt HK.out (HG.out rfl).1)
          clear HK HG
          go_wp2
          go_round
          case rel => exact ⟨k + 1, by omega, by go_num, HK2⟩
          case measure => simp [intOf]; omega
      · have hd4 : decide ((k : Int) < (l.length : Int)) = false := by simp; omega
        go_wp2
        go_ret
        exact ⟨⟨decide (most < l.length), rfl, fun _ => ⟨by have := HB.out; omega, fun x hx => HK.out x (by rw [List.take_of_length_le (by omega)]; exact hx)⟩⟩, rfl⟩
end Go.Proofs.Ytejkboahjfcdcaa
