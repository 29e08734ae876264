/- symMerge of the library's stable sort, where the first run has one pair. -/
import Derived.Test.YtafbofcenbfkeaaSIns
namespace Go.Proofs.Ytafbofcenbfkeaa
open Go.RowKit
set_option linter.unusedVariables false

theorem parted {l : List KV} {c : Nat} (h : c < l.length) : ∃ y, l = l.take c ++ y :: l.drop (c + 1) ∧ l.take (c + 1) = l.take c ++ [y] ∧ l.drop c = y :: l.drop (c + 1) := by
  refine ⟨l[c], ?_, List.take_succ_eq_append_getElem h, List.drop_eq_getElem_cons h⟩
  rw [← List.drop_eq_getElem_cons h, List.take_append_drop]

set_option maxRecDepth 100000 in
set_option maxHeartbeats 4000000 in
theorem symLeft_calls (base g n cap a m b : Nat) (A : List KV) (u : KV) (V C : List KV) (w : World) (hr : Row base g n cap (A ++ u :: (V ++ C)) w) (hn : n ≤ 1000) (ha : A.length = a) (hm : a + 1 = m) (hb : m + V.length = b) (hV : Rising V) :
    Calls Try.prog 36 #[.slice (some ⟨g, 0, none⟩) n cap, .int .i64 a, .int .i64 m, .int .i64 b, keyFn] w fun e w' => e = .returned (.tuple #[]) ∧ Row base g n cap (A ++ srt (u :: V) ++ C) w' ∧ w.grownBy w' (some g) := by
  have HR := hid hr
  have HV := hid hV
  have hlen := hr.len
  simp only [List.length_append, List.length_cons] at hlen
  clear hr hV
  have hma : ((m : Int) - (a : Int)) = 1 := by omega
  obtain ⟨u0, u1⟩ := u
  go_enter Try.func36, Try.ntmps36
  go_wp2
  go_loopw [10, 11] (fun i j wr => ∃ p q s t : Nat, p ≤ q ∧ q ≤ V.length ∧ m + p = s ∧ m + q = t ∧ i = .int .i64 s ∧ j = .int .i64 t ∧ (∀ y ∈ V.take p, kLt y.1 u0 = true) ∧ (∀ y ∈ V.drop q, kLt y.1 u0 = false) ∧ Row base g n cap (A ++ (u0, u1) :: (V ++ C)) wr ∧ w.grownBy wr (some g)) (fun i j _ => (intOf j).toNat - (intOf i).toNat)
  case atStart => exact ⟨0, V.length, m, b, by omega, by omega, rfl, hb, rfl, rfl, (fun _ h => by simp at h), (fun _ h => by simp at h), HR.out, World.grownBy.refl _ _⟩
  case round =>
    obtain ⟨p, q, s, t, hpq, hq, hs, ht, rfl, rfl, h1, h2, hrow, hgr⟩ := hrel
    have H12 := hid (And.intro h1 h2)
    clear h1 h2
    by_cases hlt : s < t
    · have hd : decide (s < t) = true := by simp; omega
      obtain ⟨c, hc⟩ : ∃ c, (p + q) / 2 = c := ⟨_, rfl⟩
      obtain ⟨x, hx⟩ : ∃ x, m + c = x := ⟨_, rfl⟩
      have hst : ((s : Int) + (t : Int)) / 2 = (x : Int) := by omega
      obtain ⟨y, e1, e2, e3⟩ := parted (show c < V.length by omega)
      obtain ⟨y0, y1⟩ := y
      have hxc := hrow.at (i := a) ha
      have hyc := (show Row base g n cap ((A ++ (u0, u1) :: V.take c) ++ (y0, y1) :: (V.drop (c + 1) ++ C)) wr by
        have := hrow
        rw [e1] at this
        simpa using this).at (i := x) (by simp; omega)
      have HE := hid (And.intro e1 (And.intro e2 e3))
      have hg := hrow.lt
      have HW2 := hid hrow
      have HX := hid hxc
      have HYY := hid hyc
      simp only at hxc hyc
      obtain ⟨cx0, cx1⟩ := hxc
      obtain ⟨cy0, cy1⟩ := hyc
      have ha0 : (0 : Int) ≤ (a : Int) := by omega
      have han : (a : Int) < (n : Int) := by omega
      have hx0 : (0 : Int) ≤ (x : Int) := by omega
      have hxn : (x : Int) < (n : Int) := by omega
      clear hrow e1 e2 e3
      go_wp2_with fail
      go_region_held3 (fun w' => w'.cell? ⟨g, x * 2, none⟩ = some (.string y0) ∧ w'.cell? ⟨g, x * 2 + 1, none⟩ = some (.string y1) ∧ w'.cell? ⟨g, a * 2, none⟩ = some (.string u0) ∧ w'.cell? ⟨g, a * 2 + 1, none⟩ = some (.string u1)) (go_keep)
        (first | (go_at_call 27; refine (byKey_calls (y0, y1) (u0, u1) _).mono ?_; rintro e w5 ⟨d, rfl, hdc, hb5⟩; have k1 := (cells_below hb5 hg HYY.out).1; have k2 := (cells_below hb5 hg HYY.out).2; have k3 := (cells_below hb5 hg HX.out).1; have k4 := (cells_below hb5 hg HX.out).2; have H5 := hid hb5; have HC := hid hdc; clear hdc hb5))
      have HW5 := hid (HW2.out.below (below_drew1 _ |>.trans H5.out))
      have HG5 := hid (grownBy_trans hgr (grownBy_below (below_drew1 _ |>.trans H5.out) (some g)))
      clear hgr HW2 H5 cx0 cx1 cy0 cy1 HX HYY hg
      obtain ⟨z, hz⟩ : ∃ z, kLt y0 u0 = z := ⟨_, rfl⟩
      have hdc := HC.out
      rw [hz] at hdc
      have Hz := hid hz
      rw [hdc]
      clear HC hz hdc
      cases z
      · go_wp2
        go_roundw
        case rel =>
          refine ⟨p, c, s, x, by omega, by omega, hs, hx, rfl, by go_num, H12.out.1, ?_, HW5.out, HG5.out⟩
          intro z hz
          rw [HE.out.2.2] at hz
          rcases List.mem_cons.1 hz with rfl | hz
          · exact Hz.out
          · have hv := HV.out
            rw [HE.out.1] at hv
            exact kLe_trans Hz.out ((List.pairwise_cons.1 (rising_append.1 hv).2.1).1 z hz)
        case measure => simp [intOf]; omega
      · go_wp2
        go_roundw
        case rel =>
          refine ⟨c + 1, q, x + 1, t, by omega, by omega, by omega, ht, by go_num, rfl, ?_, H12.out.2, HW5.out, HG5.out⟩
          intro z hz
          rw [HE.out.2.1] at hz
          have hv := HV.out
          rw [← List.take_append_drop (c + 1) V, HE.out.2.1] at hv
          exact kLe_lt (rising_last (rising_append.1 hv).1 z hz) Hz.out
        case measure => simp [intOf]; omega
    · have hd : decide (s < t) = false := by simp; omega
      obtain rfl : p = q := by omega
      have HRes := hid (show srt ((u0, u1) :: V) = V.take p ++ (u0, u1) :: V.drop p by
        have := merge_one_left (x := (u0, u1)) (v1 := V.take p) (v2 := V.drop p) (by rw [List.take_append_drop]; exact HV.out) H12.out.1 H12.out.2
        rw [List.take_append_drop] at this
        exact this)
      have hs1 : ((s : Int) - 1) = ((a + p : Nat) : Int) := by omega
      have HW2 := hid hrow
      have hsz : (V.take p).length = p := by simp; omega
      clear hrow H12
      obtain ⟨f, hf⟩ : ∃ f, a + p = f := ⟨_, rfl⟩
      rw [hf] at hs1
      go_wp2
      go_loopw [13] (fun k wq => ∃ r z : Nat, r ≤ p ∧ a + r = z ∧ k = .int .i64 z ∧ Row base g n cap (A ++ V.take r ++ (u0, u1) :: (V.drop r ++ C)) wq ∧ w.grownBy wq (some g)) (fun k _ => f - (intOf k).toNat)
      case atStart => exact ⟨0, a, by omega, rfl, rfl, by simpa using HW2.out, hgr⟩
      case round =>
        clear hgr HW2
        obtain ⟨r, z, hr, hz, rfl, hrow, hgr⟩ := hrel
        by_cases hlt2 : z < f
        · have hd2 : decide (z < f) = true := by simp; omega
          obtain ⟨y, e1, e2, e3⟩ := parted (show r < V.length by omega)
          obtain ⟨y0, y1⟩ := y
          rw [e3] at hrow
          have hrow2 : Row base g n cap ((A ++ V.take r) ++ (u0, u1) :: ([] ++ (y0, y1) :: (V.drop (r + 1) ++ C))) wr := by simpa using hrow
          obtain ⟨z1, hz1⟩ : ∃ z1, z + 1 = z1 := ⟨_, rfl⟩
          have hl3 : (V.take r).length = r := by simp; omega
          have hxc := hrow2.at (i := z) (by simp; omega)
          have hyc := (show Row base g n cap ((A ++ V.take r ++ [(u0, u1)]) ++ (y0, y1) :: (V.drop (r + 1) ++ C)) wr by simpa using hrow).at (i := z1) (by simp; omega)
          simp only at hxc hyc
          obtain ⟨cx0, cx1⟩ := hxc
          obtain ⟨cy0, cy1⟩ := hyc
          have hzz : ((z : Int) + 1) = (z1 : Int) := by omega
          have hzn : (z : Int) < (n : Int) := by omega
          have hz1n : (z1 : Int) < (n : Int) := by omega
          have hfr := hrow.free
          have HS2 := hid (hrow2.swap (i := z) (j := z1) (by simp; omega) (by simp; omega))
          have HE := hid e2
          clear hrow hrow2 e1 e2 e3
          go_wp2
          go_region
          have HW6 := hid (HS2.out.1.below (below_drew1 _))
          have HG6 := hid (grownBy_trans (grownBy_trans hgr HS2.out.2) (grownBy_drew _ _))
          clear HS2 hgr cx0 cx1 cy0 cy1
          go_wp2
          go_roundw
          case rel =>
            refine ⟨r + 1, z1, by omega, by omega, by go_num, ?_, HG6.out⟩
            rw [HE.out]
            simpa using HW6.out
          case measure => simp [intOf]; omega
        · have hd2 : decide (z < f) = false := by simp; omega
          obtain rfl : r = p := by omega
          have HW3 := hid hrow
          clear hrow
          go_wp2
          (try simp only [Exit.inBlock, Exit.then])
          refine bodyPost_ret (results_none rfl _ _ _) rfl ?_
          refine ⟨rfl, ?_, hgr⟩
          rw [HRes.out]
          simpa using HW3.out
end Go.Proofs.Ytafbofcenbfkeaa
