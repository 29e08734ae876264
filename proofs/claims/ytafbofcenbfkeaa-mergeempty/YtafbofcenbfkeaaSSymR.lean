/- symMerge of the library's stable sort, where the second run has one pair. -/
import Derived.Test.YtafbofcenbfkeaaSSymL
namespace Go.Proofs.Ytafbofcenbfkeaa
open Go.RowKit
set_option linter.unusedVariables false

set_option maxRecDepth 100000 in
set_option maxHeartbeats 4000000 in
theorem symRight_calls (base g n cap a m b : Nat) (A U : List KV) (v : KV) (C : List KV) (w : World) (hr : Row base g n cap (A ++ U ++ v :: C) w) (hn : n ≤ 1000) (ha : A.length = a) (hm : a + U.length = m) (hb : m + 1 = b) (h2 : U.length ≠ 1) (hU : Rising U) :
    Calls Try.prog 36 #[.slice (some ⟨g, 0, none⟩) n cap, .int .i64 a, .int .i64 m, .int .i64 b, keyFn] w fun e w' => e = .returned (.tuple #[]) ∧ Row base g n cap (A ++ srt (U ++ [v]) ++ C) w' ∧ w.grownBy w' (some g) := by
  have HR := hid hr
  have HU := hid hU
  have hlen := hr.len
  simp only [List.length_append, List.length_cons] at hlen
  clear hr hU
  obtain ⟨mu, hmu⟩ : ∃ mu, U.length = mu := ⟨_, rfl⟩
  have hma : ((m : Int) - (a : Int)) = (mu : Int) := by omega
  have hma2 : ((mu : Int) == 1) = false := by simp; omega
  have hma3 : ¬ mu = 1 := by omega
  have hbm : ((b : Int) - (m : Int)) = 1 := by omega
  obtain ⟨v0, v1⟩ := v
  clear h2
  go_enter Try.func36, Try.ntmps36
  go_wp2
  go_loopw [14, 15] (fun i j wr => ∃ p q s t : Nat, p ≤ q ∧ q ≤ mu ∧ a + p = s ∧ a + q = t ∧ i = .int .i64 s ∧ j = .int .i64 t ∧ (∀ y ∈ U.take p, kLt v0 y.1 = false) ∧ (∀ y ∈ U.drop q, kLt v0 y.1 = true) ∧ Row base g n cap (A ++ U ++ (v0, v1) :: C) wr ∧ w.grownBy wr (some g)) (fun i j _ => (intOf j).toNat - (intOf i).toNat)
  case atStart => exact ⟨0, mu, a, m, by omega, by omega, rfl, by omega, rfl, rfl, (fun _ h => by simp at h), (fun _ h => by rw [← hmu] at h; simp at h), HR.out, World.grownBy.refl _ _⟩
  case round =>
    obtain ⟨p, q, s, t, hpq, hq, hs, ht, rfl, rfl, h1, h2, hrow, hgr⟩ := hrel
    have H12 := hid (And.intro h1 h2)
    clear h1 h2
    by_cases hlt : s < t
    · have hd : decide (s < t) = true := by simp; omega
      obtain ⟨c, hc⟩ : ∃ c, (p + q) / 2 = c := ⟨_, rfl⟩
      obtain ⟨x, hx⟩ : ∃ x, a + c = x := ⟨_, rfl⟩
      have hst : ((s : Int) + (t : Int)) / 2 = (x : Int) := by omega
      obtain ⟨y, e1, e2, e3⟩ := parted (show c < U.length by omega)
      obtain ⟨y0, y1⟩ := y
      have hxc := hrow.at (i := m) (by simp; omega)
      have hyc := (show Row base g n cap ((A ++ U.take c) ++ (y0, y1) :: (U.drop (c + 1) ++ (v0, v1) :: C)) wr by
        have := hrow
        rw [e1] at this
        simpa using this).at (i := x) (by simp; omega)
      have HE := hid (And.intro e1 (And.intro e2 e3))
      have hg := hrow.lt
      have HW2 := hid hrow
      have HX := hid hxc
      have HYY := hid hyc
      simp only at hxc hyc
      obtain ⟨cx0, cx1⟩ := hxc
      obtain ⟨cy0, cy1⟩ := hyc
      have ha0 : (0 : Int) ≤ (m : Int) := by omega
      have han : (m : Int) < (n : Int) := by omega
      have hx0 : (0 : Int) ≤ (x : Int) := by omega
      have hxn : (x : Int) < (n : Int) := by omega
      clear hrow e1 e2 e3
      go_wp2_with fail
      go_region_held3 (fun w' => w'.cell? ⟨g, x * 2, none⟩ = some (.string y0) ∧ w'.cell? ⟨g, x * 2 + 1, none⟩ = some (.string y1) ∧ w'.cell? ⟨g, m * 2, none⟩ = some (.string v0) ∧ w'.cell? ⟨g, m * 2 + 1, none⟩ = some (.string v1)) (go_keep)
        (first | (go_at_call 27; refine (byKey_calls (v0, v1) (y0, y1) _).mono ?_; rintro e w5 ⟨d, rfl, hdc, hb5⟩; have k1 := (cells_below hb5 hg HYY.out).1; have k2 := (cells_below hb5 hg HYY.out).2; have k3 := (cells_below hb5 hg HX.out).1; have k4 := (cells_below hb5 hg HX.out).2; have H5 := hid hb5; have HC := hid hdc; clear hdc hb5))
      have HW5 := hid (HW2.out.below (below_drew1 _ |>.trans H5.out))
      have HG5 := hid (grownBy_trans hgr (grownBy_below (below_drew1 _ |>.trans H5.out) (some g)))
      clear hgr HW2 H5 cx0 cx1 cy0 cy1 HX HYY hg
      obtain ⟨z, hz⟩ : ∃ z, kLt v0 y0 = z := ⟨_, rfl⟩
      have hdc := HC.out
      rw [hz] at hdc
      have Hz := hid hz
      rw [hdc]
      clear HC hz hdc
      cases z
      · go_wp2
        go_roundw
        case rel =>
          refine ⟨c + 1, q, x + 1, t, by omega, by omega, by omega, ht, by go_num, rfl, ?_, H12.out.2, HW5.out, HG5.out⟩
          intro z hz
          rw [HE.out.2.1] at hz
          have hv := HU.out
          rw [← List.take_append_drop (c + 1) U, HE.out.2.1] at hv
          exact kLe_trans (rising_last (rising_append.1 hv).1 z hz) Hz.out
        case measure => simp [intOf]; omega
      · go_wp2
        go_roundw
        case rel =>
          refine ⟨p, c, s, x, by omega, by omega, hs, hx, rfl, by go_num, H12.out.1, ?_, HW5.out, HG5.out⟩
          intro z hz
          rw [HE.out.2.2] at hz
          rcases List.mem_cons.1 hz with rfl | hz
          · exact Hz.out
          · have hv := HU.out
            rw [HE.out.1] at hv
            exact kLt_le Hz.out ((List.pairwise_cons.1 (rising_append.1 hv).2.1).1 z hz)
        case measure => simp [intOf]; omega
    · have hd : decide (s < t) = false := by simp; omega
      obtain rfl : p = q := by omega
      have HRes := hid (show srt (U ++ [(v0, v1)]) = U.take p ++ (v0, v1) :: U.drop p by
        have := merge_one_right (x := (v0, v1)) (u1 := U.take p) (u2 := U.drop p) (by rw [List.take_append_drop]; exact HU.out) H12.out.1 H12.out.2
        rw [List.take_append_drop] at this
        exact this)
      have HW2 := hid hrow
      have hsz : (U.take p).length = p := by simp; omega
      clear hrow H12
      go_wp2
      go_loopw [17] (fun k wq => ∃ r z : Nat, p ≤ r ∧ r ≤ mu ∧ a + r = z ∧ k = .int .i64 z ∧ Row base g n cap (A ++ U.take r ++ (v0, v1) :: (U.drop r ++ C)) wq ∧ w.grownBy wq (some g)) (fun k _ => (intOf k).toNat)
      case atStart => exact ⟨mu, m, by omega, by omega, by omega, rfl, by rw [List.take_of_length_le (by omega), List.drop_of_length_le (by omega)]; simpa using HW2.out, hgr⟩
      case round =>
        clear hgr HW2
        obtain ⟨r, z, hr, hr2, hz, rfl, hrow, hgr⟩ := hrel
        by_cases hlt2 : s < z
        · have hd2 : decide (s < z) = true := by simp; omega
          obtain ⟨r1, rfl⟩ : ∃ r1, r = r1 + 1 := ⟨r - 1, by omega⟩
          obtain ⟨y, e1, e2, e3⟩ := parted (show r1 < U.length by omega)
          obtain ⟨y0, y1⟩ := y
          rw [e2] at hrow
          have hrow2 : Row base g n cap ((A ++ U.take r1) ++ (y0, y1) :: ([] ++ (v0, v1) :: (U.drop (r1 + 1) ++ C))) wr := by simpa using hrow
          obtain ⟨z1, hz1⟩ : ∃ z1, z = z1 + 1 := ⟨z - 1, by omega⟩
          have hl3 : (U.take r1).length = r1 := by simp; omega
          have hyc := hrow2.at (i := z1) (by simp; omega)
          have hxc := (show Row base g n cap ((A ++ U.take r1 ++ [(y0, y1)]) ++ (v0, v1) :: (U.drop (r1 + 1) ++ C)) wr by simpa using hrow).at (i := z) (by simp; omega)
          simp only at hxc hyc
          obtain ⟨cx0, cx1⟩ := hxc
          obtain ⟨cy0, cy1⟩ := hyc
          have hzz : ((z : Int) - 1) = (z1 : Int) := by omega
          have hzw : IntKind.i64.wrap (z1 : Int) = (z1 : Int) := by rw [IntKind.wrap_i64]; omega
          have hz10 : (0 : Int) ≤ (z1 : Int) := by omega
          have hzn : (z : Int) < (n : Int) := by omega
          have hz1n : (z1 : Int) < (n : Int) := by omega
          have hfr := hrow.free
          have HS2 := hid (hrow2.paws (i := z1) (j := z) (by simp; omega) (by simp; omega))
          have HE := hid e3
          have HZ := hid hz1
          clear hrow hrow2 e1 e2 e3 hz1
          go_wp2
          go_region
          have HW6 := hid (HS2.out.1.below (below_drew1 _))
          have HG6 := hid (grownBy_trans (grownBy_trans hgr HS2.out.2) (grownBy_drew _ _))
          clear HS2 hgr cx0 cx1 cy0 cy1
          go_wp2
          go_roundw
          case rel =>
            have := HZ.out
            refine ⟨r1, z1, by omega, by omega, by omega, by go_num, ?_, HG6.out⟩
            rw [HE.out]
            simpa using HW6.out
          case measure => have := HZ.out; simp [intOf]; omega
        · have hd2 : decide (s < z) = false := by simp; omega
          obtain rfl : r = p := by omega
          have HW3 := hid hrow
          clear hrow
          go_wp2
          (try simp only [Exit.inBlock, Exit.then])
          refine bodyPost_ret (results_none rfl _ _ _) rfl ?_
          refine ⟨rfl, ?_, hgr⟩
          rw [HRes.out]
          simpa using HW3.out
end Go.Proofs.Ytafbofcenbfkeaa
