/- symMerge of the library's stable sort, where both runs have two pairs or more: parted, turned round, and merged in parts. -/
import Derived.Test.YtfimoobgbodbmaaGreatDoorGSort
import Derived.Deep.DeepCutAuto
namespace Go.Proofs.YtfimoobgbodbmaaGreatDoor
open Go.RowKit
set_option linter.unusedVariables false
set_option maxRecDepth 100000

/-- What symMerge does. -/
def SymDoes (base g n cap a m b : Nat) (A U V C : List KV) (w : World) : Prop :=
  Calls Tryz.prog 214 #[.slice (some ⟨g, 0, none⟩) n cap, .int .i64 a, .int .i64 m, .int .i64 b, keyFn] w fun e w' => e = .returned (.tuple #[]) ∧ Row base g n cap (A ++ srt (U ++ V) ++ C) w' ∧ w.grownBy w' (some g)
def SymOk (k : Nat) : Prop := ∀ (base g n cap a m b : Nat) (A U V C : List KV) (w : World), U.length + V.length < k → Row base g n cap (A ++ U ++ V ++ C) w → n ≤ 1000 → A.length = a → a + U.length = m → m + V.length = b → 0 < U.length → 0 < V.length → Rising U → Rising V → SymDoes base g n cap a m b A U V C w

/-- Where the parting is, as far as is known: below s, and from r on. -/
structure Sy (U V : List KV) (H s0 r0 s r : Nat) : Prop where
  le : s0 ≤ s ∧ s ≤ r ∧ r ≤ r0
  low : s = s0 ∨ ∃ x y, 0 < s ∧ U[s - 1]? = some x ∧ V[H - s]? = some y ∧ kLt y.1 x.1 = false
  high : r = r0 ∨ ∃ x y, r < H ∧ U[r]? = some x ∧ V[H - 1 - r]? = some y ∧ kLt y.1 x.1 = true
theorem Sy.up {U V : List KV} {H s0 r0 s r c : Nat} (h : Sy U V H s0 r0 s r) (hc : s ≤ c ∧ c < r) (hH : c < H) {x y : KV} (hx : U[c]? = some x) (hy : V[H - 1 - c]? = some y) (hk : kLt y.1 x.1 = false) : Sy U V H s0 r0 (c + 1) r :=
  ⟨⟨by have := h.le; omega, by omega, h.le.2.2⟩, .inr ⟨x, y, by omega, by simpa using hx, by rw [show H - (c + 1) = H - 1 - c by omega]; exact hy, hk⟩, h.high⟩
theorem Sy.down {U V : List KV} {H s0 r0 s r c : Nat} (h : Sy U V H s0 r0 s r) (hc : s ≤ c ∧ c < r) (hH : c < H) {x y : KV} (hx : U[c]? = some x) (hy : V[H - 1 - c]? = some y) (hk : kLt y.1 x.1 = true) : Sy U V H s0 r0 s c :=
  ⟨⟨h.le.1, hc.1, by have := h.le; omega⟩, h.low, .inr ⟨x, y, hH, hx, hy, hk⟩⟩
/-- At the end the runs are parted there. -/
theorem Sy.parts {U V : List KV} {H s0 r0 s : Nat} (h : Sy U V H s0 r0 s s) (hU : Rising U) (hV : Rising V) (h0 : s0 = 0 ∨ V.length ≤ H - s0) (h1 : r0 = U.length ∨ H ≤ r0) (hs : s ≤ U.length) (hH : s ≤ H) :
    srt (U.take s ++ V.take (H - s)) ++ srt (U.drop s ++ V.drop (H - s)) = srt (U ++ V) := by
  have hu : Rising (U.take s ++ U.drop s) := by rw [List.take_append_drop]; exact hU
  have hv : Rising (V.take (H - s) ++ V.drop (H - s)) := by rw [List.take_append_drop]; exact hV
  have key := merge_parts hu hv (low_of hu hv ?_) (high_of hu hv ?_)
  · rw [List.take_append_drop, List.take_append_drop] at key
    exact key
  · rcases h.low with rfl | ⟨x, y, hp, hx, hy, hk⟩
    · rcases h0 with rfl | h0
      · exact .inl (by simp)
      · exact .inr (.inl (List.drop_of_length_le h0))
    · obtain ⟨i, rfl⟩ : ∃ i, s = i + 1 := ⟨s - 1, by omega⟩
      obtain ⟨hi, ei⟩ := List.getElem?_eq_some_iff.1 hx
      obtain ⟨hj, ej⟩ := List.getElem?_eq_some_iff.1 hy
      simp only [Nat.add_sub_cancel] at hi ei
      refine .inr (.inr ⟨U.take i, x, y, V.drop (H - (i + 1) + 1), ?_, ?_, hk⟩)
      · rw [List.take_succ_eq_append_getElem hi, ei]
      · rw [List.drop_eq_getElem_cons hj, ej]
  · rcases h.high with rfl | ⟨x, y, hp, hx, hy, hk⟩
    · rcases h1 with h1 | h1
      · exact .inl (List.drop_of_length_le (by omega))
      · exact .inr (.inl (by rw [show H - s = 0 by omega]; rfl))
    · obtain ⟨hi, ei⟩ := List.getElem?_eq_some_iff.1 hx
      obtain ⟨hj, ej⟩ := List.getElem?_eq_some_iff.1 hy
      refine .inr (.inr ⟨x, U.drop (s + 1), V.take (H - 1 - s), y, ?_, ?_, hk⟩)
      · rw [List.drop_eq_getElem_cons hi, ei]
      · rw [show H - s = H - 1 - s + 1 by omega, List.take_succ_eq_append_getElem hj, ej]

set_option maxRecDepth 100000 in
set_option maxHeartbeats 8000000 in
theorem symMid_calls (base g n cap a m b : Nat) (A U V C : List KV) (w : World) (IH : SymOk (U.length + V.length)) (hr : Row base g n cap (A ++ U ++ V ++ C) w) (hn : n ≤ 1000) (ha : A.length = a) (hm : a + U.length = m) (hb : m + V.length = b) (hu2 : 2 ≤ U.length) (hv2 : 2 ≤ V.length) (hU : Rising U) (hV : Rising V) :
    SymDoes base g n cap a m b A U V C w := by
  unfold SymDoes
  have HIH := hid IH
  have HR := hid hr
  have HU := hid hU
  have HV := hid hV
  have hlen := hr.len
  simp only [List.length_append] at hlen
  clear hr hU hV IH
  obtain ⟨mu, hmu⟩ : ∃ mu, U.length = mu := ⟨_, rfl⟩
  obtain ⟨nu, hnu⟩ : ∃ nu, V.length = nu := ⟨_, rfl⟩
  rw [hmu, hnu] at HIH
  obtain ⟨H, hH⟩ : ∃ H, (mu + nu) / 2 = H := ⟨_, rfl⟩
  obtain ⟨d, hd⟩ : ∃ d, a + H = d := ⟨_, rfl⟩
  obtain ⟨e, he⟩ : ∃ e, d + m = e := ⟨_, rfl⟩
  obtain ⟨f, hf⟩ : ∃ f, e - 1 = f := ⟨_, rfl⟩
  have hma : ((m : Int) - (a : Int)) = (mu : Int) := by omega
  have hma2 : ((mu : Int) == 1) = false := by simp; omega
  have hma3 : ¬ mu = 1 := by omega
  have hbm : ((b : Int) - (m : Int)) = (nu : Int) := by omega
  have hbm2 : ((nu : Int) == 1) = false := by simp; omega
  have hbm3 : ¬ nu = 1 := by omega
  have hab : ((a : Int) + (b : Int)) / 2 = (d : Int) := by omega
  have hdm : ((d : Int) + (m : Int)) = (e : Int) := by omega
  have hef : ((e : Int) - 1) = (f : Int) := by omega
  -- where the search begins, and where it ends
  obtain ⟨s0, r0, h01, h02, hs0, hr0, hle0⟩ : ∃ s0 r0 : Nat, (d < m → ((e : Int) - (b : Int)) = ((a + s0 : Nat) : Int) ∧ d = a + r0) ∧ (¬ d < m → a + s0 = a ∧ m = a + r0) ∧ (s0 = 0 ∨ nu ≤ H - s0) ∧ (r0 = mu ∨ H ≤ r0) ∧ (s0 ≤ r0 ∧ r0 ≤ mu ∧ r0 ≤ H ∧ H ≤ nu + s0) := by
    by_cases h : d < m
    · exact ⟨H - nu, H, fun _ => ⟨by omega, by omega⟩, fun k => absurd h k, .inr (by omega), .inr (by omega), by omega⟩
    · exact ⟨0, mu, fun k => absurd k h, fun _ => ⟨by omega, by omega⟩, .inl rfl, .inl rfl, by omega⟩
  obtain ⟨S0, hS0⟩ : ∃ S0, a + s0 = S0 := ⟨_, rfl⟩
  obtain ⟨R0, hR0⟩ : ∃ R0, a + r0 = R0 := ⟨_, rfl⟩
  rw [hS0, hR0] at h01 h02
  have H01 := hid h01
  have H02 := hid h02
  clear h01 h02
  go_enter Tryz.func214, Tryz.ntmps214
  go_upto_if 140 with fail
  go_cut [20, 21] (fun i j wx => i = .int .i64 S0 ∧ j = .int .i64 R0 ∧ wx = w)
  case first => as_aux_lemma =>
      by_cases h : d < m
      · have hdd : decide (d < m) = true := by simp; omega
        obtain ⟨h1, h2⟩ := H01.out h
        have K2 := hid h2
        clear h2
        go_wp2
        go_meet
        case rel => exact ⟨rfl, by rw [K2.out], rfl⟩
      · have hdd : decide (d < m) = false := by simp; omega
        obtain ⟨h1, h2⟩ := H02.out h
        have K2 := hid (And.intro h1 h2)
        clear h1 h2
        go_wp2
        go_meet
        case rel => exact ⟨by rw [K2.out.1], by rw [K2.out.2], rfl⟩
  case rest => as_aux_lemma =>
      obtain ⟨rfl, rfl, hwc⟩ := hcut
      rw [hwc]
      clear hwc
      go_wp2
      go_loopw [20, 21] (fun i j wr => ∃ s r S R : Nat, a + s = S ∧ a + r = R ∧ i = .int .i64 S ∧ j = .int .i64 R ∧ Sy U V H s0 r0 s r ∧ Row base g n cap (A ++ U ++ V ++ C) wr ∧ w.grownBy wr (some g)) (fun i j _ => (intOf j).toNat - (intOf i).toNat)
      case atStart => exact ⟨s0, r0, S0, R0, hS0, hR0, rfl, rfl, ⟨⟨by omega, by omega, by omega⟩, .inl rfl, .inl rfl⟩, HR.out, World.grownBy.refl _ _⟩
      case round =>
        obtain ⟨s, r, S, R, hS, hR, rfl, rfl, hsy, hrow, hgr⟩ := hrel
        have HSy := hid hsy
        have hle := hsy.le
        clear hsy
        by_cases hlt : S < R
        · as_aux_lemma =>
            have hd1 : decide (S < R) = true := by simp; omega
            obtain ⟨c, hc⟩ : ∃ c, (s + r) / 2 = c := ⟨_, rfl⟩
            obtain ⟨x, hx⟩ : ∃ x, a + c = x := ⟨_, rfl⟩
            obtain ⟨c2, hc2⟩ : ∃ c2, H - 1 - c = c2 := ⟨_, rfl⟩
            obtain ⟨y, hy⟩ : ∃ y, m + c2 = y := ⟨_, rfl⟩
            have hst : ((S : Int) + (R : Int)) / 2 = (x : Int) := by omega
            have hfy : ((f : Int) - (x : Int)) = (y : Int) := by omega
            have hyw : IntKind.i64.wrap (y : Int) = (y : Int) := by rw [IntKind.wrap_i64]; omega
            obtain ⟨p, e1, -, -⟩ := parted (show c < U.length by omega)
            obtain ⟨q, e2, -, -⟩ := parted (show c2 < V.length by omega)
            obtain ⟨p0, p1⟩ := p
            obtain ⟨q0, q1⟩ := q
            have hl1 : (U.take c).length = c := by simp; omega
            have hl2 : (V.take c2).length = c2 := by simp; omega
            have hxc := (show Row base g n cap ((A ++ U.take c) ++ (p0, p1) :: (U.drop (c + 1) ++ V ++ C)) wr by
              have := hrow
              rw [e1] at this
              simpa using this).at (i := x) (by simp; omega)
            have hyc := (show Row base g n cap ((A ++ U ++ V.take c2) ++ (q0, q1) :: (V.drop (c2 + 1) ++ C)) wr by
              have := hrow
              rw [e2] at this
              simpa using this).at (i := y) (by simp; omega)
            have HE := hid (show U[c]? = some (p0, p1) ∧ V[H - 1 - c]? = some (q0, q1) from ⟨by
              rw [e1, List.getElem?_append_right (by omega), hl1]; simp, by
              rw [hc2, e2, List.getElem?_append_right (by omega), hl2]; simp⟩)
            have hg := hrow.lt
            have HW2 := hid hrow
            have HX := hid hxc
            have HYY := hid hyc
            simp only at hxc hyc
            obtain ⟨cx0, cx1⟩ := hxc
            obtain ⟨cy0, cy1⟩ := hyc
            have hx0 : (0 : Int) ≤ (x : Int) := by omega
            have hxn : (x : Int) < (n : Int) := by omega
            have hy0 : (0 : Int) ≤ (y : Int) := by omega
            have hyn : (y : Int) < (n : Int) := by omega
            clear hrow e1 e2
            go_wp2_with fail
            go_region_held3 (fun w' => w'.cell? ⟨g, x * 2, none⟩ = some (.string p0) ∧ w'.cell? ⟨g, x * 2 + 1, none⟩ = some (.string p1) ∧ w'.cell? ⟨g, y * 2, none⟩ = some (.string q0) ∧ w'.cell? ⟨g, y * 2 + 1, none⟩ = some (.string q1)) (go_keep)
              (first | (go_at_call 139; refine (byKey_calls (q0, q1) (p0, p1) _).mono ?_; rintro e' w5 ⟨dc, rfl, hdc, hb5⟩; have k1 := (cells_below hb5 hg HYY.out).1; have k2 := (cells_below hb5 hg HYY.out).2; have k3 := (cells_below hb5 hg HX.out).1; have k4 := (cells_below hb5 hg HX.out).2; have H5 := hid hb5; have HC := hid hdc; clear hdc hb5))
            have HW5 := hid (HW2.out.below (below_drew1 _ |>.trans H5.out))
            have HG5 := hid (grownBy_trans hgr (grownBy_below (below_drew1 _ |>.trans H5.out) (some g)))
            clear hgr HW2 H5 cx0 cx1 cy0 cy1 HX HYY hg
            obtain ⟨z, hz⟩ : ∃ z, kLt q0 p0 = z := ⟨_, rfl⟩
            have hdc := HC.out
            rw [hz] at hdc
            have Hz := hid hz
            rw [hdc]
            clear HC hz hdc
            cases z
            · go_wp2
              go_roundw
              case rel => exact ⟨c + 1, r, x + 1, R, by omega, hR, by go_num, rfl, HSy.out.up ⟨by omega, by omega⟩ (by omega) HE.out.1 HE.out.2 Hz.out, HW5.out, HG5.out⟩
              case measure => simp [intOf]; omega
            · go_wp2
              go_roundw
              case rel => exact ⟨s, c, S, x, hS, hx, rfl, by go_num, HSy.out.down ⟨by omega, by omega⟩ (by omega) HE.out.1 HE.out.2 Hz.out, HW5.out, HG5.out⟩
              case measure => simp [intOf]; omega
        · as_aux_lemma =>
            have hd1 : decide (S < R) = false := by simp; omega
            obtain rfl : s = r := by omega
            have HP := hid (HSy.out.parts HU.out HV.out (by rw [hnu]; exact hs0) (by rw [hmu]; exact hr0) (by omega) (by omega))
            obtain ⟨E, hE⟩ : ∃ E, m + (H - s) = E := ⟨_, rfl⟩
            have heS : ((e : Int) - (S : Int)) = (E : Int) := by omega
            have l1 : (U.take s).length = s := by simp; omega
            have l2 : (U.drop s).length = mu - s := by simp; omega
            have l3 : (V.take (H - s)).length = H - s := by simp; omega
            have l4 : (V.drop (H - s)).length = nu - (H - s) := by simp; omega
            have hr1 : Rising (U.take s) := (rising_append.1 (show Rising (U.take s ++ U.drop s) by rw [List.take_append_drop]; exact HU.out)).1
            have hr2 : Rising (U.drop s) := (rising_append.1 (show Rising (U.take s ++ U.drop s) by rw [List.take_append_drop]; exact HU.out)).2.1
            have hr3 : Rising (V.take (H - s)) := (rising_append.1 (show Rising (V.take (H - s) ++ V.drop (H - s)) by rw [List.take_append_drop]; exact HV.out)).1
            have hr4 : Rising (V.drop (H - s)) := (rising_append.1 (show Rising (V.take (H - s) ++ V.drop (H - s)) by rw [List.take_append_drop]; exact HV.out)).2.1
            have eU := List.take_append_drop s U
            have eV := List.take_append_drop (H - s) V
            rw [← eU, ← eV] at hrow
            generalize U.take s = U1 at *
            generalize U.drop s = U2 at *
            generalize V.take (H - s) = V1 at *
            generalize V.drop (H - s) = V2 at *
            have HRi := hid (And.intro (And.intro hr1 hr2) (And.intro hr3 hr4))
            have HW2 := hid hrow
            clear hrow hr1 hr2 hr3 hr4 HSy eU eV
            go_upto_region 39 with fail
            go_cut [185] (fun c wx => ∃ t : Bool, c = .bool t ∧ (t = true ↔ S < m ∧ m < E) ∧ wx = wr)
            case first => as_aux_lemma =>
                by_cases h1 : S < m
                · have d1 : decide (S < m) = true := by simp; omega
                  by_cases h2 : m < E
                  · have d2 : decide (m < E) = true := by simp; omega
                    go_wp2
                    go_meet
                    case rel => exact ⟨true, rfl, by simp; omega, rfl⟩
                  · have d2 : decide (m < E) = false := by simp; omega
                    go_wp2
                    go_meet
                    case rel => exact ⟨false, rfl, by simp; omega, rfl⟩
                · have d1 : decide (S < m) = false := by simp; omega
                  go_wp2
                  go_meet
                  case rel => exact ⟨false, rfl, by simp; omega, rfl⟩
            case rest => as_aux_lemma =>
                obtain ⟨t1, rfl, ht1, hwc⟩ := hcut
                rw [hwc]
                clear hwc
                have HT1 := hid ht1
                clear ht1
                go_upto_if 185 with fail
                go_cut [] (fun wx => Row base g n cap (A ++ U1 ++ V1 ++ U2 ++ V2 ++ C) wx ∧ w.grownBy wx (some g))
                case first => as_aux_lemma =>
                    cases t1
                    · go_wp2
                      go_meet
                      case rel =>
                        refine ⟨?_, hgr⟩
                        have : ¬ (S < m ∧ m < E) := fun h => by have := HT1.out.2 h; cases this
                        have hz : U2 = [] ∨ V1 = [] := by
                          by_cases h1 : S < m
                          · exact .inr (List.eq_nil_of_length_eq_zero (by omega))
                          · exact .inl (List.eq_nil_of_length_eq_zero (by omega))
                        rcases hz with hz | hz
                        · rw [hz]; have := HW2.out; rw [hz] at this; simpa using this
                        · rw [hz]; have := HW2.out; rw [hz] at this; simpa using this
                    · obtain ⟨h1, h2⟩ := HT1.out.1 rfl
                      have HW3 := hid (show Row base g n cap ((A ++ U1) ++ U2 ++ V1 ++ (V2 ++ C)) wr by simpa using HW2.out)
                      clear HW2
                      go_wp2_with fail
                      refine (rotate_calls base g n cap S m E keyFn _ _ _ _ wr HW3.out hn (by simp; omega) (by omega) (by omega) h1 h2).mono ?_
                      rintro e' w2 ⟨rfl, hr2, hg2⟩
                      have HG2 := hid (grownBy_trans hgr hg2)
                      have HR2 := hid (show Row base g n cap (A ++ U1 ++ V1 ++ U2 ++ V2 ++ C) w2 by simpa using hr2)
                      clear hr2 hg2
                      go_wp2
                      go_meet
                      case rel => exact ⟨HR2.out, HG2.out⟩
                case rest => as_aux_lemma =>
                    clear hgr HW2 HT1
                    rename World => wa
                    obtain ⟨hrow, hgr⟩ := hcut
                    have HW2 := hid hrow
                    clear hrow
                    go_upto_region 41 with fail
                    go_cut [199] (fun c wx => ∃ t : Bool, c = .bool t ∧ (t = true ↔ a < S ∧ S < d) ∧ wx = wa)
                    case first => as_aux_lemma =>
                        by_cases h1 : a < S
                        · have d1 : decide (a < S) = true := by simp; omega
                          by_cases h2 : S < d
                          · have d2 : decide (S < d) = true := by simp; omega
                            go_wp2
                            go_meet
                            case rel => exact ⟨true, rfl, by simp; omega, rfl⟩
                          · have d2 : decide (S < d) = false := by simp; omega
                            go_wp2
                            go_meet
                            case rel => exact ⟨false, rfl, by simp; omega, rfl⟩
                        · have d1 : decide (a < S) = false := by simp; omega
                          go_wp2
                          go_meet
                          case rel => exact ⟨false, rfl, by simp; omega, rfl⟩
                    case rest => as_aux_lemma =>
                        obtain ⟨t2, rfl, ht2, hwc⟩ := hcut
                        rw [hwc]
                        clear hwc
                        have HT2 := hid ht2
                        clear ht2
                        go_upto_if 199 with fail
                        go_cut [] (fun wx => Row base g n cap (A ++ srt (U1 ++ V1) ++ U2 ++ V2 ++ C) wx ∧ w.grownBy wx (some g))
                        case first => as_aux_lemma =>
                            cases t2
                            · go_wp2
                              go_meet
                              case rel =>
                                refine ⟨?_, hgr⟩
                                have : ¬ (a < S ∧ S < d) := fun h => by have := HT2.out.2 h; cases this
                                have hz : U1 = [] ∨ V1 = [] := by
                                  by_cases h1 : a < S
                                  · exact .inr (List.eq_nil_of_length_eq_zero (by omega))
                                  · exact .inl (List.eq_nil_of_length_eq_zero (by omega))
                                have hq : srt (U1 ++ V1) = U1 ++ V1 := by
                                  rcases hz with hz | hz
                                  · rw [hz]; exact srt_self HRi.out.2.1
                                  · rw [hz, List.append_nil]; exact srt_self HRi.out.1.1
                                rw [hq]
                                simpa using HW2.out
                            · obtain ⟨h1, h2⟩ := HT2.out.1 rfl
                              have HW3 := hid (show Row base g n cap (A ++ U1 ++ V1 ++ (U2 ++ V2 ++ C)) wa by simpa using HW2.out)
                              clear HW2
                              have hI := HIH.out base g n cap a S d A U1 V1 (U2 ++ V2 ++ C) wa (by omega) HW3.out hn ha (by omega) (by omega) (by omega) (by omega) HRi.out.1.1 HRi.out.2.1
                              unfold SymDoes at hI
                              have HI := hid hI
                              clear hI
                              go_wp2_with fail
                              refine HI.out.mono ?_
                              rintro e' w2 ⟨rfl, hr2, hg2⟩
                              have HG2 := hid (grownBy_trans hgr hg2)
                              have HR2 := hid (show Row base g n cap (A ++ srt (U1 ++ V1) ++ U2 ++ V2 ++ C) w2 by simpa using hr2)
                              clear hr2 hg2
                              go_wp2
                              go_meet
                              case rel => exact ⟨HR2.out, HG2.out⟩
                        case rest => as_aux_lemma =>
                            clear hgr HW2 HT2
                            obtain ⟨hrow, hgr⟩ := hcut
                            have HW2 := hid hrow
                            clear hrow
                            have hsl : (srt (U1 ++ V1)).length = H := by rw [length_srt, List.length_append]; omega
                            by_cases h1 : d < E
                            · have d1 : decide (d < E) = true := by simp; omega
                              by_cases h2 : E < b
                              · have d2 : decide (E < b) = true := by simp; omega
                                have HW3 := hid (show Row base g n cap ((A ++ srt (U1 ++ V1)) ++ U2 ++ V2 ++ C) wc by simpa using HW2.out)
                                clear HW2
                                have hI := HIH.out base g n cap d E b (A ++ srt (U1 ++ V1)) U2 V2 C wc (by omega) HW3.out hn (by simp; omega) (by omega) (by omega) (by omega) (by omega) HRi.out.1.2 HRi.out.2.2
                                unfold SymDoes at hI
                                have HI := hid hI
                                clear hI
                                go_wp2_with fail
                                refine HI.out.mono ?_
                                rintro e' w2 ⟨rfl, hr2, hg2⟩
                                have HG2 := hid (grownBy_trans hgr hg2)
                                have HR2 := hid (show Row base g n cap (A ++ srt (U ++ V) ++ C) w2 by rw [← HP.out]; simpa using hr2)
                                clear hr2 hg2
                                go_wp2
                                go_end0
                                exact ⟨rfl, HR2.out, HG2.out⟩
                              · have d2 : decide (E < b) = false := by simp; omega
                                have HR2 := hid (show Row base g n cap (A ++ srt (U ++ V) ++ C) wc by
                                  obtain rfl : V2 = [] := List.eq_nil_of_length_eq_zero (by omega)
                                  rw [← HP.out, List.append_nil, srt_self HRi.out.1.2]
                                  simpa using HW2.out)
                                clear HW2
                                go_wp2
                                go_end0
                                exact ⟨rfl, HR2.out, hgr⟩
                            · have d1 : decide (d < E) = false := by simp; omega
                              have HR2 := hid (show Row base g n cap (A ++ srt (U ++ V) ++ C) wc by
                                obtain rfl : U2 = [] := List.eq_nil_of_length_eq_zero (by omega)
                                rw [← HP.out, List.nil_append, srt_self HRi.out.2.2]
                                simpa using HW2.out)
                              clear HW2
                              go_wp2
                              go_end0
                              exact ⟨rfl, HR2.out, hgr⟩
            
/-- symMerge merges, whatever runs there are. -/
theorem sym_ok : ∀ k, SymOk k
  | 0 => fun base g n cap a m b A U V C w h => absurd h (by omega)
  | k + 1 => fun base g n cap a m b A U V C w h hr hn ha hm hb hu hv hU hV => by
    have ih := sym_ok k
    by_cases h1 : U.length = 1
    · obtain ⟨u, rfl⟩ := List.length_eq_one_iff.1 h1
      have := symLeft_calls base g n cap a m b A u V C w (by simpa using hr) hn ha (by simpa using hm) hb hV
      exact this
    · by_cases h2 : V.length = 1
      · obtain ⟨v, rfl⟩ := List.length_eq_one_iff.1 h2
        exact symRight_calls base g n cap a m b A U v C w (by simpa using hr) hn ha hm (by simpa using hb) h1 hU
      · refine symMid_calls base g n cap a m b A U V C w ?_ hr hn ha hm hb (by omega) (by omega) hU hV
        intro base g n cap a m b A U V C w hk
        exact ih base g n cap a m b A U V C w (by omega)
end Go.Proofs.YtfimoobgbodbmaaGreatDoor
