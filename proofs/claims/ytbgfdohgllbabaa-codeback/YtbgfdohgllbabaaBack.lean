/- The walk of CodeBack. -/
import Derived.Test.YtbgfdohgllbabaaBackMath
namespace Go.Proofs.Ytbgfdohgllbabaa
open Go.RowKit
set_option linter.unusedVariables false

theorem back_great (w : World) (v : Value) (l : List Int) (hv : Bs w v l) (vn : Value) (ns : List Int) (hn : Is w vn ns) (vt : Value) (ts : List ByteArray) (ht : Ss w vt ts) (hts : ∀ s ∈ ts, s.size ≤ maxLen)
    (h : 100 < l.length ∨ 20 < ns.length ∨ 20 < ts.length ∨ ∃ j, j < ts.length ∧ 100 < (ts.getD j ByteArray.empty).size) :
    Calls Try.prog 5 #[v, vn, vt] w fun e w' => e = .returned (.bool true) ∧ Below w.heap.size w w' := by
  obtain ⟨ao, cap, rfl, h1, h2, h3, h4⟩ := hv
  obtain ⟨an, cn, rfl, n1, n2, n3, n4⟩ := hn
  unfold maxLen at h2 n2
  have HT := hid ht
  have HS := hid hts
  have H := hid h
  clear h3 h4 n3 n4 ht hts h
  by_cases l100 : 100 < l.length
  · go_enter Try.func5, Try.ntmps5
    go_wp2_with (go_at_call 8; refine (awake_any _).mono ?_; rintro e w3 ⟨rfl, hb3⟩)
    go_ret
    exact ⟨rfl, hb3⟩
  · have g1 : decide ((100 : Int) < (l.length : Int)) = false := by simp; omega
    by_cases n20 : 20 < ns.length
    · go_enter Try.func5, Try.ntmps5
      go_wp2_with (go_at_call 8; refine (awake_any _).mono ?_; rintro e w3 ⟨rfl, hb3⟩)
      go_ret
      exact ⟨rfl, hb3⟩
    · have g2 : decide ((20 : Int) < (ns.length : Int)) = false := by simp; omega
      go_enter Try.func5, Try.ntmps5
      go_wp2_with fail
      refine (great_yes _ ts 20 w HT.out (by omega) ((H.out.resolve_left l100).resolve_left n20) HS.out).mono ?_
      rintro e w1 ⟨rfl, rfl⟩
      go_wp2_with (go_at_call 8; refine (awake_any _).mono ?_; rintro e w3 ⟨rfl, hb3⟩)
      go_ret
      exact ⟨rfl, hb3⟩

set_option maxRecDepth 100000 in
set_option maxHeartbeats 1000000 in
theorem back_small (w : World) (v : Value) (l : List Int) (hv : Bs w v l) (hB : Byt l) (vn : Value) (ns : List Int) (hn : Is w vn ns) (hwn : ∀ n ∈ ns, -9223372036854775808 ≤ n ∧ n ≤ 9223372036854775807) (vt : Value) (ts : List ByteArray) (ht : Ss w vt ts)
    (l100 : l.length ≤ 100) (n20 : ns.length ≤ 20) (t20 : ts.length ≤ 20) (hts : ∀ s ∈ ts, s.size ≤ 100) :
    Calls Try.prog 5 #[v, vn, vt] w fun e w' => e = .returned (.bool true) ∧ Below w.heap.size w w' := by
  have HV := hid hv
  have HN := hid hn
  have HT := hid ht
  have HS := hid hts
  have HWN := hid hwn
  have HBY := hid hB
  obtain ⟨ao, cap, rfl, h1, h2, h3, h4⟩ := hv
  obtain ⟨an, cn, rfl, n1, n2, n3, n4⟩ := hn
  obtain ⟨at_, ct, rfl, t1, t2, t3, t4⟩ := ht
  obtain ⟨i0, hi, hz0, hz1, hz2⟩ := info_parts Try.info5
  unfold maxLen at h2 n2 t2
  have hnone : ao = none → l.length = 0 ∧ cap = 0 := fun e => ⟨by rw [(h3 e).1]; rfl, (h3 e).2⟩
  clear h3 h4 n3 n4 t3 t4 hts hwn hB
  have g1 : decide ((100 : Int) < (l.length : Int)) = false := by simp; omega
  have g2 : decide ((20 : Int) < (ns.length : Int)) = false := by simp; omega
  go_enter Try.func5, Try.ntmps5
  go_wp2_with fail
  refine (great_no _ ts 20 w HT.out (by omega) t20 HS.out).mono ?_
  rintro e w1 ⟨rfl, rfl⟩
  go_wp2_with (at_builtin; refine wpList_append_own_any _ rfl _ _ 22 rfl w.heap.size 5 i0 (.int .u8 0) 1 1 Try.underlying22 hi hz0 hz1 hz2 rfl (by decide) _ 0 [] rfl (World.ownsRow_nil _ _ _ _) ao l.length cap (cel l) rfl (by rw [cel_length]; omega) hnone (HV.out.news (Below.refl _ _)) (cel_oneCell l) (by unfold maxLen; omega) (by omega) (Nat.le_refl _) ?_; intro v1 w1 ho1 hg1)
  have hb1 : Below w.heap.size w w1 := (Below.refl _ _).grown hg1 (Nat.le_refl _) (by intro k hk; cases hk)
  rw [Nat.zero_add, List.nil_append] at ho1
  have hx1 := hid (Bs.owned ho1)
  clear hg1 hnone ho1
  go_loopw [7, 8] (fun x i wr => ∃ k : Nat, k ≤ ns.length ∧ i = .int .i64 k ∧ Bs wr x (l ++ NB (ns.take k)) ∧ Below w.heap.size w wr) (fun _ i _ => ns.length - (intOf i).toNat)
  case atStart => exact ⟨0, by omega, rfl, by simpa [NB] using hx1.out, hb1⟩
  case round =>
    obtain ⟨k, hk, rfl, hx, hb⟩ := hrel
    have hlen : (l ++ NB (ns.take k)).length ≤ 260 := by rw [List.length_append, NB_length, List.length_take]; omega
    clear hx1 hb1
    by_cases hlt : k < ns.length
    · obtain ⟨X, hX⟩ : ∃ X, l ++ NB (ns.take k) = X := ⟨_, rfl⟩
      rw [hX] at hlen hx
      have HX := hid hx
      have HXX := hid hX
      clear hx hX
      obtain ⟨an0, cn0, hvv, _, _, _, hcn⟩ := (HN.out.below hb)
      obtain ⟨bn, offn, rfl, _, hcell⟩ := hcn (by omega)
      cases hvv
      have c1 : wr.cell? ⟨bn, offn + k, none⟩ = some (.int .i64 (ns.getD k 0)) := hcell k hlt
      obtain ⟨n, hn⟩ : ∃ n, ns.getD k 0 = n := ⟨_, rfl⟩
      rw [hn] at c1
      have HNN := hid hn
      clear hcell hcn hn
      go_wp2_with fail
      refine (num_any _ n X wr HX.out (by omega)).mono ?_
      rintro e w2 ⟨rfl, ho2, hb2⟩
      have hb3 := hb.trans (hb2.mono hb.size)
      have hx2 := Bs.own ho2
      have eX : X ++ be8 n = l ++ NB (ns.take (k + 1)) := by rw [NB_snoc ns k hlt, ← HXX.out, HNN.out, List.append_assoc]
      rw [eX] at hx2
      replace hx2 := hid hx2
      clear ho2 hb2 eX
      go_wp2
      go_roundw
      case rel => exact ⟨k + 1, by omega, by go_num, hx2.out, hb3⟩
      case measure => simp [intOf]; omega
    · obtain rfl : k = ns.length := by omega
      rw [List.take_length] at hx hlen
      have HX := hid hx
      clear hx
      go_wp2_with fail
      go_loopw [7, 9] (fun x i wq => ∃ k : Nat, k ≤ ts.length ∧ i = .int .i64 k ∧ Bs wq x (l ++ NB ns ++ TB (ts.take k)) ∧ Below w.heap.size w wq) (fun _ i _ => ts.length - (intOf i).toNat)
      case atStart => exact ⟨0, by omega, rfl, by simpa [TB] using HX.out, hb⟩
      case round =>
        obtain ⟨k, hk, rfl, hx, hbq⟩ := hrel
        have hNB := NB_length ns
        have hlen2 : (l ++ NB ns ++ TB (ts.take k)).length ≤ 2420 := by
          have := TB_bd (ts.take k) (fun s hs => HS.out s (List.mem_of_mem_take hs))
          rw [List.length_take] at this
          rw [List.length_append, List.length_append, NB_length]; omega
        clear HX hb hlen hNB
        by_cases hlt2 : k < ts.length
        · obtain ⟨X, hX⟩ : ∃ X, l ++ NB ns ++ TB (ts.take k) = X := ⟨_, rfl⟩
          rw [hX] at hlen2 hx
          have HY := hid hx
          have HXX := hid hX
          clear hx hX
          obtain ⟨an0, cn0, hvv, _, _, _, hcn⟩ := (HT.out.below hbq)
          obtain ⟨bn, offn, rfl, _, hcell⟩ := hcn (by omega)
          cases hvv
          have c1 := hcell k hlt2
          obtain ⟨s, hs⟩ : ∃ s, ts.getD k ByteArray.empty = s := ⟨_, rfl⟩
          simp only [hs] at c1
          have hss : s.size ≤ 100 := by
            rw [← hs, List.getD, List.getElem?_eq_getElem hlt2]
            exact HS.out _ (List.getElem_mem hlt2)
          have HNN := hid hs
          clear hcell hcn hs
          go_wp2_with fail
          refine (text_own _ s X _ HY.out (by omega)).mono ?_
          rintro e w2 ⟨rfl, ho2, hb2⟩
          have hb3 := hbq.trans (hb2.mono hbq.size)
          have hx2 := Bs.own ho2
          have eX : X ++ be8 s.size ++ nums s = l ++ NB ns ++ TB (ts.take (k + 1)) := by rw [TB_snoc ts k hlt2, HNN.out, ← HXX.out]; simp [List.append_assoc]
          rw [eX] at hx2
          replace hx2 := hid hx2
          clear ho2 hb2 eX
          go_wp2
          go_roundw
          case rel => exact ⟨k + 1, by omega, by go_num, hx2.out, hb3⟩
          case measure => simp [intOf]; omega
        · obtain rfl : k = ts.length := by omega
          rw [List.take_length] at hx hlen2
          obtain ⟨X, hX⟩ : ∃ X, l ++ NB ns ++ TB ts = X := ⟨_, rfl⟩
          rw [hX] at hlen2 hx
          have HY := hid hx
          have HXX := hid hX
          clear hX
          obtain ⟨xo, xc, rfl, x1, x2, x3, x4⟩ := hx
          unfold maxLen at x2
          have HBX := hid (show Byt X by rw [← HXX.out]; exact Byt.append (Byt.append HBY.out (Byt.NB ns)) (Byt.TB ts))
          clear x3 x4
          have hXl : X.length = l.length + 8 * ns.length + (TB ts).length := by rw [← HXX.out, List.length_append, List.length_append, NB_length]
          have HXL := hid hXl
          clear hXl
          go_wp2_with fail
          go_loop [10, 11] (fun a i => ∃ k : Nat, k ≤ ns.length ∧ i = .int .i64 k ∧ a = .int .i64 ((l.length + 8 * k : Nat) : Int)) (fun _ i => ns.length - (intOf i).toNat)
          case atStart => exact ⟨0, by omega, rfl, rfl⟩
          case round =>
            obtain ⟨k, hk, rfl, rfl⟩ := hrel
            by_cases hlt3 : k < ns.length
            · obtain ⟨an0, cn0, hvv, _, _, _, hcn⟩ := (HN.out.below hbq)
              obtain ⟨bn, offn, rfl, _, hcell⟩ := hcn (by omega)
              cases hvv
              have c1 := hcell k hlt3
              obtain ⟨n, hn⟩ : ∃ n, ns.getD k 0 = n := ⟨_, rfl⟩
              simp only [hn] at c1
              have hread : rdNum X ((l.length + 8 * k : Nat) : Int) = (n, ((l.length + 8 * k : Nat) : Int) + 8, true) := by
                have hwf : -9223372036854775808 ≤ n ∧ n ≤ 9223372036854775807 := by
                  rw [← hn, List.getD, List.getElem?_eq_getElem hlt3]
                  exact HWN.out _ (List.getElem_mem hlt3)
                have e1 : (l ++ NB (ns.take k)).length = l.length + 8 * k := by rw [List.length_append, NB_length, List.length_take]; omega
                have e2 : X = (l ++ NB (ns.take k)) ++ be8 n ++ (NB (ns.drop (k + 1)) ++ TB ts) := by
                  rw [← HXX.out, NB_split ns k hlt3, hn]; simp [List.append_assoc]
                have := rd_mid (l ++ NB (ns.take k)) (NB (ns.drop (k + 1)) ++ TB ts) n hwf
                rw [← e2, e1] at this
                exact this
              have HR := hid hread
              clear hcell hcn hn hread
              go_wp2_with fail
              refine (readnum_any _ X _ _ HY.out HBX.out).mono ?_
              rintro e w2 ⟨rfl, rfl⟩
              rw [show ((l.length : Int) + 8 * (k : Int)) = ((l.length + 8 * k : Nat) : Int) by omega]
              rw [HR.out]
              go_wp2
              go_round
              case rel => exact ⟨k + 1, by omega, by go_num, by go_num⟩
              case measure => simp [intOf]; omega
            · obtain rfl : k = ns.length := by omega
              have hTBl := TB_bd ts HS.out
              go_wp2_with fail
              go_loop [10, 15] (fun a i => ∃ k : Nat, k ≤ ts.length ∧ i = .int .i64 k ∧ a = .int .i64 ((l.length + 8 * ns.length + (TB (ts.take k)).length : Nat) : Int)) (fun _ i => ts.length - (intOf i).toNat)
              case atStart => exact ⟨0, by omega, rfl, by simp [TB]⟩
              case round =>
                obtain ⟨k, hk, rfl, rfl⟩ := hrel
                by_cases hlt4 : k < ts.length
                · obtain ⟨an0, cn0, hvv, _, _, _, hcn⟩ := (HT.out.below hbq)
                  obtain ⟨bn, offn, rfl, _, hcell⟩ := hcn (by omega)
                  cases hvv
                  have c1 := hcell k hlt4
                  obtain ⟨s, hs⟩ : ∃ s, ts.getD k ByteArray.empty = s := ⟨_, rfl⟩
                  simp only [hs] at c1
                  have hss : s.size ≤ 100 := by
                    rw [← hs, List.getD, List.getElem?_eq_getElem hlt4]
                    exact HS.out _ (List.getElem_mem hlt4)
                  obtain ⟨P, hP⟩ : ∃ P, l.length + 8 * ns.length + (TB (ts.take k)).length = P := ⟨_, rfl⟩
                  have hP1 : l.length + 8 * ns.length + (TB (ts.take (k + 1))).length = P + 8 + s.size := by
                    rw [TB_snoc ts k hlt4, hs, List.length_append, List.length_append, be8_length, nums_length]; omega
                  have hread : rdText X (P : Int) = (s, (P : Int) + 8 + s.size, true) := by
                    have e1 : (l ++ NB ns ++ TB (ts.take k)).length = P := by rw [List.length_append, List.length_append, NB_length]; exact hP
                    have e2 : X = (l ++ NB ns ++ TB (ts.take k)) ++ (be8 s.size ++ nums s) ++ TB (ts.drop (k + 1)) := by
                      rw [← HXX.out]; conv => lhs; rw [TB_split ts k hlt4, hs]
                      simp [List.append_assoc]
                    have := rdt_mid (l ++ NB ns ++ TB (ts.take k)) (TB (ts.drop (k + 1))) s hss
                    rw [← e2, e1] at this
                    exact this
                  have hPb : P ≤ 2420 := by
                    have := TB_bd (ts.take k) (fun s hs => HS.out s (List.mem_of_mem_take hs))
                    rw [List.length_take] at this
                    omega
                  rw [hP]
                  have HR := hid hread
                  have HP1 := hid hP1
                  clear hcell hcn hs hread hP1 hP
                  go_wp2_with fail
                  refine (readtext_all _ X _ _ HY.out HBX.out).mono ?_
                  rintro e w2 ⟨rfl, rfl⟩
                  rw [HR.out]
                  go_wp2
                  go_round
                  case rel => exact ⟨k + 1, by omega, by go_num, by rw [HP1.out]; go_num⟩
                  case measure => simp [intOf]; omega
                · obtain rfl : k = ts.length := by omega
                  rw [List.take_length, ← HXL.out]
                  have hle : l.length ≤ X.length := by rw [HXL.out]; omega
                  go_wp2_with fail
                  refine (readnum_any _ X _ _ HY.out HBX.out).mono ?_
                  rintro e w2 ⟨rfl, rfl⟩
                  rw [rd_end X]
                  generalize (rdNum X X.length).1 = q1
                  generalize (rdNum X X.length).2.1 = q2
                  have htk : X.take l.length = l := by rw [← HXX.out, List.append_assoc, List.take_left]
                  have hxl := HY.out.take l.length hle
                  rw [htk] at hxl
                  have HXT := hid hxl
                  clear htk hxl
                  go_wp2_with fail
                  refine (same_any _ _ l l _ HXT.out (HV.out.below hbq)).mono ?_
                  rintro e w3 ⟨rfl, n3, rfl⟩
                  rw [decide_eq_true rfl]
                  have hb3 := below_drewN hbq n3
                  go_wp2_with (go_at_call 8; refine (awake_any _).mono ?_; rintro e w4 ⟨rfl, hb4⟩)
                  go_ret
                  exact ⟨rfl, hb3.trans (hb4.mono hb3.size)⟩

theorem codeBack_walk (w : World) (v : Value) (l : List Int) (hv : Bs w v l) (hB : Byt l) (vn : Value) (ns : List Int) (hn : Is w vn ns) (hwn : ∀ n ∈ ns, (Lit.int .i64 n).wf = true) (vt : Value) (ts : List ByteArray) (ht : Ss w vt ts) (hts : ∀ s ∈ ts, s.size ≤ maxLen) :
    Calls Try.prog 5 #[v, vn, vt] w fun e w' => e = .returned (.bool true) ∧ Below w.heap.size w w' := by
  by_cases h : 100 < l.length ∨ 20 < ns.length ∨ 20 < ts.length ∨ ∃ j, j < ts.length ∧ 100 < (ts.getD j ByteArray.empty).size
  · exact back_great w v l hv vn ns hn vt ts ht hts h
  · refine back_small w v l hv hB vn ns hn (fun n hm => ?_) vt ts ht (by omega) (by omega) (by omega) (fun s hs => ?_)
    · have := hwn n hm
      simp [Lit.wf, IntKind.min, IntKind.max, IntKind.signed, IntKind.bits] at this
      omega
    · obtain ⟨j, hj, rfl⟩ := List.getElem_of_mem hs
      rcases Nat.lt_or_ge 100 ts[j].size with h1 | h1
      · exact absurd (.inr (.inr (.inr ⟨j, hj, by rw [List.getD, List.getElem?_eq_getElem hj]; exact h1⟩))) h
      · exact h1
end Go.Proofs.Ytbgfdohgllbabaa
