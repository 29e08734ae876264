/- Send. -/
import Derived.Test.YtocedfagfmkgdaaLtOps
import Derived.Test.YtocedfagfmkgdaaLtTal
namespace Go.Proofs.Ytocedfagfmkgdaa
open Go.RowKit
set_option linter.unusedVariables false

theorem send_nil (v : Value) (w : World) : Calls Try.prog 9 #[.pointer none, v] w fun e w' => e = .returned (.int .i64 0) ∧ w = w' := by
  go_enter Try.func9, Try.ntmps9
  go_wp2
  go_ret
  exact ⟨rfl, rfl⟩
/-- The first k are sent. -/
structure Snd (B b : Nat) (u : Value) (xs ls : List LetX) (W : World) (k : Nat) (u' : Value) (ys : List LetX) (w : World) : Prop where
  let_ : plain ys = sendN (plain xs) ((plain ls).take k)
  net : Nt B b u' ys w
  tal : Ty w W.heap.size (lostN (plain xs) ((plain ls).take k))
  far : ∀ g, u'.ownBlock = some g → g ≠ W.heap.size
  sav : Sav (Ow b u) W w
  nxt : Next W u u'
section
variable {B b k : Nat} {u u' u2 : Value} {xs ls ys zs : List LetX} {x : LetX} {W w w1 w2 : World}
theorem Snd.new (h : Nt B b u xs W) : Snd B b u xs ls W 0 u xs (W.alloc (.cells #[.int .i64 0, .int .i64 0, .int .i64 0, .int .i64 0, .int .i64 0, .int .i64 0, .int .i64 0, .int .i64 0] 71)) :=
  ⟨by rw [List.take_zero, (sendN_nil _).1], h.below (alloc_one _ _), by rw [List.take_zero, (sendN_nil _).2]; exact Ty.new W, fun g hg => by have := (h.row.row.lt g hg).2; omega, (Sav.refl _ _).alloc _, .inl rfl⟩
theorem Snd.lenB (h : Snd B b u xs ls W k u' ys w) : b < W.heap.size → b ≠ W.heap.size := fun e => by omega
theorem Snd.lost (h : Snd B b u xs ls W k u' ys w) (hk : k ≤ ls.length) : lostN (plain xs) ((plain ls).take k) ≤ k := by
  unfold lostN
  rw [List.length_take]
  omega
/-- There is room. -/
theorem Snd.yes (h : Snd B b u xs ls W k u' ys w) (hbW : b < W.heap.size) (hx : ls[k]? = some x) (hr : ys.length < 128) (hb : Below w.heap.size w w1) (ht : ∃ y, y.r = x.r ∧ zs = ys ++ [y]) (hn : Nt B b u2 zs w2) (hs : Sav (Ow b u') w1 w2) (hx2 : Next w1 u' u2) : Snd B b u xs ls W (k + 1) u2 zs w2 := by
  obtain ⟨y, hy, rfl⟩ := ht
  have hm := sendN_yes (l := plain xs) (plain_at hx) (by rw [← h.let_, plain_len]; exact hr)
  have hlow := h.sav.size
  have hsz : W.heap.size ≤ w1.heap.size := Nat.le_trans hlow hb.size
  have htl := h.tal.lt
  refine ⟨by rw [plain_snoc, hy, hm.1, h.let_], hn, ?_, ?_, ?_, ?_⟩
  · rw [hm.2]
    refine (h.tal.below hb).sav hs (fun e => ?_)
    rcases e with e | e
    · omega
    · exact h.far _ e rfl
  · intro g hg
    rcases hx2 with e | e
    · exact h.far g (by rw [← e]; exact hg)
    · have := e g hg
      have := hb.size
      omega
  · refine (h.sav.trans (Sav.of_below hb)).then hs (fun i hi e => ?_)
    rcases e with e | e
    · exact .inl e
    · rcases h.nxt with q | q
      · exact .inr (by rw [← q]; exact e)
      · have := q i e
        omega
  · rcases hx2 with e | e
    · rcases h.nxt with q | q
      · exact .inl (e.trans q)
      · exact .inr (fun g hg => q g (by rw [← e]; exact hg))
    · exact .inr (fun g hg => Nat.le_trans hsz (e g hg))
/-- There is none. -/
theorem Snd.no (h : Snd B b u xs ls W k u' ys w) (hbW : b < W.heap.size) (hk : k < ls.length) (hl : xs.length ≤ 128) (hr : 128 ≤ ys.length) (hb : Below w.heap.size w w1) (ht : Ty w2 W.heap.size (lostN (plain xs) ((plain ls).take k) + 1)) (hs : Sav (Just W.heap.size) w1 w2) : Snd B b u xs ls W (k + 1) u' ys w2 := by
  have hm := sendN_no (l := plain xs) (ls := plain ls) (k := k) (by rw [plain_len]; exact hk) (by rw [← h.let_, plain_len]; exact hr) (by rw [plain_len]; exact hl)
  have ht1 := h.tal.below hb
  refine ⟨by rw [hm.1, h.let_], ?_, by rw [hm.2]; exact ht, h.far, ?_, h.nxt⟩
  · refine (h.net.below hb).sav hs (fun e => ?_) (fun g hg e => h.far g hg e) (fun q cs t f hq hc => ?_)
    · have : b = W.heap.size := e
      omega
    · rw [show q = W.heap.size from hq, ht1] at hc
      cases hc
      exact ⟨by decide, by decide⟩
  · exact (h.sav.trans (Sav.of_below hb)).then hs (fun i hi e => absurd (show i = W.heap.size from e) (by omega))
theorem Snd.on (h : Snd B b u xs ls W k u' ys w) (hb : Below w.heap.size w w1) : Snd B b u xs ls W k u' ys w1 :=
  ⟨h.let_, h.net.below hb, h.tal.below hb, h.far, h.sav.trans (Sav.of_below hb), h.nxt⟩
end
set_option maxHeartbeats 8000000 in
set_option maxRecDepth 100000 in
theorem send_net (B b : Nat) (u v : Value) (xs ls : List LetX) (w : World) (h : Nt B b u xs w) (hv : ∀ w', Sav (Ow b u) w w' → LetsX w' v ls) (hs : ∀ x ∈ ls, Sm x.r) (hl : ls.length ≤ 1000) :
    Calls Try.prog 9 #[.pointer (some ⟨b, 0, none⟩), v] w fun e w' => e = .returned (.int .i64 (lostN (plain xs) (plain ls) : Nat)) ∧ Turns B b u (sendN (plain xs) (plain ls)) w w' := by
  have HV := hid hv
  have HS := hid hs
  obtain ⟨ao, cap, rfl, a1, a2, -⟩ := (hv w (Sav.refl _ _)).slice
  unfold maxLen at a2
  have hbw := h.lt
  have hfew := h.few
  have H0 := hid (Snd.new (ls := ls) h)
  clear h hv hs
  go_enter Try.func9, Try.ntmps9
  go_wp2_with fail
  refine (new_any w).mono ?_
  rintro e w1 ⟨rfl, rfl⟩
  go_wp2
  go_loopw [13] (fun i wr => ∃ (k : Nat) (u' : Value) (ys : List LetX), i = .int .i64 k ∧ k ≤ ls.length ∧ Snd B b u xs ls w k u' ys wr) (fun i _ => ls.length - (intOf i).toNat)
  case atStart => exact ⟨0, u, xs, rfl, by omega, H0.out⟩
  case round =>
    obtain ⟨k, u', ys, rfl, hk, hsn⟩ := hrel
    have HN := hid hsn
    clear hsn H0
    by_cases hlt : k < ls.length
    · have d5 : decide ((k : Int) < (ls.length : Int)) = true := by simp; omega
      obtain ⟨p, po1, x, hx, rfl, hp, hix, q0, q1, q2, q3, q4, q5, q6, q7, q8, q9, qa, qb⟩ := (HV.out _ HN.out.sav).cell hlt
      have HX := hid hx
      have HI := hid hix
      have hk2 : (k : Int) < (ls.length : Int) := by omega
      clear hx hix
      by_cases hr : ys.length < 128
      · go_wp2_with fail
        refine (put_net B b u' ys x _ (HN.out.net.below (alloc_one _ _)) (HI.out.below (alloc_one _ _)) (HS.out x (List.mem_of_getElem? HX.out)) hr).mono ?_
        rintro e w2 ⟨rfl, u2, y, hy, hn, hsv, hnx⟩
        have H2 := hid (HN.out.yes hbw HX.out hr (alloc_one _ _) ⟨y, hy, rfl⟩ hn hsv hnx)
        clear hn hsv hnx q0 q1 q2 q3 q4 q5 q6 q7 q8 q9 qa qb
        go_wp2
        go_roundw
        case rel => exact ⟨k + 1, u2, _, by go_num, by omega, H2.out⟩
        case measure => simp [intOf]; omega
      · go_wp2_with fail
        refine (put_full B b u' ys x _ (HN.out.net.below (alloc_one _ _)) (by omega)).mono ?_
        rintro e w2 ⟨rfl, hb2⟩
        have HB2 := hid (below_then (alloc_one wr (.cells #[.int .i64 x.r.from_, .int .i64 x.r.to_, .int .i64 x.r.kind, .int .i64 x.r.split, .int .i64 x.r.attempt, .int .i64 x.r.part, .int .i64 x.r.seq, .int .i64 x.r.next, .int .i64 x.r.epoch, .int .i64 x.r.reason, .slice x.so x.r.set.length x.sc, .slice x.po x.r.prs.length x.pc] 36)) hb2 (alloc_one wr (.cells #[.int .i64 x.r.from_, .int .i64 x.r.to_, .int .i64 x.r.kind, .int .i64 x.r.split, .int .i64 x.r.attempt, .int .i64 x.r.part, .int .i64 x.r.seq, .int .i64 x.r.next, .int .i64 x.r.epoch, .int .i64 x.r.reason, .slice x.so x.r.set.length x.sc, .slice x.po x.r.prs.length x.pc] 36)).size)
        have hlo := HN.out.lost (by omega)
        clear hb2 q0 q1 q2 q3 q4 q5 q6 q7 q8 q9 qa qb
        go_wp2_with fail
        refine (add_one w.heap.size _ w2 (HN.out.tal.below HB2.out) (by omega)).mono ?_
        rintro e w3 ⟨⟨v3, rfl⟩, ht3, hs3⟩
        have H3 := hid (HN.out.no hbw hlt hfew (by omega) HB2.out ht3 hs3)
        clear ht3 hs3
        go_wp2
        go_roundw
        case rel => exact ⟨k + 1, u', ys, by go_num, by omega, H3.out⟩
        case measure => simp [intOf]; omega
    · obtain rfl : k = ls.length := by omega
      have d5 : decide ((ls.length : Int) < (ls.length : Int)) = false := by simp
      go_wp2_with fail
      refine (get_one w.heap.size _ wr HN.out.tal).mono ?_
      rintro e w1 ⟨rfl, rfl⟩
      go_wp2
      go_ret
      have e1 := sendN_all (plain xs) (plain ls)
      rw [plain_len] at e1
      exact ⟨by rw [← e1.2]; rfl, u', ys, HN.out.let_.trans e1.1, HN.out.net, HN.out.sav, HN.out.nxt⟩
end Go.Proofs.Ytocedfagfmkgdaa
