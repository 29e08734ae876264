/- pushNext of the program's machine; its key's cell is asked. -/
import Derived.Test.YtpggfdnpbipckaaGreatDoorVOps3
namespace Go.Proofs.YtpggfdnpbipckaaGreatDoor
open Go.RowKit Go.Lib
set_option linter.unusedVariables false
set_option maxRecDepth 100000

variable {E : Fx} {m : St} {i : Int} {d : Nat} {w : World}
theorem owns_sav {e s n base : Nat} {v : Value} {xs : List Value} {S : Nat → Prop} {w' : World} (h : w.ownsRow base e s v n xs) (hs : Sav S w w') (hn : ∀ q, v.ownBlock = some q → ¬ S q) : w'.ownsRow base e s v n xs := by
  refine ⟨h.1, ?_⟩
  rcases h.2 with h1 | ⟨g, cap, cur, rfl, hb, hh, r⟩
  · exact .inl h1
  · exact .inr ⟨g, cap, cur, rfl, hb, hs.at hh (hn g rfl), r⟩
theorem KeyOk.kind (h : KeyOk E w) : ∃ cs f, w.heap[E.kb]? = some (.cells cs 87 f) := by
  rcases h with ⟨h1, _⟩ | h1
  · exact ⟨_, _, h1⟩
  · exact ⟨_, _, h1⟩
/-- Only the key's cell has turned. -/
theorem VM.asked {vs vt : Value} (h : VM E vs vt m i d w) {w' : World} (hs : Sav (Also Non E.kb) w w') (hk : w'.heap[E.kb]? = some (clObj 1 0 1 .nilFunc E.key)) : VM E vs vt m i d w' := by
  obtain ⟨cs, hc, hC⟩ := h.blk
  obtain ⟨ks, kf, hkb⟩ := h.ky.kind
  have hne : E.b ≠ E.kb := block_ne hc hkb (by decide)
  have hb : Below E.w0.heap.size w w' := hs.below (by intro k hk; rcases hk with hk | hk; exact hk.elim; rw [hk]; exact h.kbase) h.bel.size
  refine ⟨h.bel.trans hb, h.base, h.kbase, ⟨cs, hs.at hc (by intro hx; rcases hx with hx | hx; exact hx; exact hne hx), hC⟩, .inr hk, owns_sav h.st hs ?_, owns_sav h.tl hs ?_⟩
  · intro q hq hx
    rcases hx with hx | hx
    · exact hx
    · rw [hx] at hq
      exact owns_off h.st hkb (by decide) hq
  · intro q hq hx
    rcases hx with hx | hx
    · exact hx
    · rw [hx] at hq
      exact owns_off h.tl hkb (by decide) hq
theorem keyFn_calls (kv : Nat) (key : ByteArray) (w : World) (h : w.heap[kv]? = some (.cells #[.string key] 9 (0, 0))) : Calls Tryz.prog 34 #[.pointer (some ⟨kv, 0, none⟩)] w fun e w' => e = .returned (.string key) ∧ w' = w := by
  have c0 : w.cell? ⟨kv, 0, none⟩ = some (.string key) := cell_of_cells h
  clear h
  go_enter Tryz.func34, Tryz.ntmps34
  go_wp2
  go_ret
  exact ⟨rfl, rfl⟩
/-- The key's text, asked the first time or again. -/
theorem key_get (h : VMac E m i d w) : Calls Tryz.prog 45 #[.pointer (some ⟨E.kb, 0, none⟩)] w fun e w' => e = .returned (.string E.key) ∧ VMac E m i d w' := by
  obtain ⟨vs, vt, h⟩ := h
  rcases h.ky with ⟨h1, h2⟩ | h1
  · have hne : E.kv ≠ E.kb := block_ne h2 h1 (by decide)
    refine (get_first E.kb _ E.key Non (fun _ => True) w h1 (fun h => h) (fun _ _ _ h => h) (fun x hx => ?_)).mono ?_
    · refine textOf_fn 34 #[.pointer (some ⟨E.kv, 0, none⟩)] E.key Non (fun _ => True) x (fun _ => rfl) (fun k hk => hk.elim) (fun _ _ _ h => h) (fun y hy => ?_)
      refine (keyFn_calls E.kv E.key y (hy.at (hx.at h2 (fun h => hne h)) (fun h => h))).mono ?_
      rintro e w' ⟨rfl, rfl⟩
      exact ⟨rfl, Sav.refl _ _, trivial⟩
    · rintro e w' ⟨rfl, hb, hs, _⟩
      exact ⟨rfl, vs, vt, h.asked hs hb⟩
  · refine (get_done E.kb 0 1 .nilFunc E.key w h1).mono ?_
    rintro e w' ⟨rfl, rfl⟩
    exact ⟨rfl, vs, vt, h⟩

set_option maxHeartbeats 2000000 in
theorem pushNext_any {vals : List ByteArray} (h : VMac E m i d w) (hs : m.stack.length ≤ 16) (hvv : Txs E.w0 E.vv vals) (hfew : vals.length ≤ 100) (htk : m.taken ≤ vals.length) :
    Calls Tryz.prog 46 #[.pointer (some ⟨E.b, 0, none⟩)] w (Did E i d (if m.taken < vals.length then push { m with taken := m.taken + 1 } m.stack [.text (vals.getD m.taken ⟨#[]⟩), .num 1] else push m m.stack [.num 0])) := by
  obtain ⟨vs, vt, h⟩ := h
  obtain ⟨ao, cap, hvE, g1, g2, g3, g4⟩ := hvv
  have HV := hid h
  have c2 := h.cV
  have c3 := h.cT
  rw [hvE] at c2
  clear h
  obtain ⟨t, et⟩ : ∃ t, m.taken = t := ⟨_, rfl⟩
  rw [et] at c3 htk ⊢
  by_cases hlt : t < vals.length
  · rw [if_pos hlt]
    obtain ⟨b, off, rfl, hb, hc⟩ := g4 (by intro e; rw [e] at hlt; simp at hlt)
    have x0 : w.cell? ⟨b, off + t, none⟩ = some (.string (vals.getD t ⟨#[]⟩)) := by
      have e1 := hc t vals[t] (List.getElem?_eq_getElem hlt) 0 _ rfl
      rw [List.getD_eq_getElem?_getD, List.getElem?_eq_getElem hlt]
      have e2 := (HV.out.bel.cell (p := ⟨b, off + t * 1 + 0, none⟩) hb).trans e1
      simpa using e2
    generalize vals.getD t ⟨#[]⟩ = x at x0 ⊢
    have hd : decide ((vals.length : Int) ≤ (t : Int)) = false := by simp; omega
    have hd2 : (t : Int) < (vals.length : Int) := by omega
    clear hc g3 g4
    go_enter Tryz.func46, Tryz.ntmps46
    go_wp2_with fail
    go_quiet (fail)
    have HV1 := hid (HV.out.on (below_drew w nq))
    have x1 : (w.drewN nq).cell? ⟨b, off + t, none⟩ = some (.string x) := x0
    clear c2 c3 x0 HV
    generalize w.drewN nq = W at HV1 x1 ⊢
    have c2 := HV1.out.cV
    have c3 := HV1.out.cT
    rw [hvE] at c2
    rw [et] at c3
    go_wp2_with fail
    go_quiet (fail)
    have HV2 := hid (HV1.out.on (below_drew W nq))
    clear c2 c3 x1 HV1
    generalize W.drewN nq = W2 at HV2 ⊢
    have c3 := HV2.out.cT
    rw [et] at c3
    have f3 := HV2.out.free 3
    have HV3 := hid (show VM E vs vt { m with taken := t + 1 } i d (W2.setCell ⟨E.b, 3, none⟩ (.int .i64 ((t : Int) + 1))) from HV2.out.taken (t + 1))
    go_wp2_with fail
    generalize W2.setCell ⟨E.b, 3, none⟩ (.int .i64 ((t : Int) + 1)) = W3 at HV3 ⊢
    clear c3 f3 HV2
    refine (bytes_calls x _).mono ?_
    rintro e w1 ⟨rfl, hb1⟩
    have HV4 := hid (HV3.out.on hb1)
    clear hb1 HV3
    go_wp2_with fail
    refine (int_calls 1 _).mono ?_
    rintro e w2 ⟨rfl, hb2⟩
    have HV5 := hid ((HV4.out.on hb2).on (alloc1 w2 (.cells #[.bool true, .int .i64 0, .string x, .bool false, .int .i64 1, .string ⟨#[]⟩] 57)))
    have HX := hid (made2 (.text x) (.num 1) w2)
    clear hb2 HV4
    go_wp2_with fail
    refine (push_any ⟨_, _, HV5.out⟩ hs HX.out (by simp) (by simp)).mono ?_
    rintro e w3 hd
    obtain ⟨r, rfl⟩ := hd.shape
    have HD := hid hd
    clear hd
    go_wp2
    go_ret
    exact HD.out
  · rw [if_neg hlt]
    have hd : decide ((vals.length : Int) ≤ (t : Int)) = true := by simp; omega
    clear g3 g4
    go_enter Tryz.func46, Tryz.ntmps46
    go_wp2_with fail
    go_quiet (fail)
    have HV1 := hid (HV.out.on (below_drew w nq))
    generalize w.drewN nq = W at HV1 ⊢
    go_wp2_with fail
    refine (int_calls 0 _).mono ?_
    rintro e w1 ⟨rfl, hb1⟩
    have HV2 := hid ((HV1.out.on hb1).on (alloc1 w1 (.cells #[.bool false, .int .i64 0, .string ⟨#[]⟩] 57)))
    have HX := hid (made1 (.num 0) w1)
    clear hb1 HV1
    go_wp2_with fail
    refine (push_any ⟨_, _, HV2.out⟩ hs HX.out (by simp) (by simp)).mono ?_
    rintro e w3 hd
    obtain ⟨r, rfl⟩ := hd.shape
    have HD := hid hd
    clear hd
    go_wp2
    go_ret
    exact HD.out
end Go.Proofs.YtpggfdnpbipckaaGreatDoor
