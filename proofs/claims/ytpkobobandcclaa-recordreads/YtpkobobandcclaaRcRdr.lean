/- The program's reader of a record: what its methods do. -/
import Derived.Test.YtpkobobandcclaaRcLayAll
import Derived.Test.YtpkobobandcclaaRdProg
import Derived.Handy
namespace Go.Proofs.Ytpkobobandcclaa
open Go.RowKit
set_option linter.unusedVariables false

/-- A reader of the bytes c, at a place; whether all was there so far. -/
structure Rdr (X : Nat) (sb : Value) (c : List Int) (at_ : Nat) (ok : Bool) (w : World) : Prop where
  blk : w.heap[X]? = some (.cells #[sb, .int .i64 at_, .bool ok] 68 (0, 0))
  bs : Bs w sb c
  byt : Byt c
  le : at_ ≤ c.length
theorem Rdr.below {X : Nat} {sb : Value} {c : List Int} {at_ : Nat} {ok : Bool} {w w' : World} (h : Rdr X sb c at_ ok w) (hb : Below w.heap.size w w') : Rdr X sb c at_ ok w' :=
  ⟨(hb.block _ (lt_of_block h.blk)).trans h.blk, h.bs.below hb, h.byt, h.le⟩
/-- Bytes lie in no block that has none. -/
theorem Bs.apart {X : Nat} {w w' : World} {v : Value} {l : List Int} {cs : Array Value} {t : TypeId} (h : Bs w v l) (hs : Sav (Just X) w w') (hX : w.heap[X]? = some (.cells cs t (0, 0))) (hc : ∀ (j : Nat) (n : Int), cs[j]? ≠ some (Value.int .u8 n)) : Bs w' v l := by
  obtain ⟨ao, cap, rfl, h1, h2, h3, h4⟩ := h
  refine ⟨ao, cap, rfl, h1, h2, h3, fun hl => ?_⟩
  obtain ⟨b, off, rfl, hb, hcell⟩ := h4 hl
  have hne : b ≠ X := by
    intro e
    subst e
    have := hcell 0 (by cases l with | nil => exact absurd rfl hl | cons _ _ => simp)
    rw [cell_of_cells hX] at this
    exact hc _ _ this
  exact ⟨b, off, rfl, Nat.lt_of_lt_of_le hb hs.size, fun j hj => (hs.cell (a := ⟨b, off + j, none⟩) hb hne).trans (hcell j hj)⟩
theorem Rdr.keep {X : Nat} {sb : Value} {c : List Int} {at_ : Nat} {ok : Bool} {w w' : World} (h : Rdr X sb c at_ ok w) (hs : Sav (Just X) w w') : Bs w' sb c := by
  refine h.bs.apart hs h.blk fun j n e => ?_
  obtain ⟨ao, cap, hv, _⟩ := h.bs
  rw [hv] at e
  match j with
  | 0 => simp at e
  | 1 => simp at e
  | 2 => simp at e
  | j + 3 => simp at e
theorem readnum_q (b : Value) (l : List Int) (i : Int) (w : World) (hb : Bs w b l) (hB : Byt l) (x y : Int) (z : Bool) (hr : rdNum l i = (x, y, z)) : ∀ q, Calls Try.prog 53 #[b, .int .i64 i] (w.drewN q) fun e w' => e = .returned (.tuple #[.int .i64 x, .int .i64 y, .bool z]) ∧ ∃ m, w' = w.drewN m :=
  fun q => (readnum_any b l i _ (hb.below (drewN_below _ _)) hB).mono fun e w' ⟨h1, h2⟩ => ⟨by rw [h1, hr], q, h2.symm⟩
theorem readtext_q (b : Value) (l : List Int) (i : Int) (w : World) (hb : Bs w b l) (hB : Byt l) (x : ByteArray) (y : Int) (z : Bool) (hr : rdText l i = (x, y, z)) : ∀ q, Calls Try.prog 70 #[b, .int .i64 i] (w.drewN q) fun e w' => e = .returned (.tuple #[.string x, .int .i64 y, .bool z]) ∧ ∃ m, w' = w.drewN m :=
  fun q => (readtext_all b l i _ (hb.below (drewN_below _ _)) hB).mono fun e w' ⟨h1, h2⟩ => ⟨by rw [h1, hr], q, h2.symm⟩

/-! ### move -/
theorem rdrMove_yes (X : Nat) (sb : Value) (c : List Int) (at_ a : Nat) (ok : Bool) (w : World) (h : Rdr X sb c at_ ok w) (ha : a ≤ c.length) :
    Calls Try.prog 69 #[.pointer (some ⟨X, 0, none⟩), .int .i64 a, .bool true] w fun e w' => e = .returned (.tuple #[]) ∧ Rdr X sb c a ok w' ∧ Sav (Just X) w w' := by
  have H := hid h
  have HA := hid ha
  have hlt := lt_of_block h.blk
  have c1 : w.cell? ⟨X, 1, none⟩ = some (.int .i64 at_) := cell_of_cells h.blk
  have f1 : w.frozen? ⟨X, 1, none⟩ = false := free_of_cells h.blk
  clear h ha
  go_enter Try.func69, Try.ntmps69
  go_wp2
  go_end0
  have hs : Sav (Just X) w (w.setCell ⟨X, 1, none⟩ (.int .i64 a)) := (Sav.refl _ w).setCell (just X) 1 _
  exact ⟨rfl, ⟨set_same H.out.blk, H.out.keep hs, H.out.byt, HA.out⟩, hs⟩
theorem rdrMove_no (X : Nat) (sb : Value) (c : List Int) (at_ : Nat) (y : Int) (ok : Bool) (w : World) (h : Rdr X sb c at_ ok w) :
    Calls Try.prog 69 #[.pointer (some ⟨X, 0, none⟩), .int .i64 y, .bool false] w fun e w' => e = .returned (.tuple #[]) ∧ Rdr X sb c at_ false w' ∧ Sav (Just X) w w' := by
  have H := hid h
  have hlt := lt_of_block h.blk
  have c2 : w.cell? ⟨X, 2, none⟩ = some (.bool ok) := cell_of_cells h.blk
  have f2 : w.frozen? ⟨X, 2, none⟩ = false := free_of_cells h.blk
  clear h
  go_enter Try.func69, Try.ntmps69
  go_wp2
  go_returns
  have hs : Sav (Just X) w (w.setCell ⟨X, 2, none⟩ (.bool false)) := (Sav.refl _ w).setCell (just X) 2 _
  exact ⟨rfl, ⟨set_same H.out.blk, H.out.keep hs, H.out.byt, H.out.le⟩, hs⟩

/-! ### num and text -/
set_option maxHeartbeats 4000000 in
theorem rdrNum_yes (X : Nat) (sb : Value) (c : List Int) (at_ a : Nat) (ok : Bool) (w : World) (h : Rdr X sb c at_ ok w) (x : Int) (hr : rdNum c at_ = (x, (a : Int), true)) :
    Calls Try.prog 64 #[.pointer (some ⟨X, 0, none⟩)] w fun e w' => e = .returned (.int .i64 x) ∧ Rdr X sb c a ok w' ∧ Sav (Just X) w w' := by
  have H := hid h
  have HR := hid hr
  have hp := rd_pre h.byt hr
  have HA := hid (show a ≤ c.length by have h1 := hp.2.1; have h2 := hp.2.2.1; omega)
  have hlt := lt_of_block h.blk
  have c0 : w.cell? ⟨X, 0, none⟩ = some sb := cell_of_cells h.blk
  have c1 : w.cell? ⟨X, 1, none⟩ = some (.int .i64 at_) := cell_of_cells h.blk
  clear hr h hp
  go_enter Try.func64, Try.ntmps64
  go_wp2
  go_quiet ((go_at_call 53; exact readnum_q _ c at_ w H.out.bs H.out.byt x a true HR.out _))
  have H2 := hid (H.out.below (drewN_below w nq))
  go_wp2_with fail
  refine (rdrMove_yes X sb c at_ a ok _ H2.out HA.out).mono ?_
  rintro e w2 ⟨rfl, h2, hs2⟩
  go_wp2
  go_ret
  exact ⟨rfl, h2, (Sav.of_below (drewN_below w _)).trans hs2⟩
set_option maxHeartbeats 4000000 in
theorem rdrNum_no (X : Nat) (sb : Value) (c : List Int) (at_ : Nat) (ok : Bool) (w : World) (h : Rdr X sb c at_ ok w) (x y : Int) (hr : rdNum c at_ = (x, y, false)) :
    Calls Try.prog 64 #[.pointer (some ⟨X, 0, none⟩)] w fun e w' => e = .returned (.int .i64 x) ∧ Rdr X sb c at_ false w' ∧ Sav (Just X) w w' := by
  have H := hid h
  have HR := hid hr
  have hlt := lt_of_block h.blk
  have c0 : w.cell? ⟨X, 0, none⟩ = some sb := cell_of_cells h.blk
  have c1 : w.cell? ⟨X, 1, none⟩ = some (.int .i64 at_) := cell_of_cells h.blk
  clear hr h
  go_enter Try.func64, Try.ntmps64
  go_wp2
  go_quiet ((go_at_call 53; exact readnum_q _ c at_ w H.out.bs H.out.byt x y false HR.out _))
  have H2 := hid (H.out.below (drewN_below w nq))
  go_wp2_with fail
  refine (rdrMove_no X sb c at_ y ok _ H2.out).mono ?_
  rintro e w2 ⟨rfl, h2, hs2⟩
  go_wp2
  go_ret
  exact ⟨rfl, h2, (Sav.of_below (drewN_below w _)).trans hs2⟩
set_option maxHeartbeats 4000000 in
theorem rdrText_yes (X : Nat) (sb : Value) (c : List Int) (at_ a : Nat) (ok : Bool) (w : World) (h : Rdr X sb c at_ ok w) (x : ByteArray) (hr : rdText c at_ = (x, (a : Int), true)) :
    Calls Try.prog 66 #[.pointer (some ⟨X, 0, none⟩)] w fun e w' => e = .returned (.string x) ∧ Rdr X sb c a ok w' ∧ Sav (Just X) w w' := by
  have H := hid h
  have HR := hid hr
  have hp := rdt_pre h.byt hr
  have HA := hid (show a ≤ c.length by have h1 := hp.2.1; have h2 := hp.2.2.1; omega)
  have hlt := lt_of_block h.blk
  have c0 : w.cell? ⟨X, 0, none⟩ = some sb := cell_of_cells h.blk
  have c1 : w.cell? ⟨X, 1, none⟩ = some (.int .i64 at_) := cell_of_cells h.blk
  clear hr h hp
  go_enter Try.func66, Try.ntmps66
  go_wp2
  go_quiet ((go_at_call 70; exact readtext_q _ c at_ w H.out.bs H.out.byt x a true HR.out _))
  have H2 := hid (H.out.below (drewN_below w nq))
  go_wp2_with fail
  refine (rdrMove_yes X sb c at_ a ok _ H2.out HA.out).mono ?_
  rintro e w2 ⟨rfl, h2, hs2⟩
  go_wp2
  go_ret
  exact ⟨rfl, h2, (Sav.of_below (drewN_below w _)).trans hs2⟩
set_option maxHeartbeats 4000000 in
theorem rdrText_no (X : Nat) (sb : Value) (c : List Int) (at_ : Nat) (ok : Bool) (w : World) (h : Rdr X sb c at_ ok w) (x : ByteArray) (y : Int) (hr : rdText c at_ = (x, y, false)) :
    Calls Try.prog 66 #[.pointer (some ⟨X, 0, none⟩)] w fun e w' => e = .returned (.string x) ∧ Rdr X sb c at_ false w' ∧ Sav (Just X) w w' := by
  have H := hid h
  have HR := hid hr
  have hlt := lt_of_block h.blk
  have c0 : w.cell? ⟨X, 0, none⟩ = some sb := cell_of_cells h.blk
  have c1 : w.cell? ⟨X, 1, none⟩ = some (.int .i64 at_) := cell_of_cells h.blk
  clear hr h
  go_enter Try.func66, Try.ntmps66
  go_wp2
  go_quiet ((go_at_call 70; exact readtext_q _ c at_ w H.out.bs H.out.byt x y false HR.out _))
  have H2 := hid (H.out.below (drewN_below w nq))
  go_wp2_with fail
  refine (rdrMove_no X sb c at_ y ok _ H2.out).mono ?_
  rintro e w2 ⟨rfl, h2, hs2⟩
  go_wp2
  go_ret
  exact ⟨rfl, h2, (Sav.of_below (drewN_below w _)).trans hs2⟩

/-! ### What is known of a reading -/
/-- A number was read, or was lacking. -/
structure NumIs (c : List Int) (at_ : Nat) (ok : Bool) (x : Int) (a : Nat) (ok' : Bool) : Prop where
  le : a ≤ c.length
  yes : ok' = true → ok = true ∧ rdNum c at_ = (x, ((at_ + 8 : Nat) : Int), true) ∧ a = at_ + 8
  no : ok' = false → ok = false ∨ (rdNum c at_).2.2 = false
theorem rdrNum_any (X : Nat) (sb : Value) (c : List Int) (at_ : Nat) (ok : Bool) (w : World) (h : Rdr X sb c at_ ok w) :
    Calls Try.prog 64 #[.pointer (some ⟨X, 0, none⟩)] w fun e w' => ∃ x a ok', e = .returned (.int .i64 x) ∧ Rdr X sb c a ok' w' ∧ Sav (Just X) w w' ∧ NumIs c at_ ok x a ok' := by
  rcases hz : rdNum c at_ with ⟨x, y, z⟩
  cases z with
  | false =>
    refine (rdrNum_no X sb c at_ ok w h x y hz).mono ?_
    rintro e w' ⟨rfl, h1, h2⟩
    exact ⟨x, at_, false, rfl, h1, h2, h1.le, (fun e => by cases e), fun _ => .inr (by rw [hz])⟩
  | true =>
    obtain ⟨p1, rfl, p3, p4⟩ := rd_pre h.byt hz
    refine (rdrNum_yes X sb c at_ (at_ + 8) ok w h x hz).mono ?_
    rintro e w' ⟨rfl, h1, h2⟩
    refine ⟨x, at_ + 8, ok, rfl, h1, h2, h1.le, fun e => ⟨e, hz, rfl⟩, fun e => .inl e⟩
/-- A text was read, or was lacking. -/
structure TextIs (c : List Int) (at_ : Nat) (ok : Bool) (x : ByteArray) (a : Nat) (ok' : Bool) : Prop where
  le : a ≤ c.length
  big : x.size ≤ c.length
  yes : ok' = true → ok = true ∧ rdText c at_ = (x, ((at_ + 8 + x.size : Nat) : Int), true) ∧ a = at_ + 8 + x.size
  no : ok' = false → ok = false ∨ (rdText c at_).2.2 = false
theorem rdrText_any (X : Nat) (sb : Value) (c : List Int) (at_ : Nat) (ok : Bool) (w : World) (h : Rdr X sb c at_ ok w) :
    Calls Try.prog 66 #[.pointer (some ⟨X, 0, none⟩)] w fun e w' => ∃ x a ok', e = .returned (.string x) ∧ Rdr X sb c a ok' w' ∧ Sav (Just X) w w' ∧ TextIs c at_ ok x a ok' := by
  rcases hz : rdText c at_ with ⟨x, y, z⟩
  cases z with
  | false =>
    have hx : x.size ≤ c.length := by
      unfold rdText at hz
      split at hz
      · simp only [Prod.mk.injEq] at hz
        rw [← hz.1]
        exact Nat.zero_le _
      · simp at hz
    refine (rdrText_no X sb c at_ ok w h x y hz).mono ?_
    rintro e w' ⟨rfl, h1, h2⟩
    exact ⟨x, at_, false, rfl, h1, h2, h1.le, hx, (fun e => by cases e), fun _ => .inr (by rw [hz])⟩
  | true =>
    obtain ⟨p1, rfl, p3, p4⟩ := rdt_pre h.byt hz
    refine (rdrText_yes X sb c at_ (at_ + 8 + x.size) ok w h x hz).mono ?_
    rintro e w' ⟨rfl, h1, h2⟩
    refine ⟨x, at_ + 8 + x.size, ok, rfl, h1, h2, h1.le, by omega, fun e => ⟨e, hz, rfl⟩, fun e => .inl e⟩
end Go.Proofs.Ytpkobobandcclaa
